/- The law of ParseEdge, walked. -/
import Derived.Test.YtpmkpeclfhmhlaaDoorPeI
import Derived.Test.YtpmkpeclfhmhlaaDoorK1
namespace Go.Proofs.YtpmkpeclfhmhlaaDoor
set_option maxRecDepth 100000
open Go.ChangeShapes Go.WideShapes Go.ChangeAt Go.RowKit
set_option linter.unusedVariables false
set_option maxHeartbeats 1000000 in
set_option maxRecDepth 100000 in
theorem fnExactParseEdge_walk (s : ByteArray) (hs : s.size ≤ maxLen) (w : World) (ht : Tab w) (hf : Fmts w) (hm : MaxL w) :
    Calls Tryd.prog 4 #[.string s] w fun en w' => en = .returned (.bool true) ∧ Since w w' := by
  unfold maxLen at hs
  by_cases hbig : 1048576 < s.size
  · clear ht hf hm
    go_enter Tryd.func4, Tryd.ntmps4
    go_wp2
    go_ret
    exact ⟨rfl, Since.refl _⟩
  · have hsm : s.size ≤ 1048576 := by omega
    have HS : Hid (∀ W, Calls Tryd.prog 10 #[.string s] W fun en w' => en = .returned (.tuple #[ev (peO s).1, .bool (peO s).2]) ∧ Since W w') := fun W => specPE_any s W hsm
    have HI : Hid (∀ W, Since w W → Calls Tryd.prog 11 #[.string s] W fun en w' => en = .returned (.tuple #[ev (peO s).1, .bool (peO s).2]) ∧ Since W w') := fun W hW => implPE_any s W hsm (ht.since hW) (hf.since hW) (hm.since hW)
    clear ht hf hm
    generalize (peO s).2 = c at HS HI
    generalize (peO s).1 = e at HS HI
    have HQ : Hid (∀ W, Calls Tryd.prog 12 #[.agg #[.int .i64 e.id, .int .i64 e.fr, .int .i64 e.to, .int .i64 e.lb], .agg #[.int .i64 e.id, .int .i64 e.fr, .int .i64 e.to, .int .i64 e.lb]] W fun en w' => en = .returned (.bool true) ∧ Since W w') := fun W => (eqEdge_any e e W).mono fun en w' h => by rw [decide_eq_true rfl] at h; exact h
    unfold ev at HS HI
    go_enter Tryd.func4, Tryd.ntmps4
    go_wp2_with fail
    refine (HS.out _).mono ?_
    rintro en w1 ⟨rfl, hs1⟩
    go_wp2_with fail
    have hs2 := hs1.alloc (.cells #[.int .i64 e.id, .int .i64 e.fr, .int .i64 e.to, .int .i64 e.lb] 25)
    have B2 : Hid (Blk (w1.alloc (.cells #[.int .i64 e.id, .int .i64 e.fr, .int .i64 e.to, .int .i64 e.lb] 25)) w1.heap.size 25 #[.int .i64 e.id, .int .i64 e.fr, .int .i64 e.to, .int .i64 e.lb]) := Blk.new rfl _ _
    refine (HI.out _ hs2).mono ?_
    rintro en w3 ⟨rfl, hs3⟩
    have hs03 := hs2.trans hs3
    have B3 := Lib.hid (B2.out.since hs3)
    obtain ⟨u, hu⟩ : ∃ u, u = w1.heap.size := ⟨_, rfl⟩
    rw [← hu] at B3 ⊢
    clear hu B2
    obtain ⟨a0, a1, a2, a3, b0, b1, b2, b3⟩ := (B3.out.alloc (.cells #[.int .i64 e.id, .int .i64 e.fr, .int .i64 e.to, .int .i64 e.lb] 25)).four
    have B4 : Hid (Blk (w3.alloc (.cells #[.int .i64 e.id, .int .i64 e.fr, .int .i64 e.to, .int .i64 e.lb] 25)) w3.heap.size 25 #[.int .i64 e.id, .int .i64 e.fr, .int .i64 e.to, .int .i64 e.lb]) := Blk.new rfl _ _
    obtain ⟨c0, c1, c2, c3, d0, d1, d2, d3⟩ := B4.out.four
    have hs4 := hs03.alloc (.cells #[.int .i64 e.id, .int .i64 e.fr, .int .i64 e.to, .int .i64 e.lb] 25)
    go_wp2_with fail
    refine (HQ.out _).mono ?_
    rintro en w5 ⟨rfl, hs5⟩
    have hs05 := hs4.trans hs5
    go_wp2_with fail
    go_ret
    exact ⟨ret_bool (by simp), hs05⟩
end Go.Proofs.YtpmkpeclfhmhlaaDoor
