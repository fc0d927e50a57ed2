/- The law of FormatEdge, walked. -/
import Derived.Test.YtpmkpeclfhmhlaaDoorFeD
import Derived.Test.YtpmkpeclfhmhlaaDoorK1
namespace Go.Proofs.YtpmkpeclfhmhlaaDoor
set_option maxRecDepth 100000
open Go.ChangeShapes Go.WideShapes Go.ChangeAt Go.RowKit
set_option linter.unusedVariables false
theorem fnExactFormatEdge_walk (v : Value) (e : Edg) (w : World) (ht : Tab w) (hf : Fmts w) (hv : v = ev e) (hei : e.In) :
    Calls Tryd.prog 3 #[v] w fun en w' => en = .returned (.bool true) ∧ Since w w' := by
  subst hv
  have HT := Lib.hid ht
  have HF := Lib.hid hf
  clear ht hf
  have HS : Hid (∀ W, Calls Tryd.prog 7 #[.agg #[.int .i64 e.id, .int .i64 e.fr, .int .i64 e.to, .int .i64 e.lb]] W fun en w' => en = .returned (.string (fmtE e)) ∧ Since W w') := fun W => specFE_any e W
  have HI : Hid (∀ W, Since w W → Calls Tryd.prog 9 #[.agg #[.int .i64 e.id, .int .i64 e.fr, .int .i64 e.to, .int .i64 e.lb]] W fun en w' => en = .returned (.string (fmtE e)) ∧ Since W w') := fun W hW => implFE_any e W (HT.out.since hW) (HF.out.since hW)
  have HTE : Hid (∀ W, Calls Tryd.prog 8 #[.agg #[.int .i64 e.id, .int .i64 e.fr, .int .i64 e.to, .int .i64 e.lb]] W fun en w' => en = .returned (.agg #[.int .i64 e.id, .int .i64 e.fr, .int .i64 e.to, .int .i64 e.lb]) ∧ Since W w') := fun W => toEdge_any e W
  unfold ev
  have hs0 : Since w (w.alloc (.cells #[.int .i64 e.id, .int .i64 e.fr, .int .i64 e.to, .int .i64 e.lb] 23)) := (Since.refl w).alloc _
  have B0 : Hid (Blk (w.alloc (.cells #[.int .i64 e.id, .int .i64 e.fr, .int .i64 e.to, .int .i64 e.lb] 23)) w.heap.size 23 #[.int .i64 e.id, .int .i64 e.fr, .int .i64 e.to, .int .i64 e.lb]) := Blk.new rfl _ _
  generalize fmtE e = R at HS HI
  go_enter Tryd.func3, Tryd.ntmps3
  go_wp2_with fail
  refine (HTE.out _).mono ?_
  rintro en w1 ⟨rfl, hs1⟩
  have hs01 := hs0.trans hs1
  go_wp2_with fail
  refine (HS.out _).mono ?_
  rintro en w2 ⟨rfl, hs2⟩
  have hs02 := hs01.trans hs2
  obtain ⟨p0, p1, p2, p3, _, _, _, _⟩ := (B0.out.since (hs1.trans hs2)).four
  go_wp2_with fail
  refine (HTE.out _).mono ?_
  rintro en w3 ⟨rfl, hs3⟩
  have hs03 := hs02.trans hs3
  go_wp2_with fail
  refine (HI.out _ hs03).mono ?_
  rintro en w4 ⟨rfl, hs4⟩
  have hs04 := hs03.trans hs4
  go_wp2_with fail
  go_ret
  exact ⟨ret_bool (by simp), hs04⟩
end Go.Proofs.YtpmkpeclfhmhlaaDoor
