/- The model's drawing of a node. -/
import Derived.Test.YtilkheclimammaaDrawW
import Derived.Test.YtilkheclimammaaDraw2
namespace Go.Proofs.Ytilkheclimammaa
set_option maxRecDepth 100000
set_option linter.unusedVariables false
set_option linter.unusedSimpArgs false
open Go.ChangeShapes Go.WideShapes Go.ChangeAt Go.RowKit

set_option maxRecDepth 100000 in
theorem l4Node_any (B cb : Nat) (v : Value) (g : Grf) (w : World) (hc : Cur B w cb) (h : GrfAt w v g) (h5 : g.vs.length ≤ 5) :
    Calls Try.prog 56 #[.pointer (some ⟨cb, 0, none⟩), v] w (IntOut B cb w) := by
  obtain ⟨a, b, rfl, ha, hb⟩ := h
  obtain ⟨ao, ac, rfl, _⟩ := ha.row
  obtain ⟨bo, bc, rfl⟩ := hb.len
  clear ha hb
  obtain ⟨n, hn⟩ : ∃ n, n = g.vs.length := ⟨_, rfl⟩
  obtain ⟨m, hm⟩ : ∃ m, m = g.es.length := ⟨_, rfl⟩
  rw [← hn] at h5
  rw [← hn, ← hm]
  clear hn hm
  have hs0 : Since w (w.alloc (.cells #[.slice ao n ac, .slice bo m bc] 27)) := (Since.refl w).alloc _
  have B0 : Hid (Blk (w.alloc (.cells #[.slice ao n ac, .slice bo m bc] 27)) w.heap.size 27 #[.slice ao n ac, .slice bo m bc]) := Blk.new rfl _ _
  have hcb := hc.2.1
  have HC0 := Lib.hid (hc.since hs0)
  have HT0 := Lib.hid (Turn.of_since (cb := cb) hs0)
  clear hc hs0
  go_enter Try.func56, Try.ntmps56
  go_wp2_with fail
  generalize (w.alloc (.cells #[.slice ao n ac, .slice bo m bc] 27)) = y at B0 HC0 HT0 ⊢
  refine (l1Once_any B cb 14 _ HC0.out (by omega) (by omega)).mono ?_
  rintro en w1 ⟨k, rfl, hc1, ht1⟩
  have HT1 := Lib.hid (HT0.out.trans ht1)
  have HC1 := Lib.hid hc1
  have R1 := Lib.hid (B0.out.grownQ ht1 (fun e => by injection e; omega))
  clear hc1 ht1 HC0 HT0 B0
  cases k
  · obtain ⟨q0, q1, q2, q3⟩ := R1.out.two
    have hmx : (if (1 : Int) < (n : Int) then (n : Int) else 1) = max 1 (n : Int) := by omega
    go_wp2_with fail
    refine (l1Below_any B cb (max 1 (n : Int)) _ HC1.out (by omega) (by omega)).mono ?_
    rintro en w2 ⟨x, hx0, hx9, rfl, hc2, ht2⟩
    go_wp2_with fail
    go_ret
    exact ⟨x, by omega, by omega, rfl, hc2, HT1.out.trans ht2⟩
  · have hne : w1.heap.size ≠ cb := by have := HC1.out.2.1; omega
    have hsl : Since w1 (w1.alloc (.cells ([-1, 5, 9223372036854775807].map icell).toArray 3)) := (Since.refl w1).alloc _
    have HP := Lib.hid (pick_at [-1, 5, 9223372036854775807] B cb w1.heap.size 3 _ (HC1.out.since hsl) hne (LitAt.new w1 [-1, 5, 9223372036854775807] _ rfl) rfl (by omega) (by omega))
    have HTL := Lib.hid (HT1.out.trans (Turn.of_since hsl))
    unfold icell at HP HTL
    simp only [List.map_cons, List.map_nil] at HP HTL
    clear hne hsl
    go_wp2_with fail
    refine (HP.out).mono ?_
    rintro en w2 ⟨x, hx, rfl, hc2, ht2⟩
    go_wp2_with fail
    go_ret
    exact ⟨x, by simp at hx; omega, by simp at hx; omega, rfl, hc2, HTL.out.trans ht2⟩
end Go.Proofs.Ytilkheclimammaa
