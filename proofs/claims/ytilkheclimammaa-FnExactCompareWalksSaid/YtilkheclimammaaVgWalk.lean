/- The law of IsValidGraph, walked. -/
import Derived.Test.YtilkheclimammaaVgI
namespace Go.Proofs.Ytilkheclimammaa
set_option maxRecDepth 100000
open Go.ChangeShapes Go.WideShapes Go.ChangeAt Go.RowKit
set_option linter.unusedVariables false
set_option linter.unusedSimpArgs false

theorem szG_small {g : Grf} (h : ¬ szG g 1048576 < 0) : g.vs.length ≤ 1048577 ∧ g.es.length ≤ 1048577 ∧ (g.vs.length : Int) + (g.es.length : Int) ≤ 1048576 ∧ szG g 1048576 = 1048576 - (g.vs.length : Int) - (g.es.length : Int) := by
  unfold szG szLeft at h ⊢
  by_cases c : (1048576 : Int) - (g.vs.length : Int) < 0
  · rw [if_pos c] at h; omega
  · rw [if_neg c] at h ⊢
    by_cases d : (1048576 : Int) - (g.vs.length : Int) - (g.es.length : Int) < 0
    · rw [if_pos d] at h; omega
    · rw [if_neg d] at h ⊢; omega
theorem szG_is (v : Value) (g : Grf) (left x : Int) (w : World) (h : GrfAt w v g) (hl : g.vs.length ≤ maxLen ∧ g.es.length ≤ maxLen) (h0 : 0 ≤ left) (h1 : left ≤ 1048576) (hx : szG g left = x) :
    Calls Try.prog 26 #[v, .int .i64 left] w fun e w' => e = .returned (.int .i64 x) ∧ Since w w' := by subst hx; exact szGraph_any v g left w h hl.1 hl.2 h0 h1

end Go.Proofs.Ytilkheclimammaa
