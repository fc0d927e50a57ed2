/- EqualGraphs, the model's and the program's: what they answer. -/
import Derived.Test.YtcokggjekleabaaEqG
namespace Go.Proofs.Ytcokggjekleabaa
set_option maxRecDepth 100000
open Go.ChangeShapes Go.WideShapes Go.ChangeAt Go.RowKit
set_option linter.unusedVariables false
set_option linter.unusedSimpArgs false

theorem lexC_zero {xs ys : List Int} (h : lexC xs ys = 0) : xs = ys := by
  induction xs generalizing ys with
  | nil => cases ys with
    | nil => rfl
    | cons y ys => simp [lexC] at h
  | cons x xs ih => cases ys with
    | nil => simp [lexC] at h
    | cons y ys =>
      unfold lexC at h
      by_cases h1 : x < y
      · rw [if_pos h1] at h; omega
      · by_cases h2 : y < x
        · rw [if_neg h1, if_pos h2] at h; omega
        · rw [if_neg h1, if_neg h2] at h
          have : x = y := by omega
          rw [this, ih h]
theorem eqG_split (g h : Grf) (e1 : g.vs = h.vs) : decide (g = h) = decide (g.es = h.es) := by
  by_cases e2 : g.es = h.es
  · rw [decide_eq_true e2, decide_eq_true ((Grf.eq_iff g h).2 ⟨e1, e2⟩)]
  · rw [decide_eq_false e2, decide_eq_false (fun e => e2 (by rw [e]))]

end Go.Proofs.Ytcokggjekleabaa
