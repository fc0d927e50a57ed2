/- Sizes that are small. -/
import Derived.Test.YtgdeiecbkmhbeaaK2
namespace Go.Proofs.Ytgdeiecbkmhbeaa
set_option maxRecDepth 100000
open Go.ChangeShapes Go.WideShapes Go.ChangeAt Go.RowKit
theorem szG_smallB {g : Grf} {left : Int} (hl : left ≤ 1048576) (h : ¬ szG g left < 0) : (0 ≤ szG g left ∧ szG g left ≤ 1048576) ∧ (g.vs.length ≤ 1048577 ∧ g.es.length ≤ 1048577) := by
  unfold szG szLeft at h ⊢
  by_cases c : left - (g.vs.length : Int) < 0
  · rw [if_pos c] at h; omega
  · rw [if_neg c] at h ⊢
    by_cases d : left - (g.vs.length : Int) - (g.es.length : Int) < 0
    · rw [if_pos d] at h; omega
    · rw [if_neg d] at h ⊢; omega
end Go.Proofs.Ytgdeiecbkmhbeaa
