/- No two alike: what sorting and compacting tells. -/
import Derived.Test.YtilkheclimammaaNaS
namespace Go.Proofs.Ytilkheclimammaa
set_option maxRecDepth 100000
open Go.ChangeShapes Go.WideShapes Go.ChangeAt Go.RowKit Go.Sort Go.Lib
set_option linter.unusedVariables false

theorem compact_len_iff (zs : List Int) (hs : zs.Pairwise (fun a b => a ≤ b)) : (compact zs).length = zs.length ↔ zs.Nodup := by
  constructor
  · intro h
    have hk : ∀ j, j < zs.length → keeps zs.toArray j = true := by
      unfold compact compactUpTo at h
      rw [List.length_map] at h
      have h2 : ((List.range zs.length).filter (keeps zs.toArray)).length = (List.range zs.length).length := by rw [h]; simp
      intro j hj
      exact List.length_filter_eq_length_iff.1 h2 j (List.mem_range.2 hj)
    rw [List.Nodup, List.pairwise_iff_getElem]
    intro i j hi hj hij
    have h1 := hk j hj
    unfold keeps at h1
    simp only [decide_eq_true_eq] at h1
    have h2 : zs[j] ≠ zs[j - 1]'(by omega) := by
      rcases h1 with h1 | h1
      · omega
      · rw [getElem!_pos zs.toArray j (by simpa using hj), getElem!_pos zs.toArray (j - 1) (by simp; omega)] at h1
        simpa using h1
    have hp := List.pairwise_iff_getElem.1 hs
    have h3 : zs[j - 1]'(by omega) ≤ zs[j] := hp (j - 1) j (by omega) hj (by omega)
    have h4 : zs[i] ≤ zs[j - 1]'(by omega) := by
      by_cases e : i = j - 1
      · subst e; exact Int.le_refl _
      · exact hp i (j - 1) hi (by omega) (by omega)
    omega
  · intro h
    rw [compact_all]
    intro j hj
    unfold keeps
    simp only [decide_eq_true_eq]
    by_cases h0 : j = 0
    · exact .inl h0
    · refine .inr ?_
      rw [getElem!_pos zs.toArray j (by simpa using hj), getElem!_pos zs.toArray (j - 1) (by simp; omega)]
      have := List.pairwise_iff_getElem.1 h (j - 1) j (by omega) hj (by omega)
      simpa using fun e => this e.symm
theorem sorted_distinct (zs : List Int) : decide (((compact (zs.mergeSort fun x y => decide (x ≤ y))).length : Int) = (zs.length : Int)) = decide zs.Nodup := by
  have hp := List.mergeSort_perm zs (fun x y => decide (x ≤ y))
  have hs : (zs.mergeSort fun x y => decide (x ≤ y)).Pairwise (fun a b => a ≤ b) := by
    have := List.pairwise_mergeSort (le := fun x y : Int => decide (x ≤ y)) (fun a b c h1 h2 => by simp at h1 h2 ⊢; omega) (fun a b => by simp; omega) zs
    exact this.imp (fun h => by simpa using h)
  have hi := compact_len_iff _ hs
  rw [hp.length_eq, hp.nodup_iff] at hi
  rw [Bool.eq_iff_iff]
  simp only [decide_eq_true_eq, ← hi]
  omega
end Go.Proofs.Ytilkheclimammaa
