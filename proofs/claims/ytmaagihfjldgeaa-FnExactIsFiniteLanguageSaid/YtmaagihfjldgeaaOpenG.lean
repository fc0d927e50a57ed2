/- Arguments opened: an edge, a graph. -/
import Derived.Test.YtmaagihfjldgeaaOpenI
import Derived.Test.YtmaagihfjldgeaaK0
import Derived.Lib.SmallJoins
import Derived.Deep.Slices
namespace Go.Proofs.Ytmaagihfjldgeaa
set_option maxRecDepth 100000
open Go.ChangeShapes Go.WideShapes Go.ChangeAt Go.RowKit Go.Joins Go.Deep
set_option linter.unusedVariables false
theorem ints_of {H : Type} {enc : TypeId × Value → H} {W : World} {fuel : Nat} {v : Value} {x : DataW H × List MemPlace}
    (hf : DataW.trod enc Try.prog W 0 (fun _ => true) true fuel 24 [v] = some x) : ∃ xs, IntsAt W v xs ∧ xs.length ≤ maxLen := by
  rcases open_ints Try.underlying24 Try.underlying3 cells_int hf with ⟨hcs, _⟩ | ⟨a, len', cap', zs, hcs, _, hl, hm, hz, _, hcell, hwz⟩
  · injection hcs with hcs; subst hcs
    exact ⟨[], ⟨fun x hx => by simp at hx, .inl ⟨rfl, _, _, rfl⟩⟩, Nat.zero_le _⟩
  · injection hcs with hcs; subst hcs
    have hz' : zs.length = cap' := by simpa using hz
    have hin : ∀ x ∈ zs.take len', InI x := fun x hx => wf_i64 (hwz x (List.mem_of_mem_take hx))
    have htl : (zs.take len').length = len' := by rw [List.length_take]; omega
    by_cases h0 : len' = 0
    · subst h0
      exact ⟨[], ⟨fun x hx => by simp at hx, .inl ⟨rfl, _, _, rfl⟩⟩, Nat.zero_le _⟩
    · obtain ⟨b, off, rfl, hc⟩ := ints_at hcell (by omega)
      have hb := World.block_lt_of_cell? _ _ (hc 0 (by omega))
      refine ⟨zs.take len', ⟨hin, .inr ⟨b, off, cap', by rw [htl], hb, fun i hi => ?_⟩⟩, ?_⟩
      · rw [hc i (by omega), List.getD_eq_getElem?_getD, List.getElem?_eq_getElem (by omega : i < zs.length)]
        simp
      · rw [htl]; omega
instance : Inhabited Edg := ⟨zeroE⟩
end Go.Proofs.Ytmaagihfjldgeaa
