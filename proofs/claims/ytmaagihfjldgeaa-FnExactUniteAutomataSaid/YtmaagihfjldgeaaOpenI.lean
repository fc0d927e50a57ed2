/- Arguments opened: a []int. -/
import Derived.Test.YtmaagihfjldgeaaK0
import Derived.ChangeSlices
namespace Go.Proofs.Ytmaagihfjldgeaa
set_option maxRecDepth 100000
open Go.ChangeShapes Go.WideShapes Go.ChangeAt Go.RowKit

theorem laid_outI : laidOutB Try.prog = true := by kernel_rfl
theorem cells_int : Try.prog.cellsOf 3 = 1 := by kernel_rfl
theorem wf_i64 {n : Int} (h : (Lit.int .i64 n).wf = true) : InI n := by
  simp [Lit.wf] at h
  have e : IntKind.i64.min = -9223372036854775808 := by decide
  rw [e] at h
  exact h
theorem ints_open {H : Type} {enc : TypeId × Value → H} {W : World} {base : Nat} {v : Value} {d : DataW H} {ps : List MemPlace} (hk : Value.okWide Try.prog W .any base 24 v)
    (h : DataW.Trod enc Try.prog W 0 (fun _ => true) true 24 v d ps) : ∃ xs, IntsAt W v xs ∧ xs.length ≤ maxLen := by
  obtain ⟨a0, len, cap, rfl⟩ := okWide_slice Try.underlying24 hk
  obtain ⟨fuel, hf⟩ := h
  rcases open_ints Try.underlying24 Try.underlying3 cells_int hf with ⟨hcs, _⟩ | ⟨a, len', cap', zs, hcs, _, hl, hm, hz, _, hcell, hwz⟩
  · simp [Value.cells] at hcs
    obtain ⟨rfl, rfl, rfl⟩ := hcs
    exact ⟨[], ⟨fun x hx => by simp at hx, .inl ⟨rfl, _, _, rfl⟩⟩, Nat.zero_le _⟩
  · simp [Value.cells] at hcs
    obtain ⟨rfl, rfl, rfl⟩ := hcs
    have hz' : zs.length = cap := by simpa using hz
    have hin : ∀ x ∈ zs.take len, InI x := fun x hx => wf_i64 (hwz x (List.mem_of_mem_take hx))
    have htl : (zs.take len).length = len := by rw [List.length_take]; omega
    by_cases h0 : len = 0
    · subst h0
      exact ⟨[], ⟨fun x hx => by simp at hx, .inl ⟨rfl, _, _, rfl⟩⟩, Nat.zero_le _⟩
    · obtain ⟨b, off, rfl, hc⟩ := ints_at hcell (by omega)
      have hb := World.block_lt_of_cell? _ _ (hc 0 (by omega))
      refine ⟨zs.take len, ⟨hin, .inr ⟨b, off, cap, by rw [htl], hb, fun i hi => ?_⟩⟩, ?_⟩
      · rw [hc i (by omega), List.getD_eq_getElem?_getD, List.getElem?_eq_getElem (by omega : i < zs.length)]
        simp
      · rw [htl]; omega
end Go.Proofs.Ytmaagihfjldgeaa
