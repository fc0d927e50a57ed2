/- Arguments opened: an edge, a graph. -/
import Derived.Test.YtdbedoediicmhaaDoorOpenI
import Derived.Test.YtdbedoediicmhaaDoorK0
import Derived.Lib.SmallJoins
import Derived.Deep.Slices
namespace Go.Proofs.YtdbedoediicmhaaDoor
set_option maxRecDepth 100000
open Go.ChangeShapes Go.WideShapes Go.ChangeAt Go.RowKit Go.Joins Go.Deep
set_option linter.unusedVariables false

theorem cells_ledge : Tryd.prog.cellsOf 61 = 4 := by kernel_rfl
theorem under_ledge : ∃ f0 f1 f2 f3 : Field, Tryd.prog.underlying 61 = some (.struct #[f0, f1, f2, f3]) ∧ f0.type = 3 ∧ f1.type = 3 ∧ f2.type = 3 ∧ f3.type = 3 ∧
    f0.offset = 0 ∧ f1.offset = 1 ∧ f2.offset = 2 ∧ f3.offset = 3 ∧ oneCellFields Tryd.prog #[f0, f1, f2, f3] = true :=
  ⟨_, _, _, _, Tryd.underlying61, rfl, rfl, rfl, rfl, rfl, rfl, rfl, rfl, by kernel_rfl⟩
theorem ints_of {H : Type} {enc : TypeId × Value → H} {W : World} {fuel : Nat} {v : Value} {x : DataW H × List MemPlace}
    (hf : DataW.trod enc Tryd.prog W 0 (fun _ => true) true fuel 145 [v] = some x) : ∃ xs, IntsAt W v xs ∧ xs.length ≤ maxLen := by
  rcases open_ints Tryd.underlying145 Tryd.underlying3 cells_int hf with ⟨hcs, _⟩ | ⟨a, len', cap', zs, hcs, _, hl, hm, hz, _, hcell, hwz⟩
  · injection hcs with hcs; subst hcs
    exact ⟨[], ⟨fun x hx => by simp at hx, .inl ⟨rfl, _, _, rfl⟩⟩, Nat.zero_le _⟩
  · injection hcs with hcs; subst hcs
    have hz' : zs.length = cap' := by simpa using hz
    have hin : ∀ x ∈ zs.take len', InI x := fun x hx => wf_i64 (hwz x (List.mem_of_mem_take hx))
    have htl : (zs.take len').length = len' := by rw [List.length_take]; omega
    by_cases h0 : len' = 0
    · subst h0
      exact ⟨[], ⟨fun x hx => by simp at hx, .inl ⟨rfl, _, _, rfl⟩⟩, Nat.zero_le _⟩
    · obtain ⟨b, off, rfl, hc⟩ := ints_at hcell (by omega)
      have hb := World.block_lt_of_cell? _ _ (hc 0 (by omega))
      refine ⟨zs.take len', ⟨hin, .inr ⟨b, off, cap', by rw [htl], hb, fun i hi => ?_⟩⟩, ?_⟩
      · rw [hc i (by omega), List.getD_eq_getElem?_getD, List.getElem?_eq_getElem (by omega : i < zs.length)]
        simp
      · rw [htl]; omega
instance : Inhabited Edg := ⟨zeroE⟩
theorem edge_open {H : Type} {enc : TypeId × Value → H} {W : World} {base : Nat} {v : Value} {d : DataW H} {ps : List MemPlace} (hk : Value.okWide Tryd.prog W .any base 61 v)
    (h : DataW.Trod enc Tryd.prog W 0 (fun _ => true) true 61 v d ps) : ∃ e : Edg, v = ev e ∧ e.In := by
  obtain ⟨f0, f1, f2, f3, hu, t0, t1, t2, t3, _, _, _, _, hone⟩ := under_ledge
  obtain ⟨v0, v1, v2, v3, y0, y1, y2, y3, n, rfl, _, _, g0, g1, g2, g3⟩ := open_agg4 hu hone cells_ledge hk h
  rw [t0] at g0
  rw [t1] at g1
  rw [t2] at g2
  rw [t3] at g3
  obtain ⟨x0, e0, _, w0⟩ := DataW.trod_int Tryd.underlying3 g0
  obtain ⟨x1, e1, _, w1⟩ := DataW.trod_int Tryd.underlying3 g1
  obtain ⟨x2, e2, _, w2⟩ := DataW.trod_int Tryd.underlying3 g2
  obtain ⟨x3, e3, _, w3⟩ := DataW.trod_int Tryd.underlying3 g3
  injection e0 with e0; injection e1 with e1; injection e2 with e2; injection e3 with e3
  subst e0 e1 e2 e3
  exact ⟨⟨x0, x1, x2, x3⟩, rfl, wf_i64 w0, wf_i64 w1, wf_i64 w2, wf_i64 w3⟩
end Go.Proofs.YtdbedoediicmhaaDoor
