/- An argument opened: a step. -/
import Derived.Test.YtpmkpeclfhmhlaaOpenG
import Derived.Test.YtpmkpeclfhmhlaaK1
namespace Go.Proofs.Ytpmkpeclfhmhlaa
set_option maxRecDepth 100000
open Go.ChangeShapes Go.WideShapes Go.ChangeAt Go.RowKit Go.Joins Go.Deep
set_option linter.unusedVariables false

theorem cells_lstep : Try.prog.cellsOf 47 = 2 := by kernel_rfl
theorem under_lstep : ∃ f0 f1 : Field, Try.prog.underlying 47 = some (.struct #[f0, f1]) ∧ f0.type = 3 ∧ f1.type = 4 ∧ oneCellFields Try.prog #[f0, f1] = true :=
  ⟨_, _, Try.underlying47, rfl, rfl, by kernel_rfl⟩
theorem step_open {H : Type} {enc : TypeId × Value → H} {W : World} {base : Nat} {v : Value} {d : DataW H} {ps : List MemPlace} (hk : Value.okWide Try.prog W .any base 47 v)
    (h : DataW.Trod enc Try.prog W 0 (fun _ => true) true 47 v d ps) : ∃ s : Stp, v = sv s ∧ InI s.id := by
  obtain ⟨f0, f1, hu, t0, t1, hone⟩ := under_lstep
  obtain ⟨v0, v1, y0, y1, n, rfl, _, _, g0, g1⟩ := open_agg2 hu hone cells_lstep hk h
  rw [t0] at g0
  rw [t1] at g1
  obtain ⟨x0, e0, _, w0⟩ := DataW.trod_int Try.underlying3 g0
  obtain ⟨x1, e1, _⟩ := DataW.trod_bool Try.underlying4 g1
  injection e0 with e0; injection e1 with e1
  subst e0 e1
  exact ⟨⟨x0, x1⟩, rfl, wf_i64 w0⟩
end Go.Proofs.Ytpmkpeclfhmhlaa
