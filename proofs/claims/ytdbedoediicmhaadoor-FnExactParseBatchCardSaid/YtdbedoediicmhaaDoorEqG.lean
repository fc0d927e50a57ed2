/- EqualGraphs, the model's and the program's. -/
import Derived.Test.YtdbedoediicmhaaDoorK2
import Derived.Laws.StructEq
import Derived.BigQuiet
import Derived.Deep.QuietTactic
namespace Go.Proofs.YtdbedoediicmhaaDoor
set_option maxRecDepth 100000
open Go.ChangeShapes Go.WideShapes Go.ChangeAt Go.RowKit
set_option linter.unusedVariables false
set_option linter.unusedSimpArgs false

theorem guard_edge : Tryd.prog.eqGuardType Tryd.prog.depth 40 = false := by kernel_rfl
theorem neq_edge (a b : Edg) (w : World) : (binOp .neq 40 (ev a) (ev b)).run Tryd.prog w = .ok (.bool (!decide (a = b))) w := by
  have u3 := Tryd.underlying3
  have a3 := Tryd.isAgg3
  have z3 := Tryd.sizeOf3
  have hS : Tryd.prog.underlying 40 = some (.struct (Tryd.prog.fieldsOf 40)) := by kernel_rfl
  have hp : Tryd.prog.stoodInHeld 40 = false := by kernel_rfl
  have hd : decide (a = b) = (a.id == b.id && a.fr == b.fr && a.to == b.to && a.lb == b.lb) := by
    rw [Bool.eq_iff_iff]; simp only [decide_eq_true_eq, Edg.eq_iff, Bool.and_eq_true, beq_iff_eq]
    constructor
    · intro h; exact ⟨⟨⟨h.1, h.2.1⟩, h.2.2.1⟩, h.2.2.2⟩
    · intro h; exact ⟨h.1.1.1, h.1.1.2, h.1.2, h.2⟩
  rw [hd]
  unfold ev
  rw [run_neq_struct, show (10000 : Nat) = 9999 + 1 from rfl, run_equalIn_agg w 9999 40 _ _ hS hp]
  simp only [Program.fieldsOf, Tryd.underlying40]
  go_simp
  by_cases h1 : a.id = b.id <;> by_cases h2 : a.fr = b.fr <;> by_cases h3 : a.to = b.to <;> by_cases h4 : a.lb = b.lb <;> simp [h1, h2, h3, h4]

end Go.Proofs.YtdbedoediicmhaaDoor
