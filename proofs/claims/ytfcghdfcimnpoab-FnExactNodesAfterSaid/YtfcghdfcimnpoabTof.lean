/- The program's traversalOf, StepFrom, StepTo, StepLetter. -/
import Derived.Test.YtfcghdfcimnpoabTrvG
import Derived.Laws.StructEq
namespace Go.Proofs.Ytfcghdfcimnpoab
set_option maxRecDepth 100000
open Go.ChangeShapes Go.WideShapes Go.ChangeAt Go.RowKit
set_option linter.unusedVariables false
set_option linter.unusedSimpArgs false

theorem guard_step : Try.prog.eqGuardType Try.prog.depth 43 = false := by kernel_rfl
theorem eql_step (a b : Stp) (w : World) : (binOp .eql 43 (sv a) (sv b)).run Try.prog w = .ok (.bool (decide (a = b))) w := by
  have u3 := Try.underlying3
  have a3 := Try.isAgg3
  have z3 := Try.sizeOf3
  have u4 := Try.underlying4
  have a4 := Try.isAgg4
  have z4 := Try.sizeOf4
  have hS : Try.prog.underlying 43 = some (.struct (Try.prog.fieldsOf 43)) := by kernel_rfl
  have hp : Try.prog.stoodInHeld 43 = false := by kernel_rfl
  have hd : decide (a = b) = (a.id == b.id && a.inv == b.inv) := by
    rw [Bool.eq_iff_iff]; simp only [decide_eq_true_eq, Stp.eq_iff, Bool.and_eq_true, beq_iff_eq]
  rw [hd]
  unfold sv
  rw [run_eql_struct, show (10000 : Nat) = 9999 + 1 from rfl, run_equalIn_agg w 9999 43 _ _ hS hp]
  simp only [Program.fieldsOf, Try.underlying43]
  go_simp
  by_cases h1 : a.id = b.id <;> by_cases h2 : a.inv = b.inv <;> simp [h1, h2]

def noTrv : Trv := ⟨0, false, -1, -1, -1⟩
/-- The traversal of this step, or none. -/
def tOf (xs : List Trv) (s : Stp) : Trv := (xs.find? fun t => decide (t.st = s)).getD noTrv
theorem tOf_at {xs : List Trv} {s : Stp} {k : Nat} (hk : k < xs.length) (h : (xs[k]).st = s) (hlt : ∀ j (hj : j < k), (xs[j]'(by omega)).st ≠ s) : tOf xs s = xs[k] := by
  unfold tOf
  rw [List.find?_eq_some_iff_getElem.2 ⟨by simpa using h, k, hk, rfl, fun j hj => by simpa using hlt j hj⟩]; rfl
theorem tOf_none {xs : List Trv} {s : Stp} (h : ∀ j (hj : j < xs.length), (xs[j]).st ≠ s) : tOf xs s = noTrv := by
  unfold tOf
  rw [List.find?_eq_none.2 (fun x hx => by obtain ⟨j, hj, rfl⟩ := List.getElem_of_mem hx; simpa using h j hj)]; rfl
def noTo (xs : List Trv) (s : Stp) (k : Nat) : Prop := ∀ j (_ : j < k) (h : j < xs.length), (xs[j]).st ≠ s
theorem noTo_zero (xs : List Trv) (s : Stp) : noTo xs s 0 := fun j hj => by omega
theorem noTo_step {xs : List Trv} {s : Stp} {k : Nat} (hk : k < xs.length) (h : noTo xs s k) (hx : (xs[k]).st ≠ s) : noTo xs s (k + 1) := by
  intro j hj hl
  by_cases e : j = k
  · subst e; exact hx
  · exact h j (by omega) hl

end Go.Proofs.Ytfcghdfcimnpoab
