/- EqualBatches, the model's and the program's. -/
import Derived.Test.YtgdeiecbkmhbeaaChgL
import Derived.Test.YtgdeiecbkmhbeaaEqG
namespace Go.Proofs.Ytgdeiecbkmhbeaa
set_option maxRecDepth 100000
open Go.ChangeShapes Go.WideShapes Go.ChangeAt Go.RowKit
set_option linter.unusedVariables false
set_option linter.unusedSimpArgs false

theorem guard_chg : Try.prog.eqGuardType Try.prog.depth 98 = false := by kernel_rfl
theorem equal_edge (d : Nat) (a b : Edg) (w : World) : (Op.equalIn (d + 1 + 1) 93 (ev a) (ev b)).run Try.prog w = .ok (decide (a = b)) w := by
  have u3 := Try.underlying3
  have a3 := Try.isAgg3
  have z3 := Try.sizeOf3
  have hS : Try.prog.underlying 93 = some (.struct (Try.prog.fieldsOf 93)) := by kernel_rfl
  have hp : Try.prog.stoodInHeld 93 = false := by kernel_rfl
  have hd : decide (a = b) = (a.id == b.id && a.fr == b.fr && a.to == b.to && a.lb == b.lb) := by
    rw [Bool.eq_iff_iff]; simp only [decide_eq_true_eq, Edg.eq_iff, Bool.and_eq_true, beq_iff_eq]
    constructor
    · intro h; exact ⟨⟨⟨h.1, h.2.1⟩, h.2.2.1⟩, h.2.2.2⟩
    · intro h; exact ⟨h.1.1.1, h.1.1.2, h.1.2, h.2⟩
  rw [hd]
  unfold ev
  rw [run_equalIn_agg w (d + 1) 93 _ _ hS hp]
  simp only [Program.fieldsOf, Try.underlying93]
  go_simp
  by_cases h1 : a.id = b.id <;> by_cases h2 : a.fr = b.fr <;> by_cases h3 : a.to = b.to <;> by_cases h4 : a.lb = b.lb <;> simp [h1, h2, h3, h4]
theorem neq_chg (a b : Chg) (w : World) : (binOp .neq 98 (cv a) (cv b)).run Try.prog w = .ok (.bool (!decide (a = b))) w := by
  have u4 := Try.underlying4
  have a4 := Try.isAgg4
  have z4 := Try.sizeOf4
  have hS : Try.prog.underlying 98 = some (.struct (Try.prog.fieldsOf 98)) := by kernel_rfl
  have hp : Try.prog.stoodInHeld 98 = false := by kernel_rfl
  have hd : decide (a = b) = (a.ins == b.ins && decide (a.ed = b.ed)) := by
    rw [Bool.eq_iff_iff]; simp only [decide_eq_true_eq, Chg.eq_iff, Bool.and_eq_true, beq_iff_eq]
  rw [hd]
  unfold cv
  have hpa : ∀ (c : Chg) (W : World), (part 93 #[.bool c.ins, .int .i64 c.ed.id, .int .i64 c.ed.fr, .int .i64 (Edg.to c.ed), .int .i64 c.ed.lb] 1).run Try.prog W = .ok (ev c.ed) W := fun c W => by kernel_rfl
  obtain ⟨d, hd⟩ : ∃ d : Nat, 10000 = d + 1 + 1 + 1 := ⟨9997, rfl⟩
  rw [run_neq_struct, hd, run_equalIn_agg w (d + 1 + 1) 98 _ _ hS hp]
  clear hd
  simp only [Program.fieldsOf, Try.underlying98]
  have he := equal_edge d a.ed b.ed
  go_simp
  by_cases h1 : a.ins = b.ins <;> by_cases h2 : a.ed = b.ed <;> simp [h1, h2]
end Go.Proofs.Ytgdeiecbkmhbeaa
