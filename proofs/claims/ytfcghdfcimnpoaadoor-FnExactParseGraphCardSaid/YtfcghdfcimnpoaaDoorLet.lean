/- Letters: which numbers are moves, letters; the inverse. -/
import Derived.Test.YtfcghdfcimnpoaaDoorFixed
namespace Go.Proofs.YtfcghdfcimnpoaaDoor
set_option maxRecDepth 100000
set_option linter.unusedVariables false
open Go.ChangeShapes Go.WideShapes Go.ChangeAt Go.RowKit

theorem inB_cases (x lo hi : Int) : (lo ≤ x ∧ x ≤ hi ∧ inB x lo hi = true) ∨ (x < lo ∧ inB x lo hi = false) ∨ (lo ≤ x ∧ hi < x ∧ inB x lo hi = false) := by
  by_cases h : lo ≤ x
  · by_cases h2 : x ≤ hi
    · exact .inl ⟨h, h2, inB_true h h2⟩
    · exact .inr (.inr ⟨h, by omega, inB_false (by omega)⟩)
  · exact .inr (.inl ⟨by omega, inB_false (by omega)⟩)
theorem l2Letter_any (x : Int) (w : World) : Calls Tryd.prog 49 #[.int .i64 x] w fun e w' => e = .returned (.bool (inB x 0 8)) ∧ w = w' := by
  go_enter Tryd.func49, Tryd.ntmps49
  go_wp2_with (go_at_call 22; refine (l1In_any _ _ _ _).mono ?_; rintro e w' ⟨rfl, rfl⟩)
  go_ret
  exact ⟨rfl, rfl⟩
theorem isLetter_any (x : Int) (w : World) : Calls Tryd.prog 52 #[.int .i64 x] w fun e w' => e = .returned (.bool (inB x 0 8)) ∧ w = w' := by
  rcases inB_cases x 0 8 with ⟨h0, h1, h⟩ | ⟨h0, h⟩ | ⟨h0, h1, h⟩
  · have h2 : x < 9 := by omega
    have H := Lib.hid h
    clear h h1
    go_enter Tryd.func52, Tryd.ntmps52
    go_wp2
    go_ret
    exact ⟨ret_bool H.out.symm, rfl⟩
  · have H := Lib.hid h
    clear h
    go_enter Tryd.func52, Tryd.ntmps52
    go_wp2
    go_ret
    exact ⟨ret_bool H.out.symm, rfl⟩
  · have h2 : ¬ x < 9 := by omega
    have H := Lib.hid h
    clear h h1
    go_enter Tryd.func52, Tryd.ntmps52
    go_wp2
    go_ret
    exact ⟨ret_bool H.out.symm, rfl⟩
/-- The letter that reads the same label in the other direction. -/
def invL (x : Int) : Int := bif inB x 0 5 then bits .xor .i64 x 1 else x
end Go.Proofs.YtfcghdfcimnpoaaDoor
