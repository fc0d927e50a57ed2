/- Letters: which numbers are moves, letters; the inverse. -/
import Derived.Test.YtilkheclimammaaFixed
namespace Go.Proofs.Ytilkheclimammaa
set_option maxRecDepth 100000
set_option linter.unusedVariables false
open Go.ChangeShapes Go.WideShapes Go.ChangeAt Go.RowKit

theorem inB_cases (x lo hi : Int) : (lo ≤ x ∧ x ≤ hi ∧ inB x lo hi = true) ∨ (x < lo ∧ inB x lo hi = false) ∨ (lo ≤ x ∧ hi < x ∧ inB x lo hi = false) := by
  by_cases h : lo ≤ x
  · by_cases h2 : x ≤ hi
    · exact .inl ⟨h, h2, inB_true h h2⟩
    · exact .inr (.inr ⟨h, by omega, inB_false (by omega)⟩)
  · exact .inr (.inl ⟨by omega, inB_false (by omega)⟩)
theorem specIM_any (x : Int) (w : World) : Calls Try.prog 62 #[.int .i64 x] w fun e w' => e = .returned (.bool (inB x 0 5)) ∧ w = w' := by
  go_enter Try.func62, Try.ntmps62
  go_wp2_with (go_at_call 69; refine (l1In_any _ _ _ _).mono ?_; rintro e w' ⟨rfl, rfl⟩)
  go_ret
  exact ⟨rfl, rfl⟩
theorem implIM_any (x : Int) (w : World) : Calls Try.prog 133 #[.int .i64 x] w fun e w' => e = .returned (.bool (inB x 0 5)) ∧ w = w' := by
  rcases inB_cases x 0 5 with ⟨h0, h1, h⟩ | ⟨h0, h⟩ | ⟨h0, h1, h⟩
  · have h2 : x < 6 := by omega
    have H := Lib.hid h
    clear h h1
    go_enter Try.func133, Try.ntmps133
    go_wp2
    go_ret
    exact ⟨ret_bool H.out.symm, rfl⟩
  · have H := Lib.hid h
    clear h
    go_enter Try.func133, Try.ntmps133
    go_wp2
    go_ret
    exact ⟨ret_bool H.out.symm, rfl⟩
  · have h2 : ¬ x < 6 := by omega
    have H := Lib.hid h
    clear h h1
    go_enter Try.func133, Try.ntmps133
    go_wp2
    go_ret
    exact ⟨ret_bool H.out.symm, rfl⟩
/-- The letter that reads the same label in the other direction. -/
def invL (x : Int) : Int := bif inB x 0 5 then bits .xor .i64 x 1 else x
theorem specIL_any (x : Int) (w : World) : Calls Try.prog 19 #[.int .i64 x] w fun e w' => e = .returned (.int .i64 (invL x)) ∧ w = w' := by
  rcases inB_cases x 0 5 with ⟨_, _, h⟩ | ⟨_, h⟩ | ⟨_, _, h⟩
  all_goals
    have HI : Hid (invL x = bif inB x 0 5 then bits .xor .i64 x 1 else x) := rfl
    rw [h] at HI
    go_enter Try.func19, Try.ntmps19
    go_wp2_with (go_at_call 62; refine (specIM_any _ _).mono ?_; rintro e w' ⟨rfl, rfl⟩)
    go_ret
    exact ⟨ret_int HI.out.symm, rfl⟩
theorem implIL_any (x : Int) (w : World) : Calls Try.prog 127 #[.int .i64 x] w fun e w' => e = .returned (.int .i64 (invL x)) ∧ w = w' := by
  rcases inB_cases x 0 5 with ⟨_, _, h⟩ | ⟨_, h⟩ | ⟨_, _, h⟩
  all_goals
    have HI : Hid (invL x = bif inB x 0 5 then bits .xor .i64 x 1 else x) := rfl
    rw [h] at HI
    go_enter Try.func127, Try.ntmps127
    go_wp2_with (go_at_call 133; refine (implIM_any _ _).mono ?_; rintro e w' ⟨rfl, rfl⟩)
    go_ret
    exact ⟨ret_int HI.out.symm, rfl⟩
end Go.Proofs.Ytilkheclimammaa
