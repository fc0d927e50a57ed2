/- Letters as text: the table of formats; FormatLetter. -/
import Derived.Test.YtiojgahjfndmdaaDoorK0
import Derived.Test.YtiojgahjfndmdaaDoorBytes
import Derived.Lib.LaidTab
namespace Go.Proofs.YtiojgahjfndmdaaDoor
set_option maxRecDepth 100000
set_option linter.unusedVariables false
open Go.ChangeShapes Go.WideShapes Go.ChangeAt Go.RowKit

/-- The format of a letter. -/
def fmtB : Nat → ByteArray
  | 0 => ⟨#[97]⟩
  | 1 => ⟨#[97, 45]⟩
  | 2 => ⟨#[98]⟩
  | 3 => ⟨#[98, 45]⟩
  | 4 => ⟨#[99]⟩
  | 5 => ⟨#[99, 45]⟩
  | 6 => ⟨#[48]⟩
  | 7 => ⟨#[49]⟩
  | _ => ⟨#[50]⟩
def fmtL (x : Int) : ByteArray := bif inB x 0 8 then fmtB x.toNat else ⟨#[]⟩
theorem fmtL_in {k : Nat} (h : k ≤ 8) : fmtL (k : Int) = fmtB k := by
  unfold fmtL; rw [inB_true (by omega) (by omega)]; simp
theorem fmtL_out {x : Int} (h : inB x 0 8 = false) : fmtL x = ⟨#[]⟩ := by
  unfold fmtL; rw [h]; rfl
/-- The cells of the program's table. -/
def fbs : List Int := [97, 0, 97, 45, 98, 0, 98, 45, 99, 0, 99, 45, 48, 0, 49, 0, 50, 0]
theorem nine {k : Nat} (h : k ≤ 8) : k = 0 ∨ k = 1 ∨ k = 2 ∨ k = 3 ∨ k = 4 ∨ k = 5 ∨ k = 6 ∨ k = 7 ∨ k = 8 := by omega
theorem inB_nat {x : Int} (h : inB x 0 8 = true) : ∃ k : Nat, k ≤ 8 ∧ x = (k : Int) := by
  have := of_decide_eq_true h
  exact ⟨x.toNat, by omega, by omega⟩

set_option maxHeartbeats 2000000 in
theorem specFL_any (x : Int) (w : World) : Calls Tryd.prog 129 #[.int .i64 x] w fun e w' => e = .returned (.string (fmtL x)) ∧ Since w w' := by
  cases h : inB x 0 8 with
  | false =>
    have H := Lib.hid (fmtL_out h)
    go_enter Tryd.func129, Tryd.ntmps129
    go_wp2_with (go_at_call 72; refine (l2Letter_any _ _).mono ?_; rintro e w' ⟨rfl, rfl⟩)
    go_ret
    exact ⟨ret_str H.out.symm, Since.refl _⟩
  | true =>
    obtain ⟨k, hk, rfl⟩ := inB_nat h
    rcases nine hk with rfl | rfl | rfl | rfl | rfl | rfl | rfl | rfl | rfl
    all_goals
      have H := Lib.hid (fmtL_in hk)
      go_enter Tryd.func129, Tryd.ntmps129
      go_wp2_with (go_at_call 72; refine (l2Letter_any _ _).mono ?_; rintro e w' ⟨rfl, rfl⟩)
      go_ret
      exact ⟨ret_str (H.out.symm ▸ rfl), (Since.refl _).alloc _⟩
end Go.Proofs.YtiojgahjfndmdaaDoor
