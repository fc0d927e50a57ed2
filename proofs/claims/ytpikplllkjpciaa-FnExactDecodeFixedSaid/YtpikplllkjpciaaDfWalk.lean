/- The law of DecodeFixed, walked: at every string and width it returns true. -/
import Derived.Test.YtpikplllkjpciaaFixed
namespace Go.Proofs.Ytpikplllkjpciaa
open Go.ChangeShapes Go.WideShapes Go.ChangeAt Go.RowKit

theorem fnExactDecodeFixed_walk (s : ByteArray) (x : Int) (hs : s.size ≤ maxLen) (_hx : (Lit.int .i64 x).wf = true) (w : World) :
    Calls Try.prog 4 #[.string s, .int .i64 x] w fun e w' => e = .returned (.bool true) ∧ Since w w' := by
  unfold maxLen at hs
  by_cases hbig : 1048576 < s.size
  · go_enter Try.func4, Try.ntmps4
    go_wp2
    go_ret
    exact ⟨rfl, Since.refl _⟩
  · have hsm : s.size ≤ 1048576 := by omega
    by_cases hbad : x < 1 ∨ 7 < x ∨ s.size < x
    · have H := Lib.hid hbad
      clear hbad
      go_enter Try.func4, Try.ntmps4
      go_wp2_with (first
        | (go_at_call 11; refine (specDF_bad _ _ _ H.out hsm).mono ?_; rintro e w' ⟨rfl, rfl⟩)
        | (go_at_call 12; refine (implDF_bad _ _ _ H.out hsm).mono ?_; rintro e w' ⟨rfl, rfl⟩))
      go_ret
      exact ⟨rfl, Since.refl _⟩
    · have h1 : 1 ≤ x := by omega
      have h2 : x ≤ 7 := by omega
      have h3 : x ≤ s.size := by omega
      clear hbad
      go_enter Try.func4, Try.ntmps4
      go_wp2_with (first
        | (go_at_call 11; refine (specDF_ok _ _ _ h1 h2 h3 hsm).mono ?_; rintro e w' ⟨rfl, rfl⟩)
        | (go_at_call 12; refine (implDF_ok _ _ _ h1 h2 h3 hsm).mono ?_; rintro e w' ⟨rfl, rfl⟩))
      go_ret
      exact ⟨rfl, Since.refl _⟩
end Go.Proofs.Ytpikplllkjpciaa
