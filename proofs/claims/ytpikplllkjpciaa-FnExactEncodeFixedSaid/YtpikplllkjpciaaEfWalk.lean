/- The law of EncodeFixed, walked: at every number and width it returns true. -/
import Derived.Test.YtpikplllkjpciaaEncG
namespace Go.Proofs.Ytpikplllkjpciaa
open Go.ChangeShapes Go.WideShapes Go.ChangeAt Go.RowKit

theorem implEF_any (n m : Nat) (w : World) (h9 : n ≤ 9223372036854775807) (h1 : 1 ≤ m) (h2 : m ≤ 7) :
    Calls Try.prog 10 #[.int .i64 (n : Int), .int .i64 (m : Int)] w fun e w' => e = .returned (.string (encFixed n m)) ∧ Since w w' := by
  by_cases hz : n / 256 ^ m = 0
  · rw [encFixed_in rfl hz]; exact implEF_in n m w h9 h1 h2 hz
  · rw [encFixed_out rfl hz]; exact implEF_out n m w h9 h1 h2 hz

theorem fnExactEncodeFixed_walk (n x : Int) (hn : (Lit.int .i64 n).wf = true) (_hx : (Lit.int .i64 x).wf = true) (w : World) :
    Calls Try.prog 3 #[.int .i64 n, .int .i64 x] w fun e w' => e = .returned (.bool true) ∧ Since w w' := by
  have hb9 : n ≤ 9223372036854775807 := by have := bounds_i64 hn; omega
  clear hn
  by_cases hbad : n < 0 ∨ x < 1 ∨ 7 < x
  · have H := Lib.hid hbad
    clear hbad
    go_enter Try.func3, Try.ntmps3
    go_wp2_with (first
      | (go_at_call 9; refine (specEF_bad _ _ _ H.out).mono ?_; rintro e w1 ⟨rfl, hs1⟩)
      | (go_at_call 10; refine (implEF_bad _ _ _ H.out).mono ?_; rintro e w2 ⟨rfl, hs2⟩))
    go_ret
    exact ⟨rfl, hs1.trans hs2⟩
  · obtain ⟨m, rfl⟩ := Int.eq_ofNat_of_zero_le (show 0 ≤ x by omega)
    obtain ⟨n, rfl⟩ := Int.eq_ofNat_of_zero_le (show 0 ≤ n by omega)
    have h1 : 1 ≤ m := by omega
    have h2 : m ≤ 7 := by omega
    have h9 : n ≤ 9223372036854775807 := by omega
    clear hbad
    go_enter Try.func3, Try.ntmps3
    go_wp2_with (first
      | (go_at_call 9; refine (specEF_end _ _ _ h9 h1 h2).mono ?_; rintro e w1 ⟨rfl, hs1⟩)
      | (go_at_call 10; refine (implEF_any _ _ _ h9 h1 h2).mono ?_; rintro e w2 ⟨rfl, hs2⟩))
    go_ret
    exact ⟨rfl, hs1.trans hs2⟩
end Go.Proofs.Ytpikplllkjpciaa
