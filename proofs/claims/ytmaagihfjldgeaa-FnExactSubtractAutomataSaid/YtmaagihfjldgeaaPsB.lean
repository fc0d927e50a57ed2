/- Sets of small numbers as bits of an int: the program's four small functions on them. -/
import Derived.Test.YtmaagihfjldgeaaPsM
import Derived.Test.YtmaagihfjldgeaaK0
namespace Go.Proofs.Ytmaagihfjldgeaa
set_option maxRecDepth 100000
open Go.ChangeShapes Go.WideShapes Go.ChangeAt Go.RowKit
set_option linter.unusedVariables false
set_option linter.unusedSimpArgs false

theorem pow_lt62 {k : Nat} (h : k ≤ 62) : 2 ^ k < 9223372036854775808 := by
  have : 2 ^ k ≤ 2 ^ 62 := Nat.pow_le_pow_right (by decide) h
  omega
theorem wrap64_in {x : Int} (h0 : -9223372036854775808 ≤ x) (h1 : x < 9223372036854775808) : wrap64 x = x := by
  unfold wrap64; omega
theorem wrap64_pow {k : Nat} (h : k ≤ 62) : wrap64 (2 ^ k) = ((2 ^ k : Nat) : Int) := by
  have h1 := pow_lt62 h
  have h2 : ((2 : Int) ^ k) = ((2 ^ k : Nat) : Int) := by simp
  rw [h2]
  generalize 2 ^ k = m at h1
  exact wrap64_in (by omega) (by omega)
theorem wrapI_pow {k : Nat} (h : k ≤ 62) : IntKind.i64.wrap (2 ^ k) = ((2 ^ k : Nat) : Int) := by
  have h1 := pow_lt62 h
  have h2 : ((2 : Int) ^ k) = ((2 ^ k : Nat) : Int) := by simp
  rw [h2]
  exact wrap_small _ h1
set_option maxRecDepth 100000 in
theorem setOf_any (k : Nat) (w : World) (hk : k ≤ 62) : Calls Try.prog 75 #[.int .i64 (k : Int)] w fun e w' => e = .returned (.int .i64 ((2 ^ k : Nat) : Int)) ∧ w = w' := by
  go_enter Try.func75, Try.ntmps75
  go_wp2
  go_ret
  exact ⟨ret_int (wrap64_pow hk), rfl⟩
theorem ne_cast (n : Nat) : ((n : Int) != 0) = !(n == 0) := by
  cases n with
  | zero => rfl
  | succ n => simp; omega
theorem and_pow_ne {S k : Nat} : (!((S &&& 2 ^ k) == 0)) = S.testBit k := by
  cases h : S.testBit k with
  | false =>
    have : S &&& 2 ^ k = 0 := by
      refine Nat.eq_of_testBit_eq fun j => ?_
      rw [Nat.testBit_and, Nat.testBit_two_pow, Nat.zero_testBit]
      by_cases e : k = j
      · subst e; rw [h]; rfl
      · simp [e]
    rw [this]; rfl
  | true =>
    have : S &&& 2 ^ k ≠ 0 := by
      intro e
      have h2 : (S &&& 2 ^ k).testBit k = true := by rw [Nat.testBit_and, h, Nat.testBit_two_pow_self]; rfl
      rw [e, Nat.zero_testBit] at h2; cases h2
    simp [this]
set_option maxRecDepth 100000 in
theorem has_any (S k : Nat) (w : World) (hS : S < 4611686018427387904) (hk : k ≤ 62) : Calls Try.prog 87 #[.int .i64 (S : Int), .int .i64 (k : Int)] w fun e w' => e = .returned (.bool (S.testBit k)) ∧ w = w' := by
  obtain ⟨P, hP⟩ : ∃ P, P = 2 ^ k := ⟨_, rfl⟩
  have h1 := pow_lt62 hk
  rw [← hP] at h1
  have hb := i64_and_nat S P (by omega) h1
  have HR : Hid ((((S &&& P : Nat) : Int) != 0) = S.testBit k) := by unfold Hid; rw [hP, ne_cast]; exact and_pow_ne
  have HC : Hid (∀ w, Calls Try.prog 75 #[.int .i64 (k : Int)] w fun e w' => e = .returned (.int .i64 (P : Int)) ∧ w = w') := fun w => by rw [hP]; exact setOf_any k w hk
  clear hP
  go_enter Try.func87, Try.ntmps87
  go_wp2_with fail
  refine (HC.out _).mono ?_
  rintro e w1 ⟨rfl, rfl⟩
  go_wp2
  go_ret
  exact ⟨ret_bool HR.out, rfl⟩
set_option maxRecDepth 100000 in
theorem statesOf_any (S : Nat) (w : World) (hS : S < 4611686018427387904) : Calls Try.prog 140 #[.int .i64 (S : Int)] w fun e w' => e = .returned (.int .i64 ((S * 2 : Nat) : Int)) ∧ w = w' := by
  go_enter Try.func140, Try.ntmps140
  go_wp2
  go_ret
  exact ⟨ret_int (by omega), rfl⟩
set_option maxRecDepth 100000 in
theorem isBelow_any (x : Int) (n : Nat) (w : World) (hn : n ≤ 62) : Calls Try.prog 138 #[.int .i64 x, .int .i64 (n : Int)] w fun e w' => e = .returned (.bool (setB n x)) ∧ w = w' := by
  obtain ⟨P, hP⟩ : ∃ P, P = 2 ^ n := ⟨_, rfl⟩
  have h1 := pow_lt62 hn
  rw [← hP] at h1
  have HR : Hid (setB n x = decide (0 ≤ x ∧ x < (P : Int))) := by
    unfold Hid setB inB; rw [← hP, Bool.eq_iff_iff]; simp; omega
  have HC : Hid (∀ w, Calls Try.prog 75 #[.int .i64 (n : Int)] w fun e w' => e = .returned (.int .i64 (P : Int)) ∧ w = w') := fun w => by rw [hP]; exact setOf_any n w hn
  clear hP
  by_cases h0 : 0 ≤ x
  · have d0 : decide (0 ≤ x) = true := by simpa using h0
    have HR2 : Hid (setB n x = decide (x < (P : Int))) := by unfold Hid; rw [HR.out, Bool.eq_iff_iff]; simp [h0]
    go_enter Try.func138, Try.ntmps138
    go_wp2_with fail
    refine (HC.out _).mono ?_
    rintro e w1 ⟨rfl, rfl⟩
    go_wp2
    go_ret
    exact ⟨ret_bool HR2.out.symm, rfl⟩
  · have d0 : decide (0 ≤ x) = false := by simpa using h0
    have HR2 : Hid (setB n x = false) := by unfold Hid; rw [HR.out]; simp; omega
    go_enter Try.func138, Try.ntmps138
    go_wp2
    go_ret
    exact ⟨ret_bool HR2.out.symm, rfl⟩
end Go.Proofs.Ytmaagihfjldgeaa
