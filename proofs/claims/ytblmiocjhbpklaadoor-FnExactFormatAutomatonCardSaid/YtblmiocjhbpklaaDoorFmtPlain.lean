/- Decimal numerals: plain facts on the library's own 'decDigits' and 'itoa'. -/
import Derived.Lib.ItoaNum
import Derived.Test.YtblmiocjhbpklaaDoorK0
namespace Go.Proofs.YtblmiocjhbpklaaDoor
set_option maxRecDepth 100000
open Go.Lib (decDigits itoa)

theorem dd_small {u : Nat} (h : u < 10) : decDigits u = [UInt8.ofNat (48 + u)] := by rw [decDigits, dif_pos h]
theorem dd_big {u : Nat} (h : ¬ u < 10) : decDigits u = decDigits (u / 10) ++ [UInt8.ofNat (48 + u % 10)] := by rw [decDigits, dif_neg h]
/-- What is left of u's numeral ahead of l, when the number q is left. -/
def restIs (q : Nat) (l : List UInt8) (u : Nat) : Prop := if q = 0 then l = decDigits u else decDigits q ++ l = decDigits u
theorem rest_start (u : Nat) (h : 1 ≤ u) : restIs u [] u := by unfold restIs; rw [if_neg (by omega)]; simp
theorem rest_end {l : List UInt8} {u : Nat} (h : restIs 0 l u) : l = decDigits u := by unfold restIs at h; rw [if_pos rfl] at h; exact h
theorem rest_step {q : Nat} {l : List UInt8} {u : Nat} (hq : 1 ≤ q) (h : restIs q l u) : restIs (q / 10) (UInt8.ofNat (48 + q % 10) :: l) u := by
  unfold restIs at h ⊢
  rw [if_neg (by omega)] at h
  by_cases hs : q < 10
  · rw [if_pos (by omega)]
    rw [dd_small hs] at h
    rw [← h, Nat.mod_eq_of_lt hs]; rfl
  · rw [if_neg (by omega)]
    rw [dd_big hs] at h
    rw [← h, List.append_assoc]; rfl
theorem len18 (q n0 u : Nat) (hq : 1 ≤ q) (h : q * 10 ^ n0 ≤ u) (hu : u ≤ 9223372036854775808) : n0 ≤ 18 := by
  by_cases hn : n0 ≤ 18
  · exact hn
  · have h1 : 10 ^ 19 ≤ 10 ^ n0 := Nat.pow_le_pow_right (by omega) (by omega)
    have h2 : 1 * 10 ^ n0 ≤ q * 10 ^ n0 := Nat.mul_le_mul_right _ hq
    omega
theorem pow_step (q n0 u : Nat) (h : q * 10 ^ n0 ≤ u) : q / 10 * 10 ^ (n0 + 1) ≤ u := by
  have h1 : q / 10 * 10 ≤ q := Nat.div_mul_le_self q 10
  have h2 : q / 10 * 10 * 10 ^ n0 ≤ q * 10 ^ n0 := Nat.mul_le_mul_right _ h1
  rw [Nat.pow_succ, Nat.mul_comm (10 ^ n0), ← Nat.mul_assoc]
  omega

/-! Digits and their values. -/
def isd (b : UInt8) : Bool := decide (48 ≤ b.toNat ∧ b.toNat ≤ 57)
def dval (l : List UInt8) : Nat := l.foldl (fun n b => if isd b then n * 10 + (b.toNat - 48) else n) 0
def dcnt (l : List UInt8) : Nat := (l.filter isd).length
theorem dval_snoc (l : List UInt8) (b : UInt8) : dval (l ++ [b]) = if isd b then dval l * 10 + (b.toNat - 48) else dval l := by
  simp [dval, List.foldl_append]
theorem dcnt_snoc (l : List UInt8) (b : UInt8) : dcnt (l ++ [b]) = if isd b then dcnt l + 1 else dcnt l := by
  unfold dcnt
  rw [List.filter_append]
  by_cases h : isd b = true <;> simp [h]
theorem dval_lt (l : List UInt8) : dval l < 10 ^ l.length := by
  rw [← List.reverse_reverse l]
  induction l.reverse with
  | nil => simp [dval]
  | cons b l ih =>
    rw [List.reverse_cons, dval_snoc, List.length_append, List.length_singleton, Nat.pow_succ]
    split
    · rename_i h
      unfold isd at h
      have := of_decide_eq_true h
      omega
    · omega
theorem dval_cons_minus (l : List UInt8) : dval (45 :: l) = dval l := by
  unfold dval
  rw [List.foldl_cons]
  rfl
theorem dcnt_cons_minus (l : List UInt8) : dcnt (45 :: l) = dcnt l := by
  unfold dcnt
  rw [List.filter_cons]
  rfl
theorem isd_ofNat (c : Nat) (h : c < 10) : isd (UInt8.ofNat (48 + c)) = true := by
  unfold isd
  rw [UInt8.toNat_ofNat']
  simp; omega
theorem dd_all (u : Nat) : ∀ b ∈ decDigits u, isd b = true := by
  induction u using Nat.strongRecOn with
  | ind u ih =>
    intro b hb
    by_cases h : u < 10
    · rw [dd_small h] at hb
      rw [List.mem_singleton.mp hb]; exact isd_ofNat u h
    · rw [dd_big h] at hb
      rcases List.mem_append.mp hb with hb | hb
      · exact ih (u / 10) (by omega) b hb
      · rw [List.mem_singleton.mp hb]; exact isd_ofNat _ (by omega)
theorem dcnt_all (l : List UInt8) (h : ∀ b ∈ l, isd b = true) : dcnt l = l.length := by
  unfold dcnt
  rw [List.filter_eq_self.mpr h]
theorem dd_ne (u : Nat) : decDigits u ≠ [] := by
  by_cases h : u < 10
  · rw [dd_small h]; simp
  · rw [dd_big h]; simp
theorem not_minus {b : UInt8} (h : isd b = true) : b ≠ 45 := by
  intro e; rw [e] at h; exact absurd h (by decide)
end Go.Proofs.YtblmiocjhbpklaaDoor
