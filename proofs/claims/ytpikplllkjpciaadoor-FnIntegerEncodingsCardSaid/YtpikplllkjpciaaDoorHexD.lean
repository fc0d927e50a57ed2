/- DecodeHex, the model's: one digit, then the loop over pairs. -/
import Derived.Test.YtpikplllkjpciaaDoorHexE
namespace Go.Proofs.YtpikplllkjpciaaDoor
open Go.ChangeShapes Go.WideShapes Go.ChangeAt Go.RowKit

/-- The value of a hexadecimal digit, or -1. -/
def hx (b : UInt8) : Int := if 48 ≤ b.toNat ∧ b.toNat ≤ 57 then (b.toNat : Int) - 48 else if 97 ≤ b.toNat ∧ b.toNat ≤ 102 then (b.toNat : Int) - 87 else -1
theorem hx_lt (b : UInt8) : hx b < 16 := by unfold hx; split <;> (try split) <;> omega
theorem hx_ge (b : UInt8) : -1 ≤ hx b := by unfold hx; split <;> (try split) <;> omega
theorem hx_of (b : UInt8) (k : Nat) (hk : k < 16) (h : hexd k = b.toNat) : hx b = k := by
  unfold hexd at h; unfold hx
  split at h
  · rw [if_pos (by omega)]; omega
  · rw [if_neg (by omega), if_pos (by omega)]; omega
theorem hx_none (b : UInt8) (h : ∀ k, k < 16 → hexd k ≠ b.toNat) : hx b = -1 := by
  unfold hx
  split
  · have := h (b.toNat - 48) (by omega)
    unfold hexd at this
    rw [if_pos (by omega)] at this
    omega
  · split
    · have := h (b.toNat - 87) (by omega)
      unfold hexd at this
      rw [if_neg (by omega)] at this
      omega
    · rfl

theorem ret_sb {a b : ByteArray} {c : Bool} (h : a = b) : Ending.returned (.tuple #[.string a, .bool c]) = .returned (.tuple #[.string b, .bool c]) := by rw [h]

/-- The value of byte i of s as a digit; 0 if it is none. -/
def dg (s : ByteArray) (i : Nat) : Nat := if h : i < s.size then (hx s[i]).toNat else 0
theorem dg_lt (s : ByteArray) (i : Nat) : dg s i < 16 := by
  unfold dg
  split
  · rename_i h; have := hx_lt s[i]; omega
  · omega
theorem dg_at (s : ByteArray) (i : Nat) (h : i < s.size) (h0 : 0 ≤ hx s[i]) : (dg s i : Int) = hx s[i] := by
  unfold dg
  rw [dif_pos h]
  omega
def pairs (s : ByteArray) (m : Nat) : List UInt8 := (List.range m).map fun j => UInt8.ofNat (16 * dg s (2 * j) + dg s (2 * j + 1))
theorem pairs_succ (s : ByteArray) (m : Nat) : pairs s (m + 1) = pairs s m ++ [UInt8.ofNat (16 * dg s (2 * m) + dg s (2 * m + 1))] := by
  simp [pairs, List.range_succ]
def HexOk (s : ByteArray) : Prop := s.size % 2 = 0 ∧ ∀ i (h : i < s.size), 0 ≤ hx s[i]

/-- The first byte that is no digit. -/
theorem bad_first (s : ByteArray) (h : ¬ ∀ i (h : i < s.size), 0 ≤ hx s[i]) : ∃ i, ∃ h : i < s.size, hx s[i] < 0 ∧ ∀ j (hj : j < s.size), j < i → 0 ≤ hx s[j] := by
  have aux : ∀ n, n ≤ s.size → (∀ i (h : i < s.size), i < n → 0 ≤ hx s[i]) ∨ ∃ i, ∃ h : i < s.size, hx s[i] < 0 ∧ ∀ j (hj : j < s.size), j < i → 0 ≤ hx s[j] := by
    intro n
    induction n with
    | zero => intro _; exact .inl fun i _ h => by omega
    | succ n ih =>
      intro hn
      rcases ih (by omega) with h | h
      · by_cases hb : 0 ≤ hx (s[n]'(by omega))
        · refine .inl fun i hi hin => ?_
          by_cases e : i = n
          · subst e; exact hb
          · exact h i hi (by omega)
        · exact .inr ⟨n, by omega, by omega, fun j hj hjn => h j hj hjn⟩
      · exact .inr h
  rcases aux s.size (Nat.le_refl _) with h' | h'
  · exact absurd (fun i hi => h' i hi hi) h
  · exact h'

end Go.Proofs.YtpikplllkjpciaaDoor
