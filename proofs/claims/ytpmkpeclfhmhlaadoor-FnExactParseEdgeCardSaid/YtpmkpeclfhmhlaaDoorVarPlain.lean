/- Varints as lists of bytes: plain facts, of our own. -/
import Derived.Test.YtpmkpeclfhmhlaaDoorK0
namespace Go.Proofs.YtpmkpeclfhmhlaaDoor
set_option maxRecDepth 100000

/-- The varint of n. -/
def vbytes (n : Nat) : List UInt8 := if n < 128 then [UInt8.ofNat n] else UInt8.ofNat (128 + n % 128) :: vbytes (n / 128)
termination_by n
decreasing_by omega
theorem vbytes_small {n : Nat} (h : n < 128) : vbytes n = [UInt8.ofNat n] := by rw [vbytes, if_pos h]
theorem vbytes_big {n : Nat} (h : 128 ≤ n) : vbytes n = UInt8.ofNat (128 + n % 128) :: vbytes (n / 128) := by rw [vbytes, if_neg (by omega)]
theorem vbytes_ne (n : Nat) : vbytes n ≠ [] := by
  by_cases h : n < 128
  · rw [vbytes_small h]; simp
  · rw [vbytes_big (by omega)]; simp
theorem toNat_small (n : Nat) (h : n < 256) : (UInt8.ofNat n).toNat = n := by rw [UInt8.toNat_ofNat']; omega
/-- Every byte of a varint but its last one is at least 128, the last one is less. -/
theorem vbytes_at (n : Nat) : ∀ k (h : k < (vbytes n).length), (128 ≤ ((vbytes n)[k]).toNat ↔ k + 1 < (vbytes n).length) := by
  induction n using Nat.strongRecOn with
  | ind n ih =>
    intro k h
    by_cases hs : n < 128
    · have e := vbytes_small hs
      have hl : (vbytes n).length = 1 := by rw [e]; rfl
      have hk : k = 0 := by omega
      subst hk
      have : (vbytes n)[0] = UInt8.ofNat n := by simp [e]
      rw [this, toNat_small n (by omega), hl]; omega
    · have e := vbytes_big (n := n) (by omega)
      have hl : (vbytes n).length = (vbytes (n / 128)).length + 1 := by rw [e]; rfl
      have hne : 0 < (vbytes (n / 128)).length := List.length_pos_iff.mpr (vbytes_ne _)
      match k with
      | 0 =>
        have : (vbytes n)[0] = UInt8.ofNat (128 + n % 128) := by simp [e]
        rw [this, toNat_small _ (by omega), hl]; omega
      | k + 1 =>
        have hk : k < (vbytes (n / 128)).length := by omega
        have : (vbytes n)[k + 1] = (vbytes (n / 128))[k] := by simp [e]
        rw [this, ih (n / 128) (by omega) k hk, hl]; omega
theorem vbytes_len (n k : Nat) (hk : 1 ≤ k) (h : n < 128 ^ k) : (vbytes n).length ≤ k := by
  induction k generalizing n with
  | zero => omega
  | succ k ih =>
    by_cases hs : n < 128
    · rw [vbytes_small hs]; simp
    · rw [vbytes_big (by omega)]
      have hk0 : 1 ≤ k := by
        by_cases h0 : k = 0
        · subst h0; simp at h; omega
        · omega
      have := ih (n / 128) hk0 (by rw [Nat.div_lt_iff_lt_mul (by omega)]; rw [Nat.pow_succ] at h; exact h)
      simp; exact this

/-- The number of a list of bytes, seven bits from each, the least ones first. -/
def leNat : List UInt8 → Nat
  | [] => 0
  | b :: l => b.toNat % 128 + 128 * leNat l
theorem leNat_append (l : List UInt8) (b : UInt8) : leNat (l ++ [b]) = leNat l + b.toNat % 128 * 128 ^ l.length := by
  induction l with
  | nil => simp [leNat]
  | cons a l ih =>
    rw [List.cons_append, leNat, ih, leNat, List.length_cons, Nat.pow_succ, Nat.mul_add]
    rw [Nat.add_assoc, show 128 * (b.toNat % 128 * 128 ^ l.length) = b.toNat % 128 * (128 ^ l.length * 128) from by rw [← Nat.mul_assoc, Nat.mul_comm 128, Nat.mul_assoc, Nat.mul_comm 128]]
theorem leNat_lt (l : List UInt8) : leNat l < 128 ^ l.length := by
  induction l with
  | nil => simp [leNat]
  | cons b l ih => rw [leNat, List.length_cons, Nat.pow_succ]; omega
theorem leNat_vbytes (n : Nat) : leNat (vbytes n) = n := by
  induction n using Nat.strongRecOn with
  | ind n ih =>
    by_cases h : n < 128
    · rw [vbytes_small h, leNat, leNat, toNat_small n (by omega)]; omega
    · rw [vbytes_big (by omega), leNat, ih (n / 128) (by omega), toNat_small _ (by omega)]; omega

/-- The first k bytes of l are a varint. -/
def IsV (l : List UInt8) (k : Nat) : Prop := k ≤ l.length ∧ vbytes (leNat (l.take k)) = l.take k
theorem isV_last {l : List UInt8} {k : Nat} (h : IsV l (k + 1)) (hk : k < l.length) : (l[k]).toNat < 128 := by
  obtain ⟨h1, h2⟩ := h
  have hlen : (vbytes (leNat (l.take (k + 1)))).length = k + 1 := by rw [h2, List.length_take]; omega
  have := vbytes_at (leNat (l.take (k + 1))) k (by omega)
  have e : (vbytes (leNat (l.take (k + 1))))[k]'(by omega) = l[k] := by simp [h2]
  rw [e, hlen] at this
  omega
theorem isV_before {l : List UInt8} {k j : Nat} (h : IsV l k) (hj : j + 1 < k) (hl : j < l.length) : 128 ≤ (l[j]).toNat := by
  obtain ⟨h1, h2⟩ := h
  have hlen : (vbytes (leNat (l.take k))).length = k := by rw [h2, List.length_take]; omega
  have := vbytes_at (leNat (l.take k)) j (by omega)
  have e : (vbytes (leNat (l.take k)))[j]'(by omega) = l[j] := by simp [h2]
  rw [e, hlen] at this
  omega
theorem isV_pos {l : List UInt8} {k : Nat} (h : IsV l k) : 1 ≤ k := by
  by_cases h0 : k = 0
  · subst h0; exact absurd h.2 (by simp; exact vbytes_ne _)
  · omega
theorem isV_unique {l : List UInt8} {j k : Nat} (hj : IsV l j) (hk : IsV l k) : j = k := by
  have aux : ∀ {j k : Nat}, IsV l j → IsV l k → ¬ j < k := by
    intro j k hj hk hlt
    have hp := isV_pos hj
    obtain ⟨j', rfl⟩ : ∃ j', j = j' + 1 := ⟨j - 1, by omega⟩
    have h1 := isV_last hj (by have := hk.1; omega)
    have h2 := isV_before hk (j := j') hlt (by have := hk.1; omega)
    omega
  have := aux hj hk
  have := aux hk hj
  omega
instance (l : List UInt8) (k : Nat) : Decidable (IsV l k) := by unfold IsV; infer_instance

/-- What DecodeVarint answers: the number and the length of the varint with which l begins, of at most seven bytes; 0 and 0 if there is none. -/
def decV (l : List UInt8) : Nat × Nat :=
  match (List.range 8).find? (fun k => decide (IsV l k)) with
  | some k => (leNat (l.take k), k)
  | none => (0, 0)
theorem decV_some {l : List UInt8} {k : Nat} (h : IsV l k) (h7 : k ≤ 7) : decV l = (leNat (l.take k), k) := by
  unfold decV
  cases hf : (List.range 8).find? (fun k => decide (IsV l k)) with
  | none =>
    have := List.find?_eq_none.mp hf k (by simp; omega)
    simp [h] at this
  | some j =>
    have hj := List.find?_some hf
    have : IsV l j := by simpa using hj
    rw [isV_unique this h]
theorem decV_none {l : List UInt8} (h : ∀ k, k ≤ 7 → ¬ IsV l k) : decV l = (0, 0) := by
  unfold decV
  cases hf : (List.range 8).find? (fun k => decide (IsV l k)) with
  | none => rfl
  | some j =>
    have hj := List.find?_some hf
    have hm := List.mem_of_find?_eq_some hf
    have : IsV l j := by simpa using hj
    exact absurd this (h j (by simp at hm; omega))
end Go.Proofs.YtpmkpeclfhmhlaaDoor
