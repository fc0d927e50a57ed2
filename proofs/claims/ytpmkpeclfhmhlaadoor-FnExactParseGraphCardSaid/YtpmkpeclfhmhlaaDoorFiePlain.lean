/- What the law of the integer encodings says, on plain bytes. -/
import Derived.Test.YtpmkpeclfhmhlaaDoorVarPlain
import Derived.Test.YtpmkpeclfhmhlaaDoorParsePlain
namespace Go.Proofs.YtpmkpeclfhmhlaaDoor
set_option maxRecDepth 100000
open Go.Lib (decDigits itoa)

theorem vbytes_le7 (n : Nat) (h : n ≤ 562949953421311) : (vbytes n).length ≤ 7 := vbytes_len n 7 (by omega) (by omega)
theorem decV_back (n : Nat) (h : n ≤ 562949953421311) (l : List UInt8) : decV (vbytes n ++ l) = (n, (vbytes n).length) := by
  have ht : (vbytes n ++ l).take (vbytes n).length = vbytes n := List.take_left
  have hv : IsV (vbytes n ++ l) (vbytes n).length := ⟨by simp, by rw [ht, leNat_vbytes]⟩
  rw [decV_some hv (vbytes_le7 n h), ht, leNat_vbytes]

theorem dval_dd (u : Nat) : dval (decDigits u) = u := by
  induction u using Nat.strongRecOn with
  | ind u ih =>
    by_cases h : u < 10
    · rw [dd_small h]
      have := dval_snoc [] (UInt8.ofNat (48 + u))
      rw [isd_ofNat u h, UInt8.toNat_ofNat'] at this
      simp only [List.nil_append] at this
      rw [this]
      simp [dval]; omega
    · rw [dd_big h, dval_snoc, isd_ofNat _ (by omega), ih (u / 10) (by omega), UInt8.toNat_ofNat']
      simp only [if_true]
      omega
theorem dd_len9 (u : Nat) : (decDigits u).length ≤ 9 ↔ u < 1000000000 := by
  rw [Lib.decDigits_length]
  constructor
  · intro h
    have h1 := Lib.lt_pow_nDigits u
    have h2 : 10 ^ Lib.nDigits u ≤ 10 ^ 9 := Nat.pow_le_pow_right (by omega) h
    omega
  · intro h
    by_cases hn : Lib.nDigits u ≤ 9
    · exact hn
    · have aux : ∀ (k u : Nat), u < 10 ^ (k + 1) → Lib.nDigits u ≤ k + 1 := by
        intro k
        induction k with
        | zero => intro u hu; rw [Lib.nDigits_small (by simpa using hu)]; omega
        | succ k ih =>
          intro u hu
          by_cases h10 : u < 10
          · rw [Lib.nDigits_small h10]; omega
          · rw [Lib.nDigits_big h10]
            have := ih (u / 10) (by rw [Nat.div_lt_iff_lt_mul (by omega)]; rw [Nat.pow_succ] at hu; exact hu)
            omega
      exact aux 8 u (by omega)
theorem isMinus_dd (u : Nat) : isMinus (decDigits u) = false := by
  cases h : decDigits u with
  | nil => exact absurd h (dd_ne u)
  | cons a l =>
    have := dd_all u a (by rw [h]; simp)
    have := not_minus this
    simp [isMinus, this]
theorem sval_itoa (n : Int) : sval (itoa n) = n := by
  unfold itoa
  split
  · have : isMinus (45 :: decDigits n.natAbs) = true := rfl
    unfold sval
    rw [this, dval_cons_minus, dval_dd]
    simp only [if_true]
    omega
  · unfold sval
    rw [isMinus_dd, dval_dd]
    simp only [Bool.false_eq_true, if_false]
    omega
theorem pOut_itoa (n : Int) : pOut (itoa n) = if -1000000000 < n ∧ n < 1000000000 then (n, true) else (0, false) := by
  have hd : dcnt (itoa n) = (decDigits n.natAbs).length := by
    unfold itoa
    split
    · rw [dcnt_cons_minus, dcnt_all _ (dd_all _)]
    · rw [dcnt_all _ (dd_all _), show n.toNat = n.natAbs from by omega]
  by_cases h : -1000000000 < n ∧ n < 1000000000
  · rw [if_pos h]
    have h9 : (decDigits n.natAbs).length ≤ 9 := (dd_len9 _).mpr (by omega)
    have ha : Acc (itoa n) := ⟨by rw [hd]; exact h9, by
      unfold itoa
      split
      · simp; omega
      · rw [show n.toNat = n.natAbs from by omega]; omega, by rw [sval_itoa]⟩
    rw [pOut_in ha, sval_itoa]
  · rw [if_neg h]
    refine pOut_out fun ha => h ?_
    have := ha.1
    rw [hd] at this
    have := (dd_len9 _).mp this
    omega
end Go.Proofs.YtpmkpeclfhmhlaaDoor
