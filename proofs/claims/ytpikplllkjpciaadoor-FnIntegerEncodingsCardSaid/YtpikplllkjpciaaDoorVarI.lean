/- DecodeVarint, the program's: what it returns at every string; and its law. -/
import Derived.Test.YtpikplllkjpciaaDoorVarD
namespace Go.Proofs.YtpikplllkjpciaaDoor
open Go.ChangeShapes Go.WideShapes Go.ChangeAt Go.RowKit

theorem mul_pow_lt (c k : Nat) (hc : c < 128) (hk : k ≤ 6) : c * 2 ^ (7 * k) < 562949953421312 := by
  have h1 : (2 : Nat) ^ (7 * k) ≤ 4398046511104 := Nat.pow_le_pow_right (j := 42) (by omega) (by omega)
  calc c * 2 ^ (7 * k) ≤ 127 * 4398046511104 := Nat.mul_le_mul (by omega) h1
    _ < 562949953421312 := by omega
theorem shl_in (c k : Nat) (hc : c < 128) (hk : k ≤ 6) : wrap64 (wrap64 (c : Int) * 2 ^ (7 * k)) = ((c * 2 ^ (7 * k) : Nat) : Int) := by
  have h := mul_pow_lt c k hc hk
  rw [IntWalk.wrap64_in (c : Int) ⟨by omega, by omega⟩]
  have e3 : ((c : Int) * 2 ^ (7 * k)) = ((c * 2 ^ (7 * k) : Nat) : Int) := by rw [Int.natCast_mul, Int.natCast_pow]; rfl
  rw [e3]
  exact IntWalk.wrap64_in _ ⟨by omega, by omega⟩
theorem or_shift (N c k : Nat) (hc : c < 128) (hk : k ≤ 6) (hN : N < 2 ^ (7 * k)) (hN2 : N < 4398046511104) :
    bits .or .i64 (N : Int) (wrap64 (wrap64 (c : Int) * 2 ^ (7 * k))) = ((N + c * 2 ^ (7 * k) : Nat) : Int) := by
  have h := mul_pow_lt c k hc hk
  rw [shl_in c k hc hk, i64_or_nat _ _ (by omega) (by omega), or_lo (7 * k) c N hN]
theorem and_127 (b : Nat) (h : b < 256) : bits .and .u8 (b : Int) 127 = ((b % 128 : Nat) : Int) := by
  have := u8_and_nat b 127 h (by omega)
  rw [show (127 : Nat) = 2 ^ 7 - 1 from rfl, Nat.and_two_pow_sub_one_eq_mod] at this
  exact this
theorem leNat_step (s : ByteArray) (k : Nat) (h : k < s.size) (h6 : k ≤ 6) :
    bits .or .i64 ((leNat (s.data.toList.take k) : Nat) : Int) (wrap64 (wrap64 (bits .and .u8 (s[k].toNat : Int) 127) * 2 ^ (7 * k))) = ((leNat (s.data.toList.take (k + 1)) : Nat) : Int) := by
  have hlen : (s.data.toList.take k).length = k := by
    rw [List.length_take]
    have : s.data.toList.length = s.size := by simp
    omega
  have hlt := leNat_lt (s.data.toList.take k)
  rw [hlen] at hlt
  have hle := leNat_bound6 (s.data.toList.take k) (by omega)
  have hp : (2 : Nat) ^ (7 * k) = 128 ^ k := by rw [Nat.pow_mul]
  rw [and_127 _ (byte_lt s k h), or_shift _ _ k (by omega) h6 (by rw [hp]; exact hlt) hle, take_snoc s k h, leNat_append, hlen, hp]
theorem not_isV_big (s : ByteArray) (k : Nat) (hk : k < s.size) (h : 128 ≤ s[k].toNat) : ¬ IsV s.data.toList (k + 1) := fun hv => by
  have := isV_last hv (by simpa using hk)
  have e : s.data.toList[k]'(by simpa using hk) = s[k] := by simp; rfl
  rw [e] at this
  omega
theorem not_isV_small (s : ByteArray) (k j : Nat) (hk : k < s.size) (h : s[k].toNat < 128) (hj : k + 1 < j) : ¬ IsV s.data.toList j := fun hv => by
  have := isV_before hv hj (by simpa using hk)
  have e : s.data.toList[k]'(by simpa using hk) = s[k] := by simp; rfl
  rw [e] at this
  omega

set_option maxRecDepth 100000 in
theorem implDV_any (s : ByteArray) (w : World) (_hs : s.size ≤ 1048576) :
    Calls Tryd.prog 10 #[.string s] w fun e w' => e = .returned (.tuple #[.int .i64 (decV s.data.toList).1, .int .i64 (decV s.data.toList).2]) ∧ Since w w' := by
  go_enter Tryd.func10, Tryd.ntmps10
  go_wp2
  go_loopw [4, 5] (fun n i wr => ∃ k : Nat, k ≤ 7 ∧ i = .int .i64 k ∧ n = .int .i64 (leNat (s.data.toList.take k)) ∧ Hid (∀ j, j ≤ k → ¬ IsV s.data.toList j) ∧ Since w wr) (fun _ i _ => 8 - (intOf i).toNat)
  case atStart => exact ⟨0, by omega, rfl, rfl, fun j hj h => by have := isV_pos h; omega, Since.refl _⟩
  case round =>
    obtain ⟨k, hk7, rfl, rfl, HN, hsin⟩ := hrel
    by_cases hlt : k < 7 ∧ k < s.size
    · obtain ⟨hk6, hks⟩ := hlt
      have h8 := byte_lt s k hks
      have hor := leNat_step s k hks (by omega)
      by_cases hbig : 128 ≤ s[k].toNat
      · have HB := Lib.hid (not_isV_big s k hks hbig)
        go_wp2
        go_roundw
        case rel => exact ⟨k + 1, by omega, by go_num, rfl, fun j hj => by
          by_cases e : j = k + 1
          · rw [e]; exact HB.out
          · exact HN.out j (by omega), hsin⟩
        case measure => simp [intOf]; omega
      · have HS := Lib.hid (fun j hj => not_isV_small s k j hks (by omega) hj)
        have hext := encV_is s (k + 1) (by omega) (by omega)
        by_cases hv : IsV s.data.toList (k + 1)
        · have hcmp : ((encV (leNat (s.data.toList.take (k + 1)) : Nat)).toList == (s.extract 0 (k + 1)).toList) = true := by rw [hext]; simpa using hv
          have HV := Lib.hid hv
          clear hv hext
          have hw1 : IntKind.i64.wrap ((k : Int) + 1) = (k : Int) + 1 := IntWalk.i64_in _ (by omega)
          have hw2 : (0 : Int) ≤ (k : Int) + 1 := by omega
          have hw3 : ((k : Int) + 1).toNat = k + 1 := by omega
          have hw4 : (k : Int) + 1 ≤ (s.size : Int) := by omega
          go_wp2
          go_region_with (go_at_call 9; refine (implEV_any _ _).mono ?_; rintro e w1 ⟨rfl, hs1⟩)
          all_goals
            clear hw1 hw2 hw3 hw4
            go_wp2
            go_ret2
            exact ⟨ret_dec (decV_some HV.out (by omega)), hsin.trans hs1.of_drew⟩
        · have hcmp : ((encV (leNat (s.data.toList.take (k + 1)) : Nat)).toList == (s.extract 0 (k + 1)).toList) = false := by rw [hext]; simpa using hv
          have HE : Hid (∀ j, j ≤ 7 → ¬ IsV s.data.toList j) := fun j hj => by
            by_cases e : j = k + 1
            · rw [e]; exact hv
            · by_cases e2 : j ≤ k
              · exact HN.out j e2
              · exact HS.out j (by omega)
          clear hv hext
          have hw1 : IntKind.i64.wrap ((k : Int) + 1) = (k : Int) + 1 := IntWalk.i64_in _ (by omega)
          have hw2 : (0 : Int) ≤ (k : Int) + 1 := by omega
          have hw3 : ((k : Int) + 1).toNat = k + 1 := by omega
          have hw4 : (k : Int) + 1 ≤ (s.size : Int) := by omega
          go_wp2
          go_region_with (go_at_call 9; refine (implEV_any _ _).mono ?_; rintro e w1 ⟨rfl, hs1⟩)
          all_goals
            clear hw1 hw2 hw3 hw4
            go_wp2
            go_ret2
            exact ⟨ret_dec (decV_none HE.out), hsin.trans hs1.of_drew⟩
    · have HE : Hid (∀ j, j ≤ 7 → ¬ IsV s.data.toList j) := fun j hj h => by
        by_cases hjk : j ≤ k
        · exact HN.out j hjk h
        · have := h.1; simp at this; omega
      by_cases h7 : k < s.size
      · have hk : 7 ≤ k := by omega
        clear hlt
        go_wp2
        go_ret2
        exact ⟨ret_dec (decV_none HE.out), hsin⟩
      · have hk : s.size ≤ k := by omega
        clear hlt h7
        go_wp2
        go_ret2
        exact ⟨ret_dec (decV_none HE.out), hsin⟩

end Go.Proofs.YtpikplllkjpciaaDoor
