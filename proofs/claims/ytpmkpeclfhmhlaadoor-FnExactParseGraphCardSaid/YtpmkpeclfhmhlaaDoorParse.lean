/- ParseInt, the model's and the program's: both give 'pOut' of the bytes. -/
import Derived.Test.YtpmkpeclfhmhlaaDoorFmt
import Derived.Test.YtpmkpeclfhmhlaaDoorParsePlain
import Derived.Lib.OthersKept
namespace Go.Proofs.YtpmkpeclfhmhlaaDoor
set_option maxRecDepth 100000
open Go.ChangeShapes Go.WideShapes Go.ChangeAt Go.RowKit

theorem ret_p {l : List UInt8} {x : Int} {b : Bool} (h : pOut l = (x, b)) : Ending.returned (.tuple #[.int .i64 x, .bool b]) = .returned (.tuple #[.int .i64 (pOut l).1, .bool (pOut l).2]) := by rw [h]
theorem dval_take (s : ByteArray) (k : Nat) (h : k ≤ 11) : dval (s.data.toList.take k) < 100000000000 := by
  have h1 := dval_lt (s.data.toList.take k)
  have h2 : 10 ^ (s.data.toList.take k).length ≤ 10 ^ 11 := Nat.pow_le_pow_right (by omega) (by have := List.length_take_le k s.data.toList; omega)
  omega
theorem dval_take10 (s : ByteArray) (k : Nat) (h : k ≤ 10) : dval (s.data.toList.take k) < 10000000000 := by
  have h1 := dval_lt (s.data.toList.take k)
  have h2 : 10 ^ (s.data.toList.take k).length ≤ 10 ^ 10 := Nat.pow_le_pow_right (by omega) (by have := List.length_take_le k s.data.toList; omega)
  omega
theorem dcnt_take (s : ByteArray) (k : Nat) : dcnt (s.data.toList.take k) ≤ k := by
  have : dcnt (s.data.toList.take k) ≤ (s.data.toList.take k).length := List.length_filter_le _ _
  have := List.length_take_le k s.data.toList
  omega
theorem isd_yes {b : UInt8} (h1 : 48 ≤ b.toNat) (h2 : b.toNat ≤ 57) : isd b = true := by unfold isd; exact decide_eq_true ⟨h1, h2⟩
theorem isd_no {b : UInt8} (h : ¬ (48 ≤ b.toNat ∧ b.toNat ≤ 57)) : isd b = false := by unfold isd; exact decide_eq_false h
theorem dval_next (s : ByteArray) (k : Nat) (h : k < s.size) (hd : isd s[k] = true) : dval (s.data.toList.take (k + 1)) = dval (s.data.toList.take k) * 10 + (s[k].toNat - 48) := by
  rw [take_snoc s k h, dval_snoc, hd]; rfl
theorem dval_same (s : ByteArray) (k : Nat) (h : k < s.size) (hd : isd s[k] = false) : dval (s.data.toList.take (k + 1)) = dval (s.data.toList.take k) := by
  rw [take_snoc s k h, dval_snoc, hd]; rfl
theorem dcnt_next (s : ByteArray) (k : Nat) (h : k < s.size) (hd : isd s[k] = true) : dcnt (s.data.toList.take (k + 1)) = dcnt (s.data.toList.take k) + 1 := by
  rw [take_snoc s k h, dcnt_snoc, hd]; rfl
theorem dcnt_same (s : ByteArray) (k : Nat) (h : k < s.size) (hd : isd s[k] = false) : dcnt (s.data.toList.take (k + 1)) = dcnt (s.data.toList.take k) := by
  rw [take_snoc s k h, dcnt_snoc, hd]; rfl

set_option maxHeartbeats 1000000 in
set_option maxRecDepth 100000 in
theorem specPI_any (s : ByteArray) (w : World) (hs : s.size ≤ 1048576) :
    Calls Tryd.prog 29 #[.string s] w fun e w' => e = .returned (.tuple #[.int .i64 (pOut s.data.toList).1, .bool (pOut s.data.toList).2]) ∧ Since w w' := by
  go_enter Tryd.func29, Tryd.ntmps29
  go_wp2
  go_loop [4, 5, 6] (fun n k i => ∃ j : Nat, j ≤ 11 ∧ j ≤ s.size ∧ i = .int .i64 j ∧ n = .int .i64 (dval (s.data.toList.take j) : Nat) ∧ k = .int .i64 (dcnt (s.data.toList.take j) : Nat)) (fun _ _ i => 11 - (intOf i).toNat)
  case atStart => exact ⟨0, by omega, by omega, rfl, rfl, rfl⟩
  case round =>
    obtain ⟨j, hj, hjs, rfl, rfl, rfl⟩ := hrel
    have hb1 := dval_take s j hj
    have hb2 := dcnt_take s j
    by_cases hlt : j < 11 ∧ j < s.size
    · obtain ⟨hl1, hl2⟩ := hlt
      have h8 := byte_lt s j hl2
      by_cases ha : 48 ≤ s[j].toNat
      · by_cases hb : s[j].toNat ≤ 57
        · have HV := Lib.hid (dval_next s j hl2 (isd_yes ha hb))
          have HC := Lib.hid (dcnt_next s j hl2 (isd_yes ha hb))
          go_wp2
          go_round
          case rel => exact ⟨j + 1, by omega, by omega, by go_num, by rw [HV.out]; go_num, by rw [HC.out]; go_num⟩
          case measure => simp [intOf]; omega
        · have HV := Lib.hid (dval_same s j hl2 (isd_no (by omega)))
          have HC := Lib.hid (dcnt_same s j hl2 (isd_no (by omega)))
          go_wp2
          go_round
          case rel => exact ⟨j + 1, by omega, by omega, by go_num, by rw [HV.out], by rw [HC.out]⟩
          case measure => simp [intOf]; omega
      · have HV := Lib.hid (dval_same s j hl2 (isd_no (by omega)))
        have HC := Lib.hid (dcnt_same s j hl2 (isd_no (by omega)))
        go_wp2
        go_round
        case rel => exact ⟨j + 1, by omega, by omega, by go_num, by rw [HV.out], by rw [HC.out]⟩
        case measure => simp [intOf]; omega
    · by_cases h10 : s.size ≤ 10
      · have hje : j = s.size := by omega
        have htk : s.data.toList.take j = s.data.toList := List.take_of_length_le (by simp; omega)
        have hb10 := dval_take10 s j (by omega)
        rw [htk] at hb1 hb2 hb10 ⊢
        have hlen : s.data.toList.length = s.size := by simp
        have hc10 : ((s.size : Int)) ≤ 10 := by omega
        by_cases h9 : dcnt s.data.toList ≤ 9
        · by_cases h0 : s.size = 0
          · have hl0 : s.data.toList = [] := List.eq_nil_of_length_eq_zero (by omega)
            have hlz : s.size ≤ 0 := by omega
            have HA : Hid (¬ Acc s.data.toList) := fun h => by
              have := h.2.2
              rw [hl0] at this
              exact absurd this (by rw [sval, Lib.itoa]; simp [isMinus, dval]; rw [dd_small (by omega)]; simp)
            have hv0 : dval s.data.toList = 0 := by rw [hl0]; rfl
            have HC := Lib.hid (fun W => specFI_any ((dval s.data.toList : Nat) : Int) W (by omega) (by omega))
            have hcmp : (Lib.itoa ((dval s.data.toList : Nat) : Int) == s.toList) = false := by
              rw [ByteArray.toList_eq, hl0]; decide +kernel
            have hn : (s.size : Int) ≤ 0 := by omega
            clear htk hl0 hje hlen h0 hv0
            go_wp2_with (go_at_call 23; refine (HC.out _).mono ?_; rintro e w1 ⟨rfl, hs1⟩)
            go_ret2
            exact ⟨ret_p (pOut_out HA.out), hs1⟩
          · have hp : 0 < s.size := by omega
            have hmin : isMinus s.data.toList = decide (s[0].toNat = 45) := isMinus_get s.data.toList (by omega)
            have h8 := byte_lt s 0 hp
            by_cases hm : s[0].toNat = 45
            · have hsv : sval s.data.toList = -((dval s.data.toList : Nat) : Int) := by unfold sval; rw [hmin, decide_eq_true hm]; rfl
              have HC := Lib.hid (fun W => specFI_any (-((dval s.data.toList : Nat) : Int)) W (by omega) (by omega))
              have hme : ((s[0].toNat : Int) == 45) = true := by simp; omega
              by_cases hi : Lib.itoa (sval s.data.toList) = s.data.toList
              · have HA : Hid (Acc s.data.toList) := ⟨h9, by omega, hi⟩
                have hcmp : (Lib.itoa (-((dval s.data.toList : Nat) : Int)) == s.toList) = true := by rw [ByteArray.toList_eq, ← hsv, hi]; simp
                have HSV := Lib.hid hsv
                clear htk hje hlen h0 hmin hm hsv hi
                go_wp2_with (go_at_call 23; refine (HC.out _).mono ?_; rintro e w1 ⟨rfl, hs1⟩)
                go_ret2
                exact ⟨ret_p (by rw [pOut_in HA.out, HSV.out]), hs1⟩
              · have HA : Hid (¬ Acc s.data.toList) := fun h => hi h.2.2
                have hcmp : (Lib.itoa (-((dval s.data.toList : Nat) : Int)) == s.toList) = false := by rw [ByteArray.toList_eq, ← hsv]; simpa using hi
                clear htk hje hlen h0 hmin hm hsv hi
                go_wp2_with (go_at_call 23; refine (HC.out _).mono ?_; rintro e w1 ⟨rfl, hs1⟩)
                go_ret2
                exact ⟨ret_p (pOut_out HA.out), hs1⟩
            · have hsv : sval s.data.toList = ((dval s.data.toList : Nat) : Int) := by unfold sval; rw [hmin, decide_eq_false hm]; rfl
              have HC := Lib.hid (fun W => specFI_any (((dval s.data.toList : Nat) : Int)) W (by omega) (by omega))
              have hme : ((s[0].toNat : Int) == 45) = false := by simp; omega
              by_cases hi : Lib.itoa (sval s.data.toList) = s.data.toList
              · have HA : Hid (Acc s.data.toList) := ⟨h9, by omega, hi⟩
                have hcmp : (Lib.itoa ((dval s.data.toList : Nat) : Int) == s.toList) = true := by rw [ByteArray.toList_eq, ← hsv, hi]; simp
                have HSV := Lib.hid hsv
                clear htk hje hlen h0 hmin hm hsv hi
                go_wp2_with (go_at_call 23; refine (HC.out _).mono ?_; rintro e w1 ⟨rfl, hs1⟩)
                go_ret2
                exact ⟨ret_p (by rw [pOut_in HA.out, HSV.out]), hs1⟩
              · have HA : Hid (¬ Acc s.data.toList) := fun h => hi h.2.2
                have hcmp : (Lib.itoa ((dval s.data.toList : Nat) : Int) == s.toList) = false := by rw [ByteArray.toList_eq, ← hsv]; simpa using hi
                clear htk hje hlen h0 hmin hm hsv hi
                go_wp2_with (go_at_call 23; refine (HC.out _).mono ?_; rintro e w1 ⟨rfl, hs1⟩)
                go_ret2
                exact ⟨ret_p (pOut_out HA.out), hs1⟩
        · have HA : Hid (¬ Acc s.data.toList) := fun h => h9 h.1
          have hk9 : 9 < dcnt s.data.toList := by omega
          have hp : 0 < s.size := by omega
          have h8 := byte_lt s 0 hp
          clear htk hje hlen h9
          by_cases hm : s[0].toNat = 45
          · have hme : ((s[0].toNat : Int) == 45) = true := by simp; omega
            clear hm
            go_wp2_with fail
            go_ret2
            exact ⟨ret_p (pOut_out HA.out), Since.refl _⟩
          · have hme : ((s[0].toNat : Int) == 45) = false := by simp; omega
            clear hm
            go_wp2_with fail
            go_ret2
            exact ⟨ret_p (pOut_out HA.out), Since.refl _⟩
      · have HA : Hid (¬ Acc s.data.toList) := fun h => by have := h.2.1; simp at this; omega
        have hj11 : j = 11 := by omega
        have hsz : 10 < s.size := by omega
        have hp : 0 < s.size := by omega
        have h8 := byte_lt s 0 hp
        subst hj11
        clear hlt h10
        by_cases hk9 : 9 < dcnt (s.data.toList.take 11)
        · by_cases hm : s[0].toNat = 45
          · have hme : ((s[0].toNat : Int) == 45) = true := by simp; omega
            clear hm
            go_wp2_with fail
            all_goals
              go_ret2
              exact ⟨ret_p (pOut_out HA.out), Since.refl _⟩
          · have hme : ((s[0].toNat : Int) == 45) = false := by simp; omega
            clear hm
            go_wp2_with fail
            all_goals
              go_ret2
              exact ⟨ret_p (pOut_out HA.out), Since.refl _⟩
        · have hk9' : dcnt (s.data.toList.take 11) ≤ 9 := by omega
          clear hk9
          by_cases hm : s[0].toNat = 45
          · have hme : ((s[0].toNat : Int) == 45) = true := by simp; omega
            clear hm
            go_wp2_with fail
            all_goals
              go_ret2
              exact ⟨ret_p (pOut_out HA.out), Since.refl _⟩
          · have hme : ((s[0].toNat : Int) == 45) = false := by simp; omega
            clear hm
            go_wp2_with fail
            all_goals
              go_ret2
              exact ⟨ret_p (pOut_out HA.out), Since.refl _⟩

end Go.Proofs.YtpmkpeclfhmhlaaDoor
