/- DecodeVarint, the model's: what it returns at every string. -/
import Derived.Test.YtpikplllkjpciaaVarE
import Derived.Deep.RegionWith
namespace Go.Proofs.Ytpikplllkjpciaa
open Go.ChangeShapes Go.WideShapes Go.ChangeAt Go.RowKit

theorem leNat_bound (l : List UInt8) (k : Nat) (h : l.length ≤ k) (hk : k ≤ 7) : leNat l ≤ 562949953421311 := by
  have h1 := leNat_lt l
  have h2 : 128 ^ l.length ≤ 128 ^ 7 := Nat.pow_le_pow_right (by omega) (by omega)
  omega
theorem leNat_bound6 (l : List UInt8) (h : l.length ≤ 6) : leNat l < 4398046511104 := by
  have h1 := leNat_lt l
  have h2 : 128 ^ l.length ≤ 128 ^ 6 := Nat.pow_le_pow_right (by omega) (by omega)
  omega
theorem drop_cons (s : ByteArray) (k j : Nat) (hk : k ≤ s.size) (hj : j < k) : (s.data.toList.take k).drop j = s[j] :: (s.data.toList.take k).drop (j + 1) := by
  have hl : j < (s.data.toList.take k).length := by rw [List.length_take]; simp; omega
  rw [List.drop_eq_getElem_cons hl]
  congr 1
  simp
  rfl

theorem extract_take (s : ByteArray) (k : Nat) : (s.extract 0 k).toList = s.data.toList.take k := by
  rw [ByteArray.toList_eq]
  simp [ByteArray.data_extract]
theorem encV_is (s : ByteArray) (k : Nat) (h7 : k ≤ 7) (hk : k ≤ s.size) :
    ((encV (leNat (s.data.toList.take k) : Nat)).toList == (s.extract 0 k).toList) = decide (IsV s.data.toList k) := by
  rw [encV_in _ (leNat_bound _ k (List.length_take_le _ _) h7), extract_take, ByteArray.toList_mk]
  have hl : k ≤ s.data.toList.length := by simpa using hk
  by_cases h : vbytes (leNat (s.data.toList.take k)) = s.data.toList.take k
  · rw [h]; simp [IsV, h]; simpa using hk
  · have : ¬ IsV s.data.toList k := fun x => h x.2
    simp [this, h]

theorem ret_dec {l : List UInt8} {x y : Nat} (h : decV l = (x, y)) : Ending.returned (.tuple #[.int .i64 (x : Int), .int .i64 (y : Int)]) = .returned (.tuple #[.int .i64 (decV l).1, .int .i64 (decV l).2]) := by rw [h]

set_option maxRecDepth 100000 in
theorem specDV_any (s : ByteArray) (w : World) (hs : s.size ≤ 1048576) :
    Calls Try.prog 15 #[.string s] w fun e w' => e = .returned (.tuple #[.int .i64 (decV s.data.toList).1, .int .i64 (decV s.data.toList).2]) ∧ Since w w' := by
  go_enter Try.func15, Try.ntmps15
  go_wp2
  go_loopw [4] (fun kk wr => ∃ k : Nat, 1 ≤ k ∧ k ≤ 8 ∧ kk = .int .i64 k ∧ Hid (∀ j, j < k → ¬ IsV s.data.toList j) ∧ Since w wr) (fun kk _ => 8 - (intOf kk).toNat)
  case atStart => exact ⟨1, by omega, by omega, rfl, fun j hj h => by have := isV_pos h; omega, Since.refl _⟩
  case round =>
    obtain ⟨k, hk1, hk8, rfl, HN, hsin⟩ := hrel
    by_cases hlt : k ≤ 7 ∧ k ≤ s.size
    · obtain ⟨hk7, hks⟩ := hlt
      obtain ⟨wo, rfl⟩ : ∃ wo : World, wo = wr := ⟨_, rfl⟩
      go_wp2
      go_loop [5, 6] (fun n i => ∃ j : Nat, j ≤ k ∧ i = .int .i64 ((j : Int) - 1) ∧ n = .int .i64 (leNat ((s.data.toList.take k).drop j))) (fun _ i => (intOf i + 1).toNat)
      case atStart => exact ⟨k, Nat.le_refl _, rfl, by rw [List.drop_of_length_le (by simp; omega)]; rfl⟩
      case round =>
        obtain ⟨j, hj, rfl, rfl⟩ := hrel
        by_cases hj0 : 1 ≤ j
        · obtain ⟨i, rfl⟩ : ∃ i, j = i + 1 := ⟨j - 1, by omega⟩
          have h8 := byte_lt s i (by omega)
          have hb6 := leNat_bound6 ((s.data.toList.take k).drop (i + 1)) (by simp; omega)
          have HD := Lib.hid (drop_cons s k i hks (by omega))
          have hji : ((i + 1 : Nat) : Int) - 1 = (i : Int) := by omega
          go_wp2
          go_round
          case rel => exact ⟨i, by omega, by go_num, by rw [HD.out, leNat]; go_num⟩
          case measure => simp [intOf]
        · obtain rfl : j = 0 := by omega
          have hbn := leNat_bound ((s.data.toList.take k).drop 0) k (by simp; omega) hk7
          have hext := encV_is s k hk7 hks
          by_cases hv : IsV s.data.toList k
          · have hcmp : ((encV (leNat (s.data.toList.take k) : Nat)).toList == (s.extract 0 k).toList) = true := by rw [hext]; simpa using hv
            have HV := Lib.hid hv
            clear hv hext
            go_wp2
            go_region_with (go_at_call 13; refine (specEV_any _ _).mono ?_; rintro e w1 ⟨rfl, hs1⟩)
            all_goals
              go_wp2
              go_ret2
              exact ⟨ret_dec (decV_some HV.out hk7), hsin.trans hs1.of_drew⟩
          · have hcmp : ((encV (leNat (s.data.toList.take k) : Nat)).toList == (s.extract 0 k).toList) = false := by rw [hext]; simpa using hv
            have HV := Lib.hid hv
            clear hv hext
            go_wp2
            go_region_with (go_at_call 13; refine (specEV_any _ _).mono ?_; rintro e w1 ⟨rfl, hs1⟩)
            all_goals
              go_wp2
              go_roundw
              case rel => exact ⟨k + 1, by omega, by omega, by go_num, fun i hi => by
                by_cases e : i = k
                · rw [e]; exact HV.out
                · exact HN.out i (by omega), hsin.trans hs1.of_drew⟩
              case measure => simp [intOf]; omega
    · have hend : ∀ j, j ≤ 7 → ¬ IsV s.data.toList j := fun j hj h => by
        by_cases hjk : j < k
        · exact HN.out j hjk h
        · have := h.1; simp at this; omega
      have HE := Lib.hid hend
      clear hend
      by_cases h7 : k ≤ 7
      · have hks : s.size < k := by omega
        clear hlt
        go_wp2
        go_ret2
        exact ⟨ret_dec (decV_none HE.out), hsin⟩
      · have hk : 7 < k := by omega
        clear hlt h7
        go_wp2
        go_ret2
        exact ⟨ret_dec (decV_none HE.out), hsin⟩
end Go.Proofs.Ytpikplllkjpciaa
