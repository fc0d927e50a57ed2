/- endsFromAll and repeatedEnds, out of endsFrom. -/
import Derived.Test.YtiojgahjfndmdaaDoorMwM
import Derived.Deep.DeepCutAuto
namespace Go.Proofs.YtiojgahjfndmdaaDoor
set_option maxRecDepth 100000
open Go.ChangeShapes Go.WideShapes Go.ChangeAt Go.RowKit
set_option linter.unusedVariables false
set_option linter.unusedSimpArgs false

theorem end_lt {W : List Int} {T : Tr} (hW : W.length ≤ 8) (h : T.ok) {i : Nat} (hi : i ≤ W.length) : endT W T i < 512 :=
  Nat.lt_of_lt_of_le (endT_lt W h hi) (Nat.pow_le_pow_right (n := 2) (by omega) (by omega : W.length + 1 ≤ 9))
theorem all_lt {W : List Int} {T : Tr} (hW : W.length ≤ 8) (h : T.ok) (S k : Nat) (hk : k ≤ W.length + 1) : allE (endT W T) S k < 512 :=
  allE_lt (N := 9) (fun s hs => end_lt hW h (by omega))
theorem rch_lt {W : List Int} {T : Tr} (hW : W.length ≤ 8) (h : T.ok) {i : Nat} (hi : i ≤ W.length) (k : Nat) : rchE (endT W T) W.length i k < 512 :=
  Nat.lt_of_lt_of_le (rchE_lt hi (fun s hs => endT_lt W h hs) k) (Nat.pow_le_pow_right (n := 2) (by omega) (by omega : W.length + 1 ≤ 9))
theorem set_lt {W : List Int} {T : Tr} (hW : W.length ≤ 8) (h : T.ok) {i : Nat} (hi : i ≤ W.length) (low k : Nat) : setE (endT W T) W.length low i k < 512 :=
  Nat.lt_of_lt_of_le (setE_lt hi (fun s hs => endT_lt W h hs) k) (Nat.pow_le_pow_right (n := 2) (by omega) (by omega : W.length + 1 ≤ 9))
set_option maxHeartbeats 2000000 in
set_option maxRecDepth 100000 in
theorem all_of (W : List Int) (T : Tr) (hW : W.length ≤ 8) (H : FromC W T) : AllC W T := by
  intro b lo hi a0 b0 wv v S w hok ha hb hhb ht hm hw hS
  have HT := Lib.hid ht
  have HWD := Lib.hid hw
  have HM := Lib.hid hm
  have HOK := Lib.hid hok
  have hbw := hm.lt
  obtain ⟨pv, rfl⟩ := ht.isPtr
  obtain ⟨wo, wc, rfl, _⟩ := hw
  obtain ⟨n, hn⟩ : ∃ n, n = W.length := ⟨_, rfl⟩
  rw [← hn] at HWD hW ⊢
  have HN := Lib.hid hn
  clear hn hok ht hm
  obtain ⟨y, hy⟩ : ∃ y, y = w.alloc (.cells #[.slice wo n wc, .map (some b)] 109) := ⟨_, rfl⟩
  have al : Since w y := by rw [hy]; exact (Since.refl w).alloc _
  have BM : Hid (Blk y w.heap.size 109 #[.slice wo n wc, .map (some b)]) := by rw [hy]; exact Blk.new rfl _ _
  have HY := Lib.hid hy
  obtain ⟨p0, p1, _, _⟩ := BM.out.two
  rw [hy] at p0 p1
  clear hy
  go_enter Tryd.func123, Tryd.ntmps123
  go_wp2_with fail
  rw [← HY.out]
  clear p0 p1
  go_loopw [7, 13] (fun s i wr => ∃ k : Nat, k ≤ n + 1 ∧ i = .int .i64 k ∧ s = .int .i64 ((allE (endT W T) S k : Nat) : Int) ∧ Hid (MemoOk W wr b lo hi) ∧ Hid (Within b (b + 1) y wr)) (fun _ i _ => n + 1 - (intOf i).toNat)
  case atStart => exact ⟨0, Nat.zero_le _, rfl, rfl, HM.out.since al, Within.refl _ _ _⟩
  case round =>
    obtain ⟨k, hk, rfl, rfl, HMr, HWr⟩ := hrel
    have hAlt := all_lt (by rw [← HN.out]; exact hW) HOK.out S k (by rw [← HN.out]; exact hk)
    by_cases hlt : k < n + 1
    · have hki : (k : Int) < (n : Int) + 1 := by omega
      have hk0 : (0 : Int) ≤ (k : Int) := by omega
      have hk10 : k < 10 := by omega
      have hwp := shl_one k hk10
      have hkW : k ≤ W.length := by rw [← HN.out]; omega
      have HSC := Lib.hid (allE_succ (endT W T) S k)
      have hz := and_zero S k (by omega) hk10
      cases hbit : S.testBit k with
      | true =>
        rw [hbit] at hz
        have hz1 : (bits .and .i64 (S : Int) (2 ^ k) == 0) = false := hz
        have hz2 : (bits .and .i64 (S : Int) (2 ^ k) != 0) = true := by simp only [bne, hz1]; rfl
        have HA1 : Hid (allE (endT W T) S (k + 1) = allE (endT W T) S k ||| endT W T k) := by unfold Hid; rw [HSC.out, if_pos hbit]
        have hEl := end_lt (by rw [← HN.out]; exact hW) HOK.out hkW
        obtain ⟨A, hA⟩ : ∃ A, A = allE (endT W T) S k := ⟨_, rfl⟩
        rw [← hA] at hAlt HA1 ⊢
        obtain ⟨p0, p1, _, _⟩ := (BM.out.within HWr.out (by omega)).two
        clear hz hbit hA
        go_wp2_with fail
        clear p0 p1 hz1 hz2
        refine (H b lo hi a0 b0 _ _ k _ HOK.out ha hb hhb ((HT.out.since al).within HWr.out (by omega)) HMr.out ((HWD.out.since al).within HWr.out) hkW).mono ?_
        rintro e w3 ⟨rfl, hm3, hw3⟩
        have HM3 := Lib.hid hm3
        have HW3 := Lib.hid (HWr.out.trans hw3)
        obtain ⟨E, hE⟩ : ∃ E, E = endT W T k := ⟨_, rfl⟩
        rw [← hE] at hEl HA1 ⊢
        have hor := or_nat A E hAlt hEl
        clear hm3 hw3 hE
        go_wp2
        go_roundw
        case rel => exact ⟨k + 1, by omega, by go_num, by rw [HA1.out], HM3.out, HW3.out⟩
        case measure => simp [intOf]; omega
      | false =>
        rw [hbit] at hz
        have hz1 : (bits .and .i64 (S : Int) (2 ^ k) == 0) = true := hz
        have hz2 : (bits .and .i64 (S : Int) (2 ^ k) != 0) = false := by simp only [bne, hz1]; rfl
        have HA1 : Hid (allE (endT W T) S (k + 1) = allE (endT W T) S k) := by unfold Hid; rw [HSC.out, if_neg (by rw [hbit]; decide)]
        obtain ⟨A, hA⟩ : ∃ A, A = allE (endT W T) S k := ⟨_, rfl⟩
        rw [← hA] at hAlt HA1 ⊢
        clear hz hbit hA
        go_wp2
        go_roundw
        case rel => exact ⟨k + 1, by omega, by go_num, by rw [HA1.out], HMr.out, HWr.out⟩
        case measure => simp [intOf]; omega
    · obtain rfl : k = n + 1 := by omega
      obtain ⟨A, hA⟩ : ∃ A, A = allE (endT W T) S (n + 1) := ⟨_, rfl⟩
      rw [← hA]
      have HA := Lib.hid hA
      clear hA
      go_wp2
      go_ret
      exact ⟨ret_int (by rw [HA.out]), HMr.out, (Within.of_since al).trans HWr.out⟩
set_option maxHeartbeats 2000000 in
set_option maxRecDepth 100000 in
theorem rep_of (W : List Int) (T : Tr) (hW : W.length ≤ 8) (H : AllC W T) : RepC W T := by
  intro b lo hi a0 b0 wv v i low high w hok ha hb hhb ht hm hw hiW hlow hhigh
  have HT := Lib.hid ht
  have HWD := Lib.hid hw
  have HM := Lib.hid hm
  have HOK := Lib.hid hok
  have hbw := hm.lt
  obtain ⟨pv, rfl⟩ := ht.isPtr
  obtain ⟨wo, wc, rfl, _⟩ := hw
  obtain ⟨n, hn⟩ : ∃ n, n = W.length := ⟨_, rfl⟩
  rw [← hn] at HWD hW hiW ⊢
  have HN := Lib.hid hn
  clear hn hok ht hm
  obtain ⟨y, hy⟩ : ∃ y, y = w.alloc (.cells #[.slice wo n wc, .map (some b)] 109) := ⟨_, rfl⟩
  have al : Since w y := by rw [hy]; exact (Since.refl w).alloc _
  have BM : Hid (Blk y w.heap.size 109 #[.slice wo n wc, .map (some b)]) := by rw [hy]; exact Blk.new rfl _ _
  have HY := Lib.hid hy
  have hi10 : i < 10 := by omega
  have hwp := shl_one i hi10
  have hi0 : (0 : Int) ≤ (i : Int) := by omega
  clear hy
  go_enter Tryd.func124, Tryd.ntmps124
  go_upto_region 1 with fail
  go_region
  go_wp2_with fail
  try simp only [hwp]
  have HWP := Lib.hid hwp
  clear hwp
  go_loopw [11, 12, 18] (fun s q j wr => ∃ k : Nat, k ≤ high + 1 ∧ j = .int .i64 k ∧ s = .int .i64 ((setE (endT W T) n low i k : Nat) : Int) ∧ q = .int .i64 ((rchE (endT W T) n i k : Nat) : Int) ∧ Hid (MemoOk W wr b lo hi) ∧ Hid (Within b (b + 1) y wr)) (fun _ _ j _ => high + 1 - (intOf j).toNat)
  case atStart =>
    refine ⟨0, Nat.zero_le _, rfl, rfl, ?_, ?_, ?_⟩
    · show Value.int .i64 _ = .int .i64 (((2 ^ i : Nat)) : Int)
      first | rw [pow_cast] | rw [HWP.out, pow_cast] | rfl
    · unfold Hid; first | exact (HY.out ▸ HM.out.since al) | exact ((HY.out ▸ HM.out.since al : MemoOk W _ b lo hi).since ((Since.refl _).drew))
    · unfold Hid; first | exact (HY.out ▸ Within.refl _ _ _) | exact (HY.out ▸ Within.of_since (Since.refl _).drew)
  case round =>
    obtain ⟨k, hk, rfl, rfl, rfl, HMr, HWr⟩ := hrel
    have hWl : W.length ≤ 8 := by rw [← HN.out]; exact hW
    have hiW2 : i ≤ W.length := by rw [← HN.out]; exact hiW
    have hSl := set_lt hWl HOK.out hiW2 low k
    have hRl := rch_lt hWl HOK.out hiW2 k
    rw [← HN.out] at hSl hRl
    by_cases hlt : k < high + 1
    · have hki : (k : Int) < (high : Int) + 1 := by omega
      have hk0 : (0 : Int) ≤ (k : Int) := by omega
      have HSC := Lib.hid (setE_succ (endT W T) n low i k)
      have HRC : Hid (rchE (endT W T) n i (k + 1) = allE (endT W T) (rchE (endT W T) n i k) (n + 1)) := rfl
      obtain ⟨R, hR⟩ : ∃ R, R = rchE (endT W T) n i k := ⟨_, rfl⟩
      rw [← hR] at hRl HSC HRC ⊢
      obtain ⟨A, hA⟩ : ∃ A, A = setE (endT W T) n low i k := ⟨_, rfl⟩
      rw [← hA] at hSl HSC ⊢
      have hor := or_nat A R hSl hRl
      obtain ⟨p0, p1, _, _⟩ := (BM.out.within HWr.out (by omega)).two
      clear hR hA
      by_cases hlk : low ≤ k
      · have hlki : (low : Int) ≤ (k : Int) := by omega
        have HA1 : Hid (setE (endT W T) n low i (k + 1) = A ||| R) := by unfold Hid; rw [HSC.out, if_pos hlk]
        clear hlk
        go_wp2_with fail
        clear p0 p1 hor
        refine (H b lo hi a0 b0 _ _ R _ HOK.out ha hb hhb ((HT.out.since al).within HWr.out (by omega)) HMr.out ((HWD.out.since al).within HWr.out) hRl).mono ?_
        rintro e w3 ⟨rfl, hm3, hw3⟩
        have HM3 := Lib.hid hm3
        have HW3 := Lib.hid (HWr.out.trans hw3)
        clear hm3 hw3
        rw [← HN.out, ← HRC.out]
        obtain ⟨R2, hR2⟩ : ∃ R2, R2 = rchE (endT W T) n i (k + 1) := ⟨_, rfl⟩
        rw [← hR2]
        have HR2 := Lib.hid hR2
        clear hR2
        go_wp2
        go_roundw
        case rel => exact ⟨k + 1, by omega, by go_num, by rw [HA1.out], by rw [HR2.out], HM3.out, HW3.out⟩
        case measure => simp [intOf]; omega
      · have hlki : ¬ ((low : Int) ≤ (k : Int)) := by omega
        have HA1 : Hid (setE (endT W T) n low i (k + 1) = A) := by unfold Hid; rw [HSC.out, if_neg hlk]
        clear hlk
        go_wp2_with fail
        clear p0 p1 hor
        refine (H b lo hi a0 b0 _ _ R _ HOK.out ha hb hhb ((HT.out.since al).within HWr.out (by omega)) HMr.out ((HWD.out.since al).within HWr.out) hRl).mono ?_
        rintro e w3 ⟨rfl, hm3, hw3⟩
        have HM3 := Lib.hid hm3
        have HW3 := Lib.hid (HWr.out.trans hw3)
        clear hm3 hw3
        rw [← HN.out, ← HRC.out]
        obtain ⟨R2, hR2⟩ : ∃ R2, R2 = rchE (endT W T) n i (k + 1) := ⟨_, rfl⟩
        rw [← hR2]
        have HR2 := Lib.hid hR2
        clear hR2
        go_wp2
        go_roundw
        case rel => exact ⟨k + 1, by omega, by go_num, by rw [HA1.out], by rw [HR2.out], HM3.out, HW3.out⟩
        case measure => simp [intOf]; omega
    · obtain rfl : k = high + 1 := by omega
      obtain ⟨A, hA⟩ : ∃ A, A = setE (endT W T) n low i (high + 1) := ⟨_, rfl⟩
      rw [← hA]
      have HA := Lib.hid hA
      clear hA
      go_wp2
      go_ret
      exact ⟨ret_int (by rw [HA.out]), HMr.out, (Within.of_since al).trans HWr.out⟩
end Go.Proofs.YtiojgahjfndmdaaDoor
