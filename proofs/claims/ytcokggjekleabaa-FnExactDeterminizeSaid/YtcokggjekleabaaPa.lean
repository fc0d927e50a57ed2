/- The positions' next sets and accepting sets, the model's and the program's. -/
import Derived.Test.YtcokggjekleabaaPv
namespace Go.Proofs.Ytcokggjekleabaa
set_option maxRecDepth 100000
open Go.ChangeShapes Go.WideShapes Go.ChangeAt Go.RowKit
set_option linter.unusedVariables false
set_option linter.unusedSimpArgs false

theorem bit_test (S k : Nat) (hS : S < 4611686018427387904) : (bits .and .i64 ((S : Int) / 2 ^ k) 1 == 1) = S.testBit k := by
  have h1 : ((S : Int) / 2 ^ k) = ((S / 2 ^ k : Nat) : Int) := by simp
  have h2 : S / 2 ^ k ≤ S := Nat.div_le_self _ _
  have h3 := i64_and_nat (S / 2 ^ k) 1 (by omega) (by omega)
  rw [h1]
  rw [show ((1 : Nat) : Int) = 1 from rfl] at h3
  rw [h3, Nat.and_one_is_mod, Nat.testBit_eq_decide_div_mod_eq, Bool.eq_iff_iff]
  simp; omega
theorem bit_test0 (S : Nat) (hS : S < 4611686018427387904) : (bits .and .i64 (S : Int) 1 == 1) = S.testBit 0 := by
  have := bit_test S 0 hS
  simpa using this
/-- What a walk wants of valid positions: plain bounds. -/
theorem posB_plain {p : Psn} (h : posB p = true) : p.ls.length ≤ 20 ∧ p.fo.length = p.ls.length ∧ (∃ m : Nat, p.fi = m ∧ p.fi.toNat = m ∧ m < 1048576) ∧ (∃ m : Nat, p.la = m ∧ p.la.toNat = m ∧ m < 1048576) ∧ (∀ i (hj : i < p.fo.length), p.fo[i] = (foN p i : Int) ∧ foN p i < 1048576) ∧ (∀ S k, rchK p S k < 1048576) ∧ (∀ S l, aft p S l < 2097152) := by
  obtain ⟨h1, h2, ⟨a, ha, ha2⟩, ⟨b, hb, hb2⟩, _, h6⟩ := posB_parts h
  have hp : 2 ^ p.ls.length ≤ 1048576 := Nat.le_trans (Nat.pow_le_pow_right (by decide) h1) (by decide : 2 ^ 20 ≤ 1048576)
  refine ⟨h1, h2, ⟨a, ha, by rw [ha]; rfl, Nat.lt_of_lt_of_le ha2 hp⟩, ⟨b, hb, by rw [hb]; rfl, Nat.lt_of_lt_of_le hb2 hp⟩, fun i hj => ⟨(h6 i (by rw [← h2]; exact hj) hj).1, Nat.lt_of_lt_of_le (h6 i (by rw [← h2]; exact hj) hj).2 hp⟩, fun S k => Nat.lt_of_lt_of_le (rchK_lt h S k) hp, fun S l => ?_⟩
  refine Nat.lt_of_lt_of_le (aft_lt p S l) ?_
  rw [Nat.pow_succ]
  exact Nat.mul_le_mul_right 2 hp
set_option maxHeartbeats 1500000 in
set_option maxRecDepth 100000 in
theorem specAF_any (v : Value) (p : Psn) (S : Nat) (l : Int) (w : World) (h : PsAt w v p) (hv : posB p = true) (hS : S < 4611686018427387904) :
    Calls Try.prog 113 #[v, .int .i64 (S : Int), .int .i64 l] w fun e w' => e = .returned (.int .i64 (aft p S l : Int)) ∧ Since w w' := by
  obtain ⟨hn9, hm9, ⟨F, hF, hF2, hF9⟩, _, hfo, hlt0, _⟩ := posB_plain hv
  have HFO := Lib.hid hfo
  have HLT := Lib.hid (hlt0 S)
  have HF := Lib.hid hF2
  have HV := Lib.hid hv
  clear hfo hlt0 hF2 hv
  obtain ⟨a, b, rfl, ha, hb, _⟩ := h
  obtain ⟨ao, ac, rfl, HA⟩ := ha.row
  obtain ⟨bo, bc, rfl, HB⟩ := hb.row
  clear ha hb
  have HM := Lib.hid hm9
  obtain ⟨m, hm⟩ : ∃ m, m = p.fo.length := ⟨_, rfl⟩
  obtain ⟨n, hn⟩ : ∃ n, n = p.ls.length := ⟨_, rfl⟩
  rw [← hm, ← hn] at hm9
  subst hm9
  rw [← hn] at hn9
  rw [← hn, ← hm, hF]
  obtain ⟨y, hy⟩ : ∃ y, y = w.alloc (.cells #[.slice ao m ac, .int .i64 (F : Int), .int .i64 p.la, .slice bo m bc, .bool p.nu] 41) := ⟨_, rfl⟩
  have hs0 : Since w y := by rw [hy]; exact (Since.refl w).alloc _
  have B0 : Hid (Blk y w.heap.size 41 #[.slice ao m ac, .int .i64 (F : Int), .int .i64 p.la, .slice bo m bc, .bool p.nu]) := by rw [hy]; exact Blk.new rfl _ _
  have HN := Lib.hid hn
  have HMM := Lib.hid hm
  have HY := Lib.hid hy
  obtain ⟨⟨p0, p1, p2, p3, p4⟩, _⟩ := B0.out.fiveP
  rw [hy] at p0 p1 p2 p3 p4
  clear hn hm hy hF
  obtain ⟨m0, hm0⟩ : ∃ m0, m0 = rchK p S 0 := ⟨_, rfl⟩
  have HM0 := Lib.hid hm0
  obtain ⟨c0, hc0⟩ : ∃ c, c = S.testBit 0 := ⟨_, rfl⟩
  have HT0 := Lib.hid (bit_test0 S hS)
  rw [← hc0] at HT0
  have HS0 : Hid (m0 = if c0 = true then F else 0) := by unfold Hid; rw [hm0, ← HF.out, hc0]; rfl
  clear hm0 hc0
  go_enter Try.func113, Try.ntmps113
  have ht0 := HT0.out
  go_upto_if 13 with fail
  clear ht0
  go_cut [7] from 14 to 15 (fun c wx => c = .int .i64 (m0 : Int) ∧ wx = w.alloc (.cells #[.slice ao m ac, .int .i64 (F : Int), .int .i64 p.la, .slice bo m bc, .bool p.nu] 41))
  case first =>
    have ht0 := HT0.out
    cases c0 with
    | false =>
      have e0 : m0 = 0 := by rw [HS0.out]; rfl
      go_wp2_with fail
      go_meet
      exact ⟨by simp [e0], rfl⟩
    | true =>
      have e0 : m0 = F := by rw [HS0.out]; rfl
      go_wp2_with fail
      go_meet
      exact ⟨by simp [e0], rfl⟩
  case rest =>
    obtain ⟨hc, rfl⟩ := hcut
    subst hc
    go_wp2_with fail
    go_loop [7, 8] (fun q i => ∃ k : Nat, k ≤ m ∧ i = .int .i64 k ∧ q = .int .i64 ((rchK p S k : Nat) : Int)) (fun _ i => m - (intOf i).toNat)
    case atStart => exact ⟨0, Nat.zero_le _, rfl, by rw [HM0.out]⟩
    case round =>
      obtain ⟨k, hk, rfl, rfl⟩ := hrel
      obtain ⟨R, hR⟩ : ∃ R, R = rchK p S k := ⟨_, rfl⟩
      rw [← hR]
      by_cases hlt : k < m
      · obtain ⟨c1, hc1⟩ : ∃ c, c = S.testBit (k + 1) := ⟨_, rfl⟩
        have hx2 : k < p.fo.length := by have := HMM.out; omega
        obtain ⟨f1, f2⟩ := HFO.out k hx2
        obtain ⟨bu, ou, rfl, hbu, cu⟩ := HB.out k hx2
        rw [← since_cells hs0 hbu] at cu
        rw [HY.out, f1] at cu
        obtain ⟨G, hG⟩ : ∃ G, G = foN p k := ⟨_, rfl⟩
        rw [← hG] at cu f2
        have hR9 : R < 1048576 := by have := HLT.out k; rw [← hR] at this; exact this
        have HNX : Hid (rchK p S (k + 1) = if c1 = true then R ||| G else R) := by unfold Hid; rw [hc1, hR, hG]; rfl
        have hk1 : (0 : Int) ≤ (k : Int) := by omega
        have hk2 : (k : Int) < (m : Int) := by omega
        have hw2 : (0 : Int) ≤ (k : Int) + 1 := by omega
        have hw3 : ((k : Int) + 1).toNat = k + 1 := by omega
        have hw4 : min (k + 1) 64 = k + 1 := by omega
        have HR := Lib.hid hR
        have hor := i64_or_nat R G (by omega) (by omega)
        have ht1 := bit_test S (k + 1) hS
        rw [← hc1] at ht1
        clear hR hc1 f1 hR9 f2 hG
        cases c1 with
        | false =>
          go_wp2_with fail
          go_round
          case rel => exact ⟨k + 1, by omega, by go_num, by rw [HNX.out]; rfl⟩
          case measure => simp [intOf]; omega
        | true =>
          go_wp2_with fail
          go_round
          case rel => exact ⟨k + 1, by omega, by go_num, by rw [HNX.out]; rfl⟩
          case measure => simp [intOf]; omega
      · obtain rfl : k = m := by omega
        have hMX : R < 1048576 := by have := HLT.out k; rw [← hR] at this; exact this
        have HMR : Hid (aft p S l = pckK p.ls l R k) := by unfold Hid aft; rw [hR, HN.out]
        clear hR hlt
        go_wp2_with fail
        go_loop [9, 10] (fun q i => ∃ j : Nat, j ≤ k ∧ i = .int .i64 j ∧ q = .int .i64 ((pckK p.ls l R j : Nat) : Int)) (fun _ i => k - (intOf i).toNat)
        case atStart => exact ⟨0, Nat.zero_le _, rfl, rfl⟩
        case round =>
          obtain ⟨j, hj, rfl, rfl⟩ := hrel
          obtain ⟨T, hT⟩ : ∃ T, T = pckK p.ls l R j := ⟨_, rfl⟩
          rw [← hT]
          by_cases hlt : j < k
          · obtain ⟨c1, hc1⟩ : ∃ c, c = R.testBit j := ⟨_, rfl⟩
            have hx : j < p.ls.length := by have := HN.out; omega
            obtain ⟨bv, ov, rfl, hbv, cv⟩ := HA.out j hx
            rw [← since_cells hs0 hbv] at cv
            rw [HY.out] at cv
            obtain ⟨c2, hc2⟩ : ∃ c, c = (p.ls[j] == l) := ⟨_, rfl⟩
            have hls : lsN p.ls j = p.ls[j] := by unfold lsN; simp [List.getD, hx]
            obtain ⟨P, hP⟩ : ∃ P, P = 2 ^ (j + 1) := ⟨_, rfl⟩
            have hP9 : P < 9223372036854775808 := by rw [hP]; exact pow_lt62 (by omega)
            have hT9 : T < 2 ^ 22 := by rw [hT]; exact pckK_lt p.ls l R j 21 (by omega)
            have HNX : Hid (pckK p.ls l R (j + 1) = if (c1 && c2) = true then T ||| P else T) := by unfold Hid; rw [hc1, hc2, hT, hP, ← hls]; rfl
            have hk1 : (0 : Int) ≤ (j : Int) := by omega
            have hk2 : (j : Int) < (k : Int) := by omega
            have hw2 : (0 : Int) ≤ (j : Int) + 1 := by omega
            have hw3 : ((j : Int) + 1).toNat = j + 1 := by omega
            have hw4 : min (j + 1) 64 = j + 1 := by omega
            have hw5 : min j 64 = j := by omega
            have hor := i64_or_nat T P (by omega) hP9
            have ht1 := bit_test R j (by omega)
            rw [← hc1] at ht1
            have ew : wrap64 (2 ^ (j + 1)) = (P : Int) := by rw [hP]; exact wrap64_pow (by omega)
            have hc2' := hc2.symm
            clear hT hc1 hc2 hP hP9 hT9 hls
            cases c1 with
            | false =>
              go_wp2_with fail
              clear hor ht1 ew
              go_round
              case rel => exact ⟨j + 1, by omega, by go_num, by rw [HNX.out]; rfl⟩
              case measure => simp [intOf]; omega
            | true =>
              cases c2 with
              | false =>
                go_wp2_with fail
                clear hor ht1 ew
                go_round
                case rel => exact ⟨j + 1, by omega, by go_num, by rw [HNX.out]; rfl⟩
                case measure => simp [intOf]; omega
              | true =>
                go_wp2_with fail
                clear hor ht1 ew
                go_round
                case rel => exact ⟨j + 1, by omega, by go_num, by rw [HNX.out]; rfl⟩
                case measure => simp [intOf]; omega
          · obtain rfl : j = k := by omega
            go_wp2
            go_ret
            exact ⟨ret_int (by rw [HMR.out]), by rw [← HY.out]; exact hs0⟩
theorem i64_andNot_nat (a b : Nat) (ha : a < 9223372036854775808) (hb : b < 9223372036854775808) : bits .andNot .i64 (a : Int) (b : Int) = ((a &&& (2 ^ 64 - 1 - b) : Nat) : Int) := by
  have hx : a &&& (2 ^ 64 - 1 - b) ≤ a := Nat.and_le_left
  show IntKind.i64.wrap ((BitVec.ofInt 64 (a : Int) &&& ~~~BitVec.ofInt 64 (b : Int)).toNat : Int) = _
  rw [BitVec.toNat_and, BitVec.toNat_not, ofInt_u64 a (by omega), ofInt_u64 b (by omega)]
  exact wrap_small _ (by omega)
set_option maxHeartbeats 1500000 in
set_option maxRecDepth 100000 in
theorem implAF_any (v : Value) (p : Psn) (S : Nat) (l : Int) (w : World) (h : PsAt w v p) (hv : posB p = true) (hS : S < 4611686018427387904) :
    Calls Try.prog 118 #[v, .int .i64 (S : Int), .int .i64 l] w fun e w' => e = .returned (.int .i64 (aft p S l : Int)) ∧ Since w w' := by
  obtain ⟨hn9, hm9, ⟨F, hF, hF2, hF9⟩, _, hfo, hlt0, _⟩ := posB_plain hv
  have HFO := Lib.hid hfo
  have HLT := Lib.hid (hlt0 S)
  have HF := Lib.hid hF2
  have HV := Lib.hid hv
  clear hfo hlt0 hF2 hv
  obtain ⟨a, b, rfl, ha, hb, _⟩ := h
  obtain ⟨ao, ac, rfl, HA⟩ := ha.row
  obtain ⟨bo, bc, rfl, HB⟩ := hb.row
  clear ha hb
  have HM := Lib.hid hm9
  obtain ⟨m, hm⟩ : ∃ m, m = p.fo.length := ⟨_, rfl⟩
  obtain ⟨n, hn⟩ : ∃ n, n = p.ls.length := ⟨_, rfl⟩
  rw [← hm, ← hn] at hm9
  subst hm9
  rw [← hn] at hn9
  rw [← hn, ← hm, hF]
  obtain ⟨y, hy⟩ : ∃ y, y = w.alloc (.cells #[.slice ao m ac, .int .i64 (F : Int), .int .i64 p.la, .slice bo m bc, .bool p.nu] 41) := ⟨_, rfl⟩
  have hs0 : Since w y := by rw [hy]; exact (Since.refl w).alloc _
  have B0 : Hid (Blk y w.heap.size 41 #[.slice ao m ac, .int .i64 (F : Int), .int .i64 p.la, .slice bo m bc, .bool p.nu]) := by rw [hy]; exact Blk.new rfl _ _
  have HN := Lib.hid hn
  have HMM := Lib.hid hm
  have HY := Lib.hid hy
  obtain ⟨⟨p0, p1, p2, p3, p4⟩, _⟩ := B0.out.fiveP
  rw [hy] at p0 p1 p2 p3 p4
  clear hn hm hy hF
  have hlen : p.fo.length = p.fo.length := rfl
  obtain ⟨c0, hc0⟩ : ∃ c, c = S.testBit 0 := ⟨_, rfl⟩
  have HH : Hid (∀ k : Nat, k ≤ 62 → ∀ W, Calls Try.prog 119 #[.int .i64 (S : Int), .int .i64 (k : Int)] W fun e w' => e = .returned (.bool (S.testBit k)) ∧ W = w') := fun k hk W => has_any S k W hS hk
  have HH0 : Hid (∀ W, Calls Try.prog 119 #[.int .i64 (S : Int), .int .i64 0] W fun e w' => e = .returned (.bool c0) ∧ W = w') := fun W => by rw [hc0]; exact HH.out 0 (by omega) W
  obtain ⟨m0, hm0⟩ : ∃ m0, m0 = rchK p S 0 := ⟨_, rfl⟩
  have HM0 := Lib.hid hm0
  have HS0 : Hid (m0 = if c0 = true then F else 0) := by unfold Hid; rw [hm0, ← HF.out, hc0]; rfl
  clear hm0 hc0 hlen
  go_enter Try.func118, Try.ntmps118
  go_wp2_with fail
  refine (HH0.out _).mono ?_
  rintro e wx ⟨rfl, rfl⟩
  go_upto_if 13 with fail
  go_cut [7] from 14 to 15 (fun c wx => c = .int .i64 (m0 : Int) ∧ wx = w.alloc (.cells #[.slice ao m ac, .int .i64 (F : Int), .int .i64 p.la, .slice bo m bc, .bool p.nu] 41))
  case first =>
    cases c0 with
    | false =>
      have e0 : m0 = 0 := by rw [HS0.out]; rfl
      go_wp2_with fail
      go_meet
      exact ⟨by simp [e0], rfl⟩
    | true =>
      have e0 : m0 = F := by rw [HS0.out]; rfl
      go_wp2_with fail
      go_meet
      exact ⟨by simp [e0], rfl⟩
  case rest =>
    obtain ⟨hc, rfl⟩ := hcut
    subst hc
    go_wp2_with fail
    go_loop [7, 19] (fun q i => ∃ k : Nat, k ≤ m ∧ i = .int .i64 k ∧ q = .int .i64 ((rchK p S k : Nat) : Int)) (fun _ i => m - (intOf i).toNat)
    case atStart => exact ⟨0, Nat.zero_le _, rfl, by rw [HM0.out]⟩
    case round =>
      obtain ⟨k, hk, rfl, rfl⟩ := hrel
      obtain ⟨R, hR⟩ : ∃ R, R = rchK p S k := ⟨_, rfl⟩
      rw [← hR]
      by_cases hlt : k < m
      · obtain ⟨c1, hc1⟩ : ∃ c, c = S.testBit (k + 1) := ⟨_, rfl⟩
        have hx2 : k < p.fo.length := by have := HMM.out; omega
        obtain ⟨f1, f2⟩ := HFO.out k hx2
        obtain ⟨bu, ou, rfl, hbu, cu⟩ := HB.out k hx2
        rw [← since_cells hs0 hbu] at cu
        rw [HY.out, f1] at cu
        obtain ⟨G, hG⟩ : ∃ G, G = foN p k := ⟨_, rfl⟩
        rw [← hG] at cu f2
        have hR9 : R < 1048576 := by have := HLT.out k; rw [← hR] at this; exact this
        have HNX : Hid (rchK p S (k + 1) = if c1 = true then R ||| G else R) := by unfold Hid; rw [hc1, hR, hG]; rfl
        have HC : Hid (∀ W, Calls Try.prog 119 #[.int .i64 (S : Int), .int .i64 ((k : Int) + 1)] W fun e w' => e = .returned (.bool c1) ∧ W = w') := fun W => by rw [hc1]; exact HH.out (k + 1) (by omega) W
        have hk1 : (0 : Int) ≤ (k : Int) := by omega
        have hk2 : (k : Int) < (m : Int) := by omega
        have HR := Lib.hid hR
        have hor := i64_or_nat R G (by omega) (by omega)
        clear hR hc1 f1 hR9 f2 hG
        go_wp2_with fail
        refine (HC.out _).mono ?_
        rintro e wx ⟨rfl, rfl⟩
        cases c1 with
        | false =>
          go_wp2_with fail
          clear hor
          go_round
          case rel => exact ⟨k + 1, by omega, by go_num, by rw [HNX.out]; rfl⟩
          case measure => simp [intOf]; omega
        | true =>
          go_wp2_with fail
          clear hor
          go_round
          case rel => exact ⟨k + 1, by omega, by go_num, by rw [HNX.out]; rfl⟩
          case measure => simp [intOf]; omega
      · obtain rfl : k = m := by omega
        have hMX : R < 1048576 := by have := HLT.out k; rw [← hR] at this; exact this
        have HFIN : Hid (clrK p.ls l R k * 2 = aft p S l) := by unfold Hid; have := clr_aft HV.out S l; rw [← HN.out, ← hR] at this; exact this
        clear hR hlt
        go_wp2_with fail
        go_loop [7, 35] (fun q i => ∃ j : Nat, j ≤ k ∧ i = .int .i64 j ∧ q = .int .i64 ((clrK p.ls l R j : Nat) : Int)) (fun _ i => k - (intOf i).toNat)
        case atStart => exact ⟨0, Nat.zero_le _, rfl, rfl⟩
        case round =>
          obtain ⟨j, hj, rfl, rfl⟩ := hrel
          obtain ⟨T, hT⟩ : ∃ T, T = clrK p.ls l R j := ⟨_, rfl⟩
          have hT9 : T < 1048576 := by rw [hT]; exact clrK_lt p.ls l R 20 j hMX (by decide) (by omega)
          by_cases hlt : j < k
          · rw [← hT]
            have hx : j < p.ls.length := by have := HN.out; omega
            obtain ⟨bv, ov, rfl, hbv, cv⟩ := HA.out j hx
            rw [← since_cells hs0 hbv] at cv
            rw [HY.out] at cv
            obtain ⟨c2, hc2⟩ : ∃ c, c = (p.ls[j] == l) := ⟨_, rfl⟩
            have hls : lsN p.ls j = p.ls[j] := by unfold lsN; simp [List.getD, hx]
            obtain ⟨P, hP⟩ : ∃ P, P = 2 ^ j := ⟨_, rfl⟩
            have hP9 : P < 9223372036854775808 := by rw [hP]; exact pow_lt62 (by omega)
            have HNX : Hid (clrK p.ls l R (j + 1) = if c2 = true then T else T &&& (2 ^ 64 - 1 - P)) := by unfold Hid; rw [hc2, hT, hP, ← hls]; rfl
            have HC : Hid (∀ W, Calls Try.prog 68 #[.int .i64 (j : Int)] W fun e w' => e = .returned (.int .i64 (P : Int)) ∧ W = w') := fun W => by rw [hP]; exact setOf_any j W (by omega)
            have hk1 : (0 : Int) ≤ (j : Int) := by omega
            have hk2 : (j : Int) < (k : Int) := by omega
            have HOR := Lib.hid (i64_andNot_nat T P (by omega) hP9)
            have hc2' : (p.ls[j] != l) = !c2 := by rw [hc2]; rfl
            have HT := Lib.hid hT
            clear hT hc2 hP hP9 hT9 hls
            cases c2 with
            | true =>
              have hc3 : (p.ls[j] != l) = false := hc2'
              clear hc2'
              go_wp2_with fail
              go_round
              case rel => exact ⟨j + 1, by omega, by go_num, by rw [HNX.out]; rfl⟩
              case measure => simp [intOf]; omega
            | false =>
              have hc3 : (p.ls[j] != l) = true := hc2'
              clear hc2'
              go_wp2_with fail
              refine (HC.out _).mono ?_
              rintro e wx ⟨rfl, rfl⟩
              have hor := HOR.out
              go_wp2_with fail
              clear hor
              go_round
              case rel => exact ⟨j + 1, by omega, by go_num, by rw [HNX.out]; rfl⟩
              case measure => simp [intOf]; omega
          · obtain rfl : j = k := by omega
            rw [← hT] at HFIN ⊢
            have HC : Hid (∀ W, Calls Try.prog 117 #[.int .i64 (T : Int)] W fun e w' => e = .returned (.int .i64 ((T * 2 : Nat) : Int)) ∧ W = w') := fun W => statesOf_any T W (by omega)
            rw [HFIN.out] at HC
            clear hT
            go_wp2_with fail
            refine (HC.out _).mono ?_
            rintro e wx ⟨rfl, rfl⟩
            go_wp2
            go_ret
            exact ⟨rfl, by rw [← HY.out]; exact hs0⟩
end Go.Proofs.Ytcokggjekleabaa
