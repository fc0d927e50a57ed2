/- PositionsMatch, the model's and the program's. -/
import Derived.Test.YtblmiocjhbpklaaDoorPc
namespace Go.Proofs.YtblmiocjhbpklaaDoor
set_option maxRecDepth 100000
open Go.ChangeShapes Go.WideShapes Go.ChangeAt Go.RowKit
set_option linter.unusedVariables false
set_option linter.unusedSimpArgs false

theorem word_le {z : List Int} (h : isWordB z = true) : z.length ≤ 8 := by
  unfold isWordB at h; simp at h; exact h.1
theorem aftW_small {p : Psn} (h : posB p = true) (z : List Int) : aftW p 1 z < 2097152 := by
  refine Nat.lt_of_lt_of_le (aftW_lt p 1 (Nat.one_lt_two_pow (by omega)) z) ?_
  exact Nat.le_trans (Nat.pow_le_pow_right (by decide) (show p.ls.length + 1 ≤ 21 by have := (posB_parts h).1; omega)) (by decide)

set_option maxHeartbeats 2000000 in
set_option maxRecDepth 100000 in
theorem implPM_any (v u : Value) (p : Psn) (z : List Int) (w : World) (h : PsAt w v p) (hz : IntsAt w u z) (hl : p.ls.length ≤ maxLen) (hl2 : p.fo.length ≤ maxLen) (hzl : z.length ≤ 1048577) :
    Calls Tryd.prog 28 #[v, u] w fun e w' => e = .returned (.bool (mtP p z)) ∧ Since w w' := by
  have HP := Lib.hid h
  have HZ := Lib.hid hz
  obtain ⟨a, b, rfl, ha, hb, hi1, hi2⟩ := h
  obtain ⟨ao, ac, rfl, _⟩ := ha.row
  obtain ⟨bo, bc, rfl, _⟩ := hb.row
  obtain ⟨zo, zc, rfl, HZC⟩ := hz.row
  clear ha hb hz
  obtain ⟨n, hn⟩ : ∃ n, n = p.ls.length := ⟨_, rfl⟩
  obtain ⟨m, hm⟩ : ∃ m, m = p.fo.length := ⟨_, rfl⟩
  obtain ⟨zn, hzn⟩ : ∃ zn, zn = z.length := ⟨_, rfl⟩
  rw [← hn, ← hm] at HP ⊢
  rw [← hzn] at HZ ⊢
  have HN := Lib.hid hn
  have HM := Lib.hid hm
  have HZN := Lib.hid hzn
  obtain ⟨y, hy⟩ : ∃ y, y = w.alloc (.cells #[.slice ao n ac, .int .i64 p.fi, .int .i64 p.la, .slice bo m bc, .bool p.nu] 39) := ⟨_, rfl⟩
  have hs0 : Since w y := by rw [hy]; exact (Since.refl w).alloc _
  have B0 : Hid (Blk y w.heap.size 39 #[.slice ao n ac, .int .i64 p.fi, .int .i64 p.la, .slice bo m bc, .bool p.nu]) := by rw [hy]; exact Blk.new rfl _ _
  have HY := Lib.hid hy
  obtain ⟨⟨p0, p1, p2, p3, p4⟩, _⟩ := B0.out.fiveP
  rw [hy] at p0 p1 p2 p3 p4
  clear hn hm hzn hy
  have HPV : Hid (∀ W, Since w W → Calls Tryd.prog 27 #[.agg #[.slice ao n ac, .int .i64 p.fi, .int .i64 p.la, .slice bo m bc, .bool p.nu]] W fun e w' => e = .returned (.bool (posB p)) ∧ Since W w') := fun W hW => implPV_any _ p W (HP.out.since hW) hl hl2
  have HIW : Hid (∀ W, Since w W → Calls Tryd.prog 58 #[.slice zo zn zc] W fun e w' => e = .returned (.bool (isWordB z)) ∧ W = w') := fun W hW => implIW_any _ z W (HZ.out.since hW) hzl
  clear hl hl2
  cases hv : posB p with
  | false =>
    rw [hv] at HPV
    have HR : Hid (mtP p z = false) := by unfold Hid mtP; rw [hv]; rfl
    clear hv
    go_enter Tryd.func28, Tryd.ntmps28
    go_wp2_with fail
    rw [← HY.out]
    refine (HPV.out _ hs0).mono ?_
    rintro e w1 ⟨rfl, hs1⟩
    have s1 := hs0.trans hs1
    go_wp2
    go_ret
    exact ⟨ret_bool HR.out.symm, s1⟩
  | true =>
    rw [hv] at HPV
    cases hw : isWordB z with
    | false =>
      rw [hw] at HIW
      have HR : Hid (mtP p z = false) := by unfold Hid mtP; rw [hv, hw]; rfl
      clear hv hw
      go_enter Tryd.func28, Tryd.ntmps28
      go_wp2_with fail
      rw [← HY.out]
      refine (HPV.out _ hs0).mono ?_
      rintro e w1 ⟨rfl, hs1⟩
      have s1 := hs0.trans hs1
      obtain ⟨⟨q0, q1, q2, q3, q4⟩, _⟩ := (B0.out.since hs1).fiveP
      go_wp2_with fail
      refine (HIW.out _ s1).mono ?_
      rintro e wx ⟨rfl, rfl⟩
      go_wp2
      go_ret
      exact ⟨ret_bool HR.out.symm, s1⟩
    | true =>
      rw [hw] at HIW
      have hz8 : zn ≤ 8 := by rw [HZN.out]; exact word_le hw
      have HR : Hid (mtP p z = accN p (aftW p 1 z)) := by unfold Hid mtP; rw [hv, hw]; rfl
      have HSM := Lib.hid (aftW_small hv)
      have HAF : Hid (∀ (S : Nat) (l : Int) W, Since w W → S < 2097152 → Calls Tryd.prog 75 #[.agg #[.slice ao n ac, .int .i64 p.fi, .int .i64 p.la, .slice bo m bc, .bool p.nu], .int .i64 (S : Int), .int .i64 l] W fun e w' => e = .returned (.int .i64 (aft p S l : Int)) ∧ Since W w') := fun S l W hW hS => implAF_any _ p S l W (HP.out.since hW) hv (by omega)
      have HAS : Hid (∀ W, Since w W → Calls Tryd.prog 71 #[.agg #[.slice ao n ac, .int .i64 p.fi, .int .i64 p.la, .slice bo m bc, .bool p.nu]] W fun e w' => e = .returned (.int .i64 (accS p : Int)) ∧ Since W w') := fun W hW => implAS_any _ p W (HP.out.since hW) hv
      have hA9 : accS p < 2097152 := by
        refine Nat.lt_of_lt_of_le (accS_lt hv) ?_
        exact Nat.le_trans (Nat.pow_le_pow_right (by decide) (show p.ls.length + 1 ≤ 21 by have := (posB_parts hv).1; omega)) (by decide)
      obtain ⟨T, hT⟩ : ∃ T, T = accS p := ⟨_, rfl⟩
      rw [← hT] at HAS hA9
      have HAN : Hid (∀ S : Nat, (((S &&& T : Nat) : Int) != 0) = accN p S) := by intro S; rw [← acc_and, ← hT]; exact and_ne_cast _ _
      have HC0 : Hid (∀ W, Calls Tryd.prog 78 #[.int .i64 0] W fun e w' => e = .returned (.int .i64 1) ∧ W = w') := fun W => setOf_any 0 W (by omega)
      clear hT
      clear hv hw
      go_enter Tryd.func28, Tryd.ntmps28
      go_wp2_with fail
      rw [← HY.out]
      refine (HPV.out _ hs0).mono ?_
      rintro e w1 ⟨rfl, hs1⟩
      have s1 := hs0.trans hs1
      obtain ⟨⟨q0, q1, q2, q3, q4⟩, _⟩ := (B0.out.since hs1).fiveP
      go_wp2_with fail
      refine (HIW.out _ s1).mono ?_
      rintro e wx ⟨rfl, rfl⟩
      go_wp2_with fail
      refine (HC0.out _).mono ?_
      rintro e wx ⟨rfl, rfl⟩
      clear p0 p1 p2 p3 p4
      clear q0 q1 q2 q3 q4
      go_wp2_with fail
      go_loopw [5, 19] (fun q i wr => ∃ k : Nat, k ≤ zn ∧ i = .int .i64 k ∧ q = .int .i64 ((aftW p 1 (z.take k) : Nat) : Int) ∧ Hid (Since y wr)) (fun _ i _ => zn - (intOf i).toNat)
      case atStart => exact ⟨0, Nat.zero_le _, rfl, rfl, hs1⟩
      case round =>
        obtain ⟨k, hk, rfl, rfl, HS⟩ := hrel
        obtain ⟨R, hR⟩ : ∃ R, R = aftW p 1 (z.take k) := ⟨_, rfl⟩
        have hR9 : R < 2097152 := by rw [hR]; exact HSM.out _
        have s2 := hs0.trans HS.out
        obtain ⟨⟨q0, q1, q2, q3, q4⟩, _⟩ := (B0.out.since HS.out).fiveP
        by_cases hlt : k < zn
        · rw [← hR]
          have hx : k < z.length := by have := HZN.out; omega
          have HNX : Hid (aftW p 1 (z.take (k + 1)) = aft p R z[k]) := by unfold Hid; rw [hR]; exact aftW_snoc p 1 z k hx
          obtain ⟨bv, ov, rfl, hbv, cv⟩ := HZC.out k hx
          obtain ⟨x, hxv⟩ : ∃ x, x = z[k] := ⟨_, rfl⟩
          rw [← hxv] at cv HNX
          have hk1 : (0 : Int) ≤ (k : Int) := by omega
          have hk2 : (k : Int) < (zn : Int) := by omega
          have HR1 := Lib.hid hR
          clear hR hxv
          have cv2 := ((since_cells s2 hbv) _).trans cv
          go_wp2_with fail
          refine (HAF.out _ _ _ s2 hR9).mono ?_
          rintro e w3 ⟨rfl, hs3⟩
          have HS3 := Lib.hid (HS.out.trans hs3)
          go_wp2_with fail
          go_roundw
          case rel => exact ⟨k + 1, by omega, by go_num, by rw [HNX.out], HS3⟩
          case measure => simp [intOf]; omega
        · obtain rfl : k = zn := by omega
          rw [← hR]
          have hfin : R = aftW p 1 z := by rw [hR, List.take_of_length_le (by have := HZN.out; omega)]
          have HF : Hid ((((R &&& T : Nat) : Int) != 0) = mtP p z) := by unfold Hid; rw [HAN.out, HR.out, hfin]
          have HAND := Lib.hid (i64_and_nat R T (by omega) (by omega))
          clear hfin hR
          go_wp2_with fail
          refine (HAS.out _ s2).mono ?_
          rintro e w4 ⟨rfl, hs4⟩
          have hand := HAND.out
          go_wp2
          go_ret
          exact ⟨ret_bool HF.out, s2.trans hs4⟩
end Go.Proofs.YtblmiocjhbpklaaDoor
