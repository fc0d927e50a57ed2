/- The laws' helpers on histories: sizes, comparisons, marks and checks. -/
import Derived.Test.YtgdeiecbkmhbeaaHsL
namespace Go.Proofs.Ytgdeiecbkmhbeaa
set_option maxRecDepth 100000
open Go.ChangeShapes Go.WideShapes Go.ChangeAt Go.RowKit
set_option linter.unusedVariables false
set_option linter.unusedSimpArgs false

/-! sizes -/
theorem szH_neg {gs : List Grf} {left : Int} (k : Nat) (hk : k < gs.length) (h : szG gs[k] (left - (gs.length : Int) - (totH (gs.take k) : Int)) < 0) : szH gs left = -1 := by
  rw [szG_tot] at h
  have h1 := totH_step gs k hk
  have h2 := totH_take gs (k + 1)
  unfold szH
  split at h
  · rw [if_pos (by omega)]
  · omega
theorem szH_step {gs : List Grf} {left : Int} (k : Nat) (hk : k < gs.length) (h : ¬ szG gs[k] (left - (gs.length : Int) - (totH (gs.take k) : Int)) < 0) :
    szG gs[k] (left - (gs.length : Int) - (totH (gs.take k) : Int)) = left - (gs.length : Int) - (totH (gs.take (k + 1)) : Int) := by
  rw [szG_tot] at h ⊢
  have h1 := totH_step gs k hk
  split at h
  · omega
  · rename_i hc; rw [if_neg hc]; omega
set_option maxRecDepth 100000 in
theorem szGraphS_any (v : Value) (gs : List Grf) (left : Int) (w : World) (h : GrsAt w v gs) (hl : gs.length ≤ maxLen) (hl2 : ∀ k (hk : k < gs.length), (gs[k]).vs.length ≤ maxLen ∧ (gs[k]).es.length ≤ maxLen) (h0 : 0 ≤ left) (h1 : left ≤ 1048576) :
    Calls Try.prog 76 #[v, .int .i64 left] w fun e w' => e = .returned (.int .i64 (szH gs left)) ∧ Since w w' := by
  obtain ⟨ao, cap, rfl, HC⟩ := h
  unfold maxLen at hl
  obtain ⟨n, hn⟩ : ∃ n, n = gs.length := ⟨_, rfl⟩
  rw [← hn] at hl ⊢
  have HN := Lib.hid hn
  have HL2 := Lib.hid hl2
  clear hn hl2
  by_cases hb : left - (n : Int) < 0
  · have HE : Hid (szH gs left = -1) := by unfold Hid szH; rw [if_pos (by have := HN.out; omega)]
    go_enter Try.func76, Try.ntmps76
    go_wp2
    go_ret
    exact ⟨ret_int HE.out.symm, Since.refl w⟩
  · have hb' : ¬ left - (n : Int) < 0 := hb
    go_enter Try.func76, Try.ntmps76
    go_wp2
    go_loopw [1, 5] (fun q i wr => ∃ (k : Nat) (z : Int), k ≤ n ∧ i = .int .i64 k ∧ q = .int .i64 z ∧ Hid (z = left - (n : Int) - (totH (gs.take k) : Int)) ∧ 0 ≤ z ∧ z ≤ 1048576 ∧ Since w wr) (fun _ i _ => n - (intOf i).toNat)
    case atStart => exact ⟨0, left - n, Nat.zero_le _, rfl, rfl, by unfold Hid; simp [totH], by omega, by omega, Since.refl w⟩
    case round =>
      obtain ⟨k, z, hk, rfl, rfl, HZ, hz0, hz9, hsin⟩ := hrel
      by_cases hlt : k < n
      · have hx : k < gs.length := by have := HN.out; omega
        obtain ⟨b, off, p, q, rfl, hb1, c0, c1, hg⟩ := HC.out k hx
        obtain ⟨vo, vc, eo, ec, rfl, rfl⟩ := grf_shape hg
        have s1 := since_cells hsin hb1
        rw [← s1] at c0 c1
        clear s1
        have HG := Lib.hid (hg.since hsin)
        have hm := HL2.out k hx
        have hkn : (n : Int) = (gs.length : Int) := by have := HN.out; omega
        obtain ⟨y, hy⟩ : ∃ y, szG gs[k] z = y := ⟨_, rfl⟩
        have HY := Lib.hid hy
        by_cases hneg : y < 0
        · have HR : Hid (szH gs left = -1) := by
            refine szH_neg k hx ?_
            rw [← hkn, ← HZ.out, hy]; exact hneg
          clear hy hkn hg
          go_wp2_with fail
          refine (szG_is _ gs[k] z y _ HG.out hm hz0 hz9 HY.out).mono ?_
          rintro e w2 ⟨rfl, hs2⟩
          have hs := hsin.trans hs2
          go_wp2
          go_ret
          exact ⟨ret_int HR.out.symm, hs⟩
        · have HR : Hid (y = left - (n : Int) - (totH (gs.take (k + 1)) : Int)) := by
            have := szH_step (left := left) k hx (by rw [← hkn, ← HZ.out, hy]; exact hneg)
            rw [← hkn, ← HZ.out, hy] at this
            exact this
          have hy9 : y ≤ 1048576 := by have := HR.out; omega
          have hy0 : 0 ≤ y := by omega
          clear hy hkn hg
          go_wp2_with fail
          refine (szG_is _ gs[k] z y _ HG.out hm hz0 hz9 HY.out).mono ?_
          rintro e w2 ⟨rfl, hs2⟩
          have hs := hsin.trans hs2
          go_wp2
          go_roundw
          case rel => exact ⟨k + 1, y, by omega, by go_num, rfl, HR, hy0, hy9, hs⟩
          case measure => simp [intOf]; omega
      · obtain rfl : k = n := by omega
        have HR : Hid (szH gs left = z) := by
          have h2 := HZ.out
          rw [List.take_of_length_le (by have := HN.out; omega)] at h2
          have := HN.out
          unfold Hid szH
          rw [if_neg (by omega)]; omega
        go_wp2
        go_ret
        exact ⟨ret_int HR.out.symm, hsin⟩
theorem szHistory_any (v : Value) (x : Hst) (left y : Int) (w : World) (h : HstAt w v x) (hl : MxH x) (h0 : 0 ≤ left) (h1 : left ≤ 1048576) (hy : szH x.gs left = y) :
    Calls Try.prog 36 #[v, .int .i64 left] w fun e w' => e = .returned (.int .i64 y) ∧ Since w w' := by
  obtain ⟨b, rfl, hb⟩ := h
  have HB := Lib.hid hb
  obtain ⟨bo, cb, rfl, _⟩ := hb
  have hs0 : Since w (w.alloc (.cells #[.int .i64 x.f, .slice bo x.gs.length cb] 59)) := (Since.refl w).alloc _
  have HY := Lib.hid hy
  have HC : (y = -1) ∨ (0 ≤ y) := by
    unfold szH at hy
    split at hy <;> omega
  clear hy
  rcases HC with hc | hc
  · subst hc
    go_enter Try.func36, Try.ntmps36
    go_wp2_with fail
    refine (szGraphS_any _ x.gs _ _ (HB.out.since hs0) hl.1 hl.2 h0 h1).mono ?_
    rintro e w1 ⟨rfl, hs1⟩
    rw [HY.out]
    have hs01 := hs0.trans hs1
    go_wp2
    go_ret
    exact ⟨rfl, hs01⟩
  · have hd : decide (y < 0) = false := by simp; omega
    go_enter Try.func36, Try.ntmps36
    go_wp2_with fail
    refine (szGraphS_any _ x.gs _ _ (HB.out.since hs0) hl.1 hl.2 h0 h1).mono ?_
    rintro e w1 ⟨rfl, hs1⟩
    rw [HY.out]
    have hs01 := hs0.trans hs1
    go_wp2
    go_ret
    exact ⟨rfl, hs01⟩
/-! comparisons -/
theorem take_eq_stepG {xs ys : List Grf} (k : Nat) (h1 : k < xs.length) (h2 : k < ys.length) (h : xs.take k = ys.take k) (he : xs[k] = ys[k]) : xs.take (k + 1) = ys.take (k + 1) := by
  rw [List.take_succ_eq_append_getElem h1, List.take_succ_eq_append_getElem h2, h, he]
theorem ne_of_atG {xs ys : List Grf} (k : Nat) (h1 : k < xs.length) (h2 : k < ys.length) (he : xs[k] ≠ ys[k]) : xs ≠ ys := by
  intro e; subst e; exact he rfl
set_option maxHeartbeats 1000000 in
set_option maxRecDepth 100000 in
theorem eqGraphS_any (a b : Value) (xs ys : List Grf) (w : World) (ha : GrsAt w a xs) (hb : GrsAt w b ys) (hl : xs.length ≤ 2097154 ∧ totH xs ≤ 2097154) (hl2 : ys.length ≤ 2097154 ∧ totH ys ≤ 2097154) :
    Calls Try.prog 78 #[a, b] w fun e w' => e = .returned (.bool (decide (xs = ys))) ∧ Since w w' := by
  obtain ⟨ao1, cap1, rfl, HC1⟩ := ha
  obtain ⟨ao2, cap2, rfl, HC2⟩ := hb
  have HB1 := Lib.hid (fun k hk => big_get hl.2 k hk)
  have HB2 := Lib.hid (fun k hk => big_get hl2.2 k hk)
  by_cases hlen : xs.length = ys.length
  · rw [← hlen]
    obtain ⟨n, hn⟩ : ∃ n, n = xs.length := ⟨_, rfl⟩
    rw [← hn]
    have hn9 : n ≤ 2097154 := by omega
    have HN := Lib.hid hn
    have HN2 : Hid (n = ys.length) := by rw [hn]; exact hlen
    have HNE : (((n : Nat) : Int) != ((n : Nat) : Int)) = false := by simp
    clear hn hlen hl hl2
    go_enter Try.func78, Try.ntmps78
    go_wp2
    go_loopw [5] (fun i wr => ∃ k : Nat, k ≤ n ∧ i = .int .i64 k ∧ Hid (xs.take k = ys.take k) ∧ Since w wr) (fun i _ => n - (intOf i).toNat)
    case atStart => exact ⟨0, Nat.zero_le _, rfl, rfl, Since.refl w⟩
    case round =>
      obtain ⟨k, hk, rfl, HT, hsin⟩ := hrel
      by_cases hlt : k < n
      · have hx : k < xs.length := by have := HN.out; omega
        have hy : k < ys.length := by have := HN2.out; omega
        obtain ⟨b1, off1, p1, q1, rfl, hb1, c10, c11, hg1⟩ := HC1.out k hx
        obtain ⟨b2, off2, p2, q2, rfl, hb2, c20, c21, hg2⟩ := HC2.out k hy
        obtain ⟨vo1, vc1, eo1, ec1, rfl, rfl⟩ := grf_shape hg1
        obtain ⟨vo2, vc2, eo2, ec2, rfl, rfl⟩ := grf_shape hg2
        have s1 := since_cells hsin hb1
        have s2 := since_cells hsin hb2
        rw [← s1] at c10 c11
        rw [← s2] at c20 c21
        clear s1 s2
        have HG1 := Lib.hid (hg1.since hsin)
        have HG2 := Lib.hid (hg2.since hsin)
        have m1 := HB1.out k hx
        have m2 := HB2.out k hy
        clear hg1 hg2
        have hki : (k : Int) < (n : Int) := by omega
        have hk0 : (0 : Int) ≤ (k : Int) := by omega
        go_wp2
        by_cases he : xs[k] = ys[k]
        · have HE := Lib.hid (show decide (xs[k] = ys[k]) = true from decide_eq_true he)
          have HF := Lib.hid (take_eq_stepG k hx hy HT.out he)
          clear he
          go_still_tail 8, (by kernel_rfl)
          go_wp2_with fail
          refine (eqGraph_any _ _ xs[k] ys[k] _ (HG1.out.since (Since.refl _).drew) (HG2.out.since (Since.refl _).drew) (by omega) (by omega) (by omega) (by omega)).mono ?_
          rintro e w1 ⟨rfl, hs1⟩
          rw [HE.out]
          have hs := hsin.trans (Since.of_drew hs1)
          go_wp2
          go_roundw
          case rel => exact ⟨k + 1, by omega, by go_num, HF, hs⟩
          case measure => simp [intOf]; omega
        · have HE := Lib.hid (show decide (xs[k] = ys[k]) = false from decide_eq_false he)
          have HF := Lib.hid (show decide (xs = ys) = false from decide_eq_false (ne_of_atG k hx hy he))
          clear he
          go_still_tail 8, (by kernel_rfl)
          go_wp2_with fail
          refine (eqGraph_any _ _ xs[k] ys[k] _ (HG1.out.since (Since.refl _).drew) (HG2.out.since (Since.refl _).drew) (by omega) (by omega) (by omega) (by omega)).mono ?_
          rintro e w1 ⟨rfl, hs1⟩
          rw [HE.out]
          have hs := hsin.trans (Since.of_drew hs1)
          go_wp2
          go_ret
          exact ⟨ret_bool HF.out.symm, hs⟩
      · obtain rfl : k = n := by omega
        have HE : Hid (decide (xs = ys) = true) := by
          have := HT.out
          rw [List.take_of_length_le (by have := HN.out; omega), List.take_of_length_le (by have := HN2.out; omega)] at this
          unfold Hid; simpa using this
        go_wp2
        go_ret
        exact ⟨ret_bool HE.out.symm, hsin⟩
  · have HE : Hid (decide (xs = ys) = false) := by unfold Hid; simp; intro e; rw [e] at hlen; exact hlen rfl
    have hne : ((xs.length : Int) != (ys.length : Int)) = true := by simp; omega
    obtain ⟨n, hn⟩ : ∃ n, n = xs.length := ⟨_, rfl⟩
    obtain ⟨m, hm⟩ : ∃ m, m = ys.length := ⟨_, rfl⟩
    rw [← hn, ← hm] at hne ⊢
    have hn9 : n ≤ 4611686018427387904 := by omega
    have hm9 : m ≤ 4611686018427387904 := by omega
    clear hn hm hlen hl hl2 HC1 HC2
    go_enter Try.func78, Try.ntmps78
    go_wp2
    go_ret
    exact ⟨ret_bool HE.out.symm, Since.refl _⟩
set_option maxRecDepth 100000 in
theorem eqHistory_any (a b : Value) (x y : Hst) (w : World) (ha : HstAt w a x) (hb : HstAt w b y) (h1 : BgH x) (h2 : BgH y) :
    Calls Try.prog 38 #[a, b] w fun e w' => e = .returned (.bool (decide (x = y))) ∧ Since w w' := by
  obtain ⟨a1, rfl, ha1⟩ := ha
  obtain ⟨b1, rfl, hb1⟩ := hb
  have HA := Lib.hid ha1
  have HB := Lib.hid hb1
  obtain ⟨ao, ac, rfl, _⟩ := ha1
  obtain ⟨bo, bc, rfl, _⟩ := hb1
  have hs0 : Since w ((w.alloc (.cells #[.int .i64 x.f, .slice ao x.gs.length ac] 26)).alloc (.cells #[.int .i64 y.f, .slice bo y.gs.length bc] 26)) := ((Since.refl w).alloc _).alloc _
  by_cases hf : x.f = y.f
  · have hne : (x.f != y.f) = false := by simpa using hf
    obtain ⟨c, hc⟩ : ∃ c, c = decide (x.gs = y.gs) := ⟨_, rfl⟩
    have HC := Lib.hid hc
    have HD : Hid (decide (x = y) = c) := by
      unfold Hid; rw [hc, Bool.eq_iff_iff]; simp only [decide_eq_true_eq, Hst.eq_iff]; exact ⟨fun h => h.2, fun h => ⟨hf, h⟩⟩
    rw [HD.out]
    clear hc hf HD
    cases c
    all_goals
      go_enter Try.func38, Try.ntmps38
      go_wp2_with fail
      refine (eqGraphS_any _ _ x.gs y.gs _ (HA.out.since hs0) (HB.out.since hs0) h1 h2).mono ?_
      rintro e w1 ⟨rfl, hs1⟩
      rw [← HC.out]
      have hs01 := hs0.trans hs1
      go_wp2
      go_ret
      exact ⟨rfl, hs01⟩
  · have hne : (x.f != y.f) = true := by simpa using hf
    have HD : Hid (decide (x = y) = false) := by unfold Hid; exact decide_eq_false (fun e => hf (by rw [e]))
    rw [HD.out]
    clear hf HD
    go_enter Try.func38, Try.ntmps38
    go_wp2
    go_ret
    exact ⟨rfl, hs0⟩
end Go.Proofs.Ytgdeiecbkmhbeaa
