/- EqualHistories, the program's and the model's. -/
import Derived.Test.YtgdeiecbkmhbeaaHsK
import Derived.Test.YtgdeiecbkmhbeaaEqG2
import Derived.Test.YtgdeiecbkmhbeaaK1
namespace Go.Proofs.Ytgdeiecbkmhbeaa
set_option maxRecDepth 100000
open Go.ChangeShapes Go.WideShapes Go.ChangeAt Go.RowKit
set_option linter.unusedVariables false
set_option linter.unusedSimpArgs false

set_option maxHeartbeats 1000000 in
set_option maxRecDepth 100000 in
theorem equalFuncG_any (a b : Value) (xs ys : List Grf) (w : World) (ha : GrsAt w a xs) (hb : GrsAt w b ys) (hl : xs.length ≤ 2097154 ∧ totH xs ≤ 2097154) (hl2 : ys.length ≤ 2097154 ∧ totH ys ≤ 2097154) :
    Calls Try.prog 56 #[a, b, .func (.func 22) #[] #[]] w fun e w' => e = .returned (.bool (decide (xs = ys))) ∧ Since w w' := by
  obtain ⟨ao1, cap1, rfl, HC1⟩ := ha
  obtain ⟨ao2, cap2, rfl, HC2⟩ := hb
  have HB1 := Lib.hid (fun k hk => big_get hl.2 k hk)
  have HB2 := Lib.hid (fun k hk => big_get hl2.2 k hk)
  by_cases hlen : xs.length = ys.length
  · rw [← hlen]
    obtain ⟨n, hn⟩ : ∃ n, n = xs.length := ⟨_, rfl⟩
    rw [← hn]
    have hn9 : n ≤ 2097154 := by omega
    have HN := Lib.hid hn
    have HN2 : Hid (n = ys.length) := by rw [hn]; exact hlen
    have HNE : (((n : Nat) : Int) != ((n : Nat) : Int)) = false := by simp
    clear hn hlen hl hl2
    go_enter Try.func56, Try.ntmps56
    go_wp2
    go_loopw [17] (fun i wr => ∃ k : Nat, k ≤ n ∧ i = .int .i64 k ∧ Hid (xs.take k = ys.take k) ∧ Since w wr) (fun i _ => n - (intOf i).toNat)
    case atStart => exact ⟨0, Nat.zero_le _, rfl, rfl, Since.refl w⟩
    case round =>
      obtain ⟨k, hk, rfl, HT, hsin⟩ := hrel
      by_cases hlt : k < n
      · have hx : k < xs.length := by have := HN.out; omega
        have hy : k < ys.length := by have := HN2.out; omega
        obtain ⟨b1, off1, p1, q1, rfl, hb1, c10, c11, hg1⟩ := HC1.out k hx
        obtain ⟨b2, off2, p2, q2, rfl, hb2, c20, c21, hg2⟩ := HC2.out k hy
        obtain ⟨vo1, vc1, eo1, ec1, rfl, rfl⟩ := grf_shape hg1
        obtain ⟨vo2, vc2, eo2, ec2, rfl, rfl⟩ := grf_shape hg2
        have s1 := since_cells hsin hb1
        rw [← s1] at c10 c11
        obtain ⟨y1, hy1⟩ : ∃ y1, y1 = wr.alloc (.cells #[.slice vo1 xs[k].vs.length vc1, .slice eo1 xs[k].es.length ec1] 39) := ⟨_, rfl⟩
        have hs1 : Since wr y1 := by rw [hy1]; exact (Since.refl wr).alloc _
        have s2 := since_cells (hsin.trans hs1) hb2
        rw [← s2, hy1] at c20 c21
        clear s1 s2
        obtain ⟨y2, hy2⟩ : ∃ y2, y2 = (wr.alloc (.cells #[.slice vo1 xs[k].vs.length vc1, .slice eo1 xs[k].es.length ec1] 39)).alloc (.cells #[.slice vo2 ys[k].vs.length vc2, .slice eo2 ys[k].es.length ec2] 39) := ⟨_, rfl⟩
        have hs2 : Since wr y2 := by rw [hy2]; exact ((Since.refl wr).alloc _).alloc _
        have HG1 := Lib.hid ((hg1.since hsin).since hs2)
        have HG2 := Lib.hid ((hg2.since hsin).since hs2)
        have m1 := HB1.out k hx
        have m2 := HB2.out k hy
        clear hg1 hg2 hy1 hs1
        have hki : (k : Int) < (n : Int) := by omega
        have hk0 : (0 : Int) ≤ (k : Int) := by omega
        by_cases he : xs[k] = ys[k]
        · have HE := Lib.hid (show decide (xs[k] = ys[k]) = true from decide_eq_true he)
          have HF := Lib.hid (take_eq_stepG k hx hy HT.out he)
          clear he
          go_wp2_with fail
          try rw [← hy2]
          clear hy2
          refine (implEQ_any _ _ xs[k] ys[k] _ HG1.out HG2.out (by omega) (by omega) (by omega) (by omega)).mono ?_
          rintro e w1 ⟨rfl, hs3⟩
          rw [HE.out]
          have hs := hsin.trans (hs2.trans hs3)
          go_wp2
          go_roundw
          case rel => exact ⟨k + 1, by omega, by go_num, HF, hs⟩
          case measure => simp [intOf]; omega
        · have HE := Lib.hid (show decide (xs[k] = ys[k]) = false from decide_eq_false he)
          have HF := Lib.hid (show decide (xs = ys) = false from decide_eq_false (ne_of_atG k hx hy he))
          clear he
          go_wp2_with fail
          try rw [← hy2]
          clear hy2
          refine (implEQ_any _ _ xs[k] ys[k] _ HG1.out HG2.out (by omega) (by omega) (by omega) (by omega)).mono ?_
          rintro e w1 ⟨rfl, hs3⟩
          rw [HE.out]
          have hs := hsin.trans (hs2.trans hs3)
          go_wp2
          go_ret
          exact ⟨ret_bool HF.out.symm, hs⟩
      · obtain rfl : k = n := by omega
        have HE : Hid (decide (xs = ys) = true) := by
          have := HT.out
          rw [List.take_of_length_le (by have := HN.out; omega), List.take_of_length_le (by have := HN2.out; omega)] at this
          unfold Hid; simpa using this
        go_wp2
        go_ret
        exact ⟨ret_bool HE.out.symm, hsin⟩
  · have HE : Hid (decide (xs = ys) = false) := by unfold Hid; simp; intro e; rw [e] at hlen; exact hlen rfl
    have hne : ((xs.length : Int) != (ys.length : Int)) = true := by simp; omega
    obtain ⟨n, hn⟩ : ∃ n, n = xs.length := ⟨_, rfl⟩
    obtain ⟨m, hm⟩ : ∃ m, m = ys.length := ⟨_, rfl⟩
    rw [← hn, ← hm] at hne ⊢
    have hn9 : n ≤ 4611686018427387904 := by omega
    have hm9 : m ≤ 4611686018427387904 := by omega
    clear hn hm hlen hl hl2 HC1 HC2
    go_enter Try.func56, Try.ntmps56
    go_wp2
    go_ret
    exact ⟨ret_bool HE.out.symm, Since.refl _⟩
theorem hst_dec (x y : Hst) (hf : x.f = y.f) : decide (x = y) = decide (x.gs = y.gs) := by
  rw [Bool.eq_iff_iff]; simp only [decide_eq_true_eq, Hst.eq_iff]; exact ⟨fun h => h.2, fun h => ⟨hf, h⟩⟩
set_option maxRecDepth 100000 in
theorem implEH_any (a b : Value) (x y : Hst) (w : World) (ha : HstAt w a x) (hb : HstAt w b y) (h1 : BgH x) (h2 : BgH y) :
    Calls Try.prog 16 #[a, b] w fun e w' => e = .returned (.bool (decide (x = y))) ∧ Since w w' := by
  obtain ⟨a1, rfl, ha1⟩ := ha
  obtain ⟨b1, rfl, hb1⟩ := hb
  have HA := Lib.hid ha1
  have HB := Lib.hid hb1
  obtain ⟨ao, ac, rfl, _⟩ := ha1
  obtain ⟨bo, bc, rfl, _⟩ := hb1
  have hs0 : Since w ((w.alloc (.cells #[.int .i64 x.f, .slice ao x.gs.length ac] 26)).alloc (.cells #[.int .i64 y.f, .slice bo y.gs.length bc] 26)) := ((Since.refl w).alloc _).alloc _
  by_cases hf : x.f = y.f
  · have hne : (x.f == y.f) = true := by simpa using hf
    rw [hst_dec x y hf]
    obtain ⟨c, hc⟩ : ∃ c, c = decide (x.gs = y.gs) := ⟨_, rfl⟩
    have HC := Lib.hid hc
    rw [← hc]
    clear hc hf
    go_enter Try.func16, Try.ntmps16
    go_wp2_with fail
    refine (equalFuncG_any _ _ x.gs y.gs _ (HA.out.since hs0) (HB.out.since hs0) h1 h2).mono ?_
    rintro e w1 ⟨rfl, hs1⟩
    rw [← HC.out]
    have hs01 := hs0.trans hs1
    go_wp2
    go_ret
    exact ⟨rfl, hs01⟩
  · have hne : (x.f == y.f) = false := by simpa using hf
    have HD : Hid (decide (x = y) = false) := by unfold Hid; exact decide_eq_false (fun e => hf (by rw [e]))
    rw [HD.out]
    clear hf HD
    go_enter Try.func16, Try.ntmps16
    go_wp2
    go_ret
    exact ⟨rfl, hs0⟩
set_option maxHeartbeats 2000000 in
set_option maxRecDepth 100000 in
theorem specEH_any (a b : Value) (x z : Hst) (w : World) (ha : HstAt w a x) (hb : HstAt w b z) (h1 : BgH x) (h2 : BgH z) :
    Calls Try.prog 48 #[a, b] w fun e w' => e = .returned (.bool (decide (x = z))) ∧ Since w w' := by
  obtain ⟨a1, rfl, ha1⟩ := ha
  obtain ⟨b1, rfl, hb1⟩ := hb
  obtain ⟨ao, ac, rfl, HC1⟩ := ha1
  obtain ⟨bo, bc, rfl, HC2⟩ := hb1
  have HB1 := Lib.hid (fun k hk => big_get h1.2 k hk)
  have HB2 := Lib.hid (fun k hk => big_get h2.2 k hk)
  obtain ⟨n, hn⟩ : ∃ n, n = x.gs.length := ⟨_, rfl⟩
  obtain ⟨m, hm⟩ : ∃ m, m = z.gs.length := ⟨_, rfl⟩
  have hn9 : n ≤ 2097154 := by have := h1.1; omega
  have hm9 : m ≤ 2097154 := by have := h2.1; omega
  rw [← hn, ← hm]
  have HN := Lib.hid hn
  have HM := Lib.hid hm
  clear hn hm h1 h2
  obtain ⟨y, hy⟩ : ∃ y, y = (w.alloc (.cells #[.int .i64 x.f, .slice ao n ac] 26)).alloc (.cells #[.int .i64 z.f, .slice bo m bc] 26) := ⟨_, rfl⟩
  have hs0 : Since w y := by rw [hy]; exact ((Since.refl w).alloc _).alloc _
  have BA : Hid (Blk y w.heap.size 26 #[.int .i64 x.f, .slice ao n ac]) := by rw [hy]; exact (Blk.new rfl _ _).alloc _
  have BB : Hid (Blk y (w.heap.size + 1) 26 #[.int .i64 z.f, .slice bo m bc]) := by rw [hy]; exact Blk.new (by simp) _ _
  by_cases hf : x.f = z.f
  rotate_left
  · have hne : (x.f != z.f) = true := by simpa using hf
    have HD : Hid (decide (x = z) = false) := by unfold Hid; exact decide_eq_false (fun e => hf (by rw [e]))
    rw [HD.out]
    clear hf HD
    rw [hy] at hs0
    clear hy
    go_enter Try.func48, Try.ntmps48
    go_wp2
    go_ret
    exact ⟨rfl, hs0⟩
  have hne : (x.f != z.f) = false := by simpa using hf
  rw [hst_dec x z hf]
  clear hf
  by_cases hnm : n = m
  rotate_left
  · have hnb : ((n : Int) != (m : Int)) = true := by simp; omega
    have HD : Hid (decide (x.gs = z.gs) = false) := by unfold Hid; exact decide_eq_false (fun e => hnm (by rw [HN.out, HM.out, e]))
    rw [HD.out]
    clear HD hnm
    rw [hy] at hs0
    clear hy
    go_enter Try.func48, Try.ntmps48
    go_wp2
    go_ret
    exact ⟨rfl, hs0⟩
  subst hnm
  have hnb : ((n : Int) != (n : Int)) = false := by simp
  go_enter Try.func48, Try.ntmps48
  go_wp2_with fail
  rw [← hy]
  clear hy
  go_loopw [5] (fun i wr => ∃ k : Nat, k ≤ n ∧ i = .int .i64 k ∧ Hid (x.gs.take k = z.gs.take k) ∧ Since y wr) (fun i _ => n - (intOf i).toNat)
  case atStart => exact ⟨0, Nat.zero_le _, rfl, rfl, Since.refl y⟩
  case round =>
    obtain ⟨k, hk, rfl, HT, hsw⟩ := hrel
    have hs0w := hs0.trans hsw
    obtain ⟨q0, q1, _, _⟩ := (BA.out.since hsw).two
    by_cases hlt : k < n
    · have hx : k < x.gs.length := by have := HN.out; omega
      have hz : k < z.gs.length := by have := HM.out; omega
      obtain ⟨be1, oe1, p1, r1, rfl, hb1, c10, c11, hg1⟩ := HC1.out k hx
      obtain ⟨be2, oe2, p2, r2, rfl, hb2, c20, c21, hg2⟩ := HC2.out k hz
      obtain ⟨vo1, vc1, eo1, ec1, rfl, rfl⟩ := grf_shape hg1
      obtain ⟨vo2, vc2, eo2, ec2, rfl, rfl⟩ := grf_shape hg2
      have HG1 := Lib.hid hg1
      have HG2 := Lib.hid hg2
      have m1 := Lib.hid (HB1.out k hx)
      have m2 := Lib.hid (HB2.out k hz)
      have HST := Lib.hid (fun he => take_eq_stepG k hx hz HT.out he)
      have HNO := Lib.hid (fun he => ne_of_atG k hx hz he)
      clear hg1 hg2
      generalize x.gs[k] = g at c10 c11 HG1 m1 HST HNO
      generalize z.gs[k] = u at c20 c21 HG2 m2 HST HNO
      have HKC : Hid (∀ w', Since wr w' → w'.cell? ⟨w.heap.size, 1, none⟩ = some (.slice (some ⟨be1, oe1, none⟩) n ac) ∧ w'.cell? ⟨w.heap.size + 1, 1, none⟩ = some (.slice (some ⟨be2, oe2, none⟩) n bc) ∧ w'.cell? ⟨be1, oe1 + k * 2, none⟩ = some (.slice vo1 g.vs.length vc1) ∧ w'.cell? ⟨be1, oe1 + k * 2 + 1, none⟩ = some (.slice eo1 g.es.length ec1) ∧ w'.cell? ⟨be2, oe2 + k * 2, none⟩ = some (.slice vo2 u.vs.length vc2) ∧ w'.cell? ⟨be2, oe2 + k * 2 + 1, none⟩ = some (.slice eo2 u.es.length ec2)) := by
        intro w' hs
        obtain ⟨_, y1, _, _⟩ := (BA.out.since (hsw.trans hs)).two
        obtain ⟨_, y2, _, _⟩ := (BB.out.since (hsw.trans hs)).two
        have s1 := since_cells (hs0w.trans hs) hb1
        have s2 := since_cells (hs0w.trans hs) hb2
        exact ⟨y1, y2, (s1 _).trans c10, (s1 _).trans c11, (s2 _).trans c20, (s2 _).trans c21⟩
      have kk0 : (0 : Int) ≤ (k : Int) := by omega
      have kk1 : (k : Int) < (n : Int) := by omega
      clear c10 c11 c20 c21
      by_cases he : g = u
      · have HE := Lib.hid (show decide (g = u) = true from decide_eq_true he)
        have HF := Lib.hid (HST.out he)
        clear he
        go_wp2_with fail
        clear q0 q1
        refine wp_region_held_drew (S := (fun w' => w'.cell? ⟨w.heap.size, 1, none⟩ = some (.slice (some ⟨be1, oe1, none⟩) n ac) ∧ w'.cell? ⟨w.heap.size + 1, 1, none⟩ = some (.slice (some ⟨be2, oe2, none⟩) n bc) ∧ w'.cell? ⟨be1, oe1 + k * 2, none⟩ = some (.slice vo1 g.vs.length vc1) ∧ w'.cell? ⟨be1, oe1 + k * 2 + 1, none⟩ = some (.slice eo1 g.es.length ec1) ∧ w'.cell? ⟨be2, oe2 + k * 2, none⟩ = some (.slice vo2 u.vs.length vc2) ∧ w'.cell? ⟨be2, oe2 + k * 2 + 1, none⟩ = some (.slice eo2 u.es.length ec2))) (by kernel_rfl) (HKC.out _ (Since.refl _).drew) (fun hHeld => ?_)
        refine take_yes 0 (some 27) (v := ?_) rfl (by kernel_rfl) (by kernel_rfl) (by kernel_rfl) (by kernel_rfl) (fun _ _ _ h => h) (by rfl) (by assumption) ?_ ?_
        rotate_left
        · (intro w' hSw; (try dsimp only at hSw); go_simp; try with_reducible rfl)
        try simp only [Act.put, List.setIfInBounds_toArray, List.set_cons_zero, List.set_cons_succ]
        refine take_yes 1 (some 28) (v := ?_) rfl (by kernel_rfl) (by kernel_rfl) (by kernel_rfl) (by kernel_rfl) (fun _ _ _ h => h) (by rfl) (by assumption) ?_ ?_
        rotate_left
        · (intro w' hSw; (try dsimp only at hSw); go_simp; try with_reducible rfl)
        try simp only [Act.put, List.setIfInBounds_toArray, List.set_cons_zero, List.set_cons_succ]
        refine take_yes 2 (some 29) (v := ?_) rfl (by kernel_rfl) (by kernel_rfl) (by kernel_rfl) (by kernel_rfl) (fun _ _ _ h => h) (by rfl) (by assumption) ?_ ?_
        rotate_left
        · (intro w' hSw; (try dsimp only at hSw); go_simp; try with_reducible rfl)
        try simp only [Act.put, List.setIfInBounds_toArray, List.set_cons_zero, List.set_cons_succ]
        refine take_yes 3 (some 30) (v := ?_) rfl (by kernel_rfl) (by kernel_rfl) (by kernel_rfl) (by kernel_rfl) (fun _ _ _ h => h) (by rfl) (by assumption) ?_ ?_
        rotate_left
        · (intro w' hSw; (try dsimp only at hSw); go_simp; try with_reducible rfl)
        try simp only [Act.put, List.setIfInBounds_toArray, List.set_cons_zero, List.set_cons_succ]
        refine take_yes 4 (some 31) (v := ?_) rfl (by kernel_rfl) (by kernel_rfl) (by kernel_rfl) (by kernel_rfl) (fun _ _ _ h => h) (by rfl) (by assumption) ?_ ?_
        rotate_left
        · (intro w' hSw; (try dsimp only at hSw); go_simp; try with_reducible rfl)
        try simp only [Act.put, List.setIfInBounds_toArray, List.set_cons_zero, List.set_cons_succ]
        refine take_yes 5 (some 32) (v := ?_) rfl (by kernel_rfl) (by kernel_rfl) (by kernel_rfl) (by kernel_rfl) (fun _ _ _ h => h) (by rfl) (by assumption) ?_ ?_
        rotate_left
        · (intro w' hSw; (try dsimp only at hSw); go_simp; try with_reducible rfl)
        try simp only [Act.put, List.setIfInBounds_toArray, List.set_cons_zero, List.set_cons_succ]
        refine take_yes 6 (some 33) (v := ?_) rfl (by kernel_rfl) (by kernel_rfl) (by kernel_rfl) (by kernel_rfl) (fun _ _ _ h => h) (by rfl) (by assumption) ?_ ?_
        rotate_left
        · (intro w' hSw; (try dsimp only at hSw); go_simp; try with_reducible rfl)
        try simp only [Act.put, List.setIfInBounds_toArray, List.set_cons_zero, List.set_cons_succ]
        refine take_yes 7 (some 34) (v := ?_) rfl (by kernel_rfl) (by kernel_rfl) (by kernel_rfl) (by kernel_rfl) (fun _ _ _ h => h) (by rfl) (by assumption) ?_ ?_
        rotate_left
        · (intro w' hSw; (try dsimp only at hSw); go_simp; try with_reducible rfl)
        try simp only [Act.put, List.setIfInBounds_toArray, List.set_cons_zero, List.set_cons_succ]
        refine take_yes 8 (some 35) (v := ?_) rfl (by kernel_rfl) (by kernel_rfl) (by kernel_rfl) (by kernel_rfl) (fun _ _ _ h => h) (by rfl) (by assumption) ?_ ?_
        rotate_left
        · (intro w' hSw; (try dsimp only at hSw); go_simp; try with_reducible rfl)
        try simp only [Act.put, List.setIfInBounds_toArray, List.set_cons_zero, List.set_cons_succ]
        refine take_yes 9 (some 36) (v := ?_) rfl (by kernel_rfl) (by kernel_rfl) (by kernel_rfl) (by kernel_rfl) (fun _ _ _ h => h) (by rfl) (by assumption) ?_ ?_
        rotate_left
        · (intro w' hSw; (try dsimp only at hSw); go_simp; try with_reducible rfl)
        try simp only [Act.put, List.setIfInBounds_toArray, List.set_cons_zero, List.set_cons_succ]
        refine take_run 10 rfl (by kernel_rfl) (by rfl) (fun K hK => ?_)
        go_simp
        refine (specEQ_any _ _ g u _ (HG1.out.since hs0w.drew) (HG2.out.since hs0w.drew) (by have := m1.out; omega) (by have := m1.out; omega) (by have := m2.out; omega) (by have := m2.out; omega)).mono ?_
        rintro en w6 ⟨rfl, hs6⟩
        rw [HE.out]
        have hc6 := (Since.refl wr).drew.trans hs6
        refine hK.out _ _ (HKC.out _ hc6) (fun hHeld1 => ?_)
        clear hK K hHeld
        try simp only [Act.put, List.setIfInBounds_toArray, List.set_cons_zero, List.set_cons_succ]
        refine take_yes 11 (some 38) (v := ?_) rfl (by kernel_rfl) (by kernel_rfl) (by kernel_rfl) (by kernel_rfl) (fun _ _ _ h => h) (by rfl) (by assumption) ?_ ?_
        rotate_left
        · (intro w' hSw; (try dsimp only at hSw); go_simp; try with_reducible rfl)
        try simp only [Act.put, List.setIfInBounds_toArray, List.set_cons_zero, List.set_cons_succ]
        refine wpAnyH_done (by kernel_rfl) ?_ _
        clear hHeld1 HKC
        have hsf := hsw.trans hc6
        go_wp2
        go_roundw
        case rel => exact ⟨k + 1, by omega, by go_num, HF, hsf⟩
        case measure => simp [intOf]; omega
      · have HE := Lib.hid (show decide (g = u) = false from decide_eq_false he)
        have HF := Lib.hid (show decide (x.gs = z.gs) = false from decide_eq_false (HNO.out he))
        clear he
        go_wp2_with fail
        clear q0 q1
        refine wp_region_held_drew (S := (fun w' => w'.cell? ⟨w.heap.size, 1, none⟩ = some (.slice (some ⟨be1, oe1, none⟩) n ac) ∧ w'.cell? ⟨w.heap.size + 1, 1, none⟩ = some (.slice (some ⟨be2, oe2, none⟩) n bc) ∧ w'.cell? ⟨be1, oe1 + k * 2, none⟩ = some (.slice vo1 g.vs.length vc1) ∧ w'.cell? ⟨be1, oe1 + k * 2 + 1, none⟩ = some (.slice eo1 g.es.length ec1) ∧ w'.cell? ⟨be2, oe2 + k * 2, none⟩ = some (.slice vo2 u.vs.length vc2) ∧ w'.cell? ⟨be2, oe2 + k * 2 + 1, none⟩ = some (.slice eo2 u.es.length ec2))) (by kernel_rfl) (HKC.out _ (Since.refl _).drew) (fun hHeld => ?_)
        refine take_yes 0 (some 27) (v := ?_) rfl (by kernel_rfl) (by kernel_rfl) (by kernel_rfl) (by kernel_rfl) (fun _ _ _ h => h) (by rfl) (by assumption) ?_ ?_
        rotate_left
        · (intro w' hSw; (try dsimp only at hSw); go_simp; try with_reducible rfl)
        try simp only [Act.put, List.setIfInBounds_toArray, List.set_cons_zero, List.set_cons_succ]
        refine take_yes 1 (some 28) (v := ?_) rfl (by kernel_rfl) (by kernel_rfl) (by kernel_rfl) (by kernel_rfl) (fun _ _ _ h => h) (by rfl) (by assumption) ?_ ?_
        rotate_left
        · (intro w' hSw; (try dsimp only at hSw); go_simp; try with_reducible rfl)
        try simp only [Act.put, List.setIfInBounds_toArray, List.set_cons_zero, List.set_cons_succ]
        refine take_yes 2 (some 29) (v := ?_) rfl (by kernel_rfl) (by kernel_rfl) (by kernel_rfl) (by kernel_rfl) (fun _ _ _ h => h) (by rfl) (by assumption) ?_ ?_
        rotate_left
        · (intro w' hSw; (try dsimp only at hSw); go_simp; try with_reducible rfl)
        try simp only [Act.put, List.setIfInBounds_toArray, List.set_cons_zero, List.set_cons_succ]
        refine take_yes 3 (some 30) (v := ?_) rfl (by kernel_rfl) (by kernel_rfl) (by kernel_rfl) (by kernel_rfl) (fun _ _ _ h => h) (by rfl) (by assumption) ?_ ?_
        rotate_left
        · (intro w' hSw; (try dsimp only at hSw); go_simp; try with_reducible rfl)
        try simp only [Act.put, List.setIfInBounds_toArray, List.set_cons_zero, List.set_cons_succ]
        refine take_yes 4 (some 31) (v := ?_) rfl (by kernel_rfl) (by kernel_rfl) (by kernel_rfl) (by kernel_rfl) (fun _ _ _ h => h) (by rfl) (by assumption) ?_ ?_
        rotate_left
        · (intro w' hSw; (try dsimp only at hSw); go_simp; try with_reducible rfl)
        try simp only [Act.put, List.setIfInBounds_toArray, List.set_cons_zero, List.set_cons_succ]
        refine take_yes 5 (some 32) (v := ?_) rfl (by kernel_rfl) (by kernel_rfl) (by kernel_rfl) (by kernel_rfl) (fun _ _ _ h => h) (by rfl) (by assumption) ?_ ?_
        rotate_left
        · (intro w' hSw; (try dsimp only at hSw); go_simp; try with_reducible rfl)
        try simp only [Act.put, List.setIfInBounds_toArray, List.set_cons_zero, List.set_cons_succ]
        refine take_yes 6 (some 33) (v := ?_) rfl (by kernel_rfl) (by kernel_rfl) (by kernel_rfl) (by kernel_rfl) (fun _ _ _ h => h) (by rfl) (by assumption) ?_ ?_
        rotate_left
        · (intro w' hSw; (try dsimp only at hSw); go_simp; try with_reducible rfl)
        try simp only [Act.put, List.setIfInBounds_toArray, List.set_cons_zero, List.set_cons_succ]
        refine take_yes 7 (some 34) (v := ?_) rfl (by kernel_rfl) (by kernel_rfl) (by kernel_rfl) (by kernel_rfl) (fun _ _ _ h => h) (by rfl) (by assumption) ?_ ?_
        rotate_left
        · (intro w' hSw; (try dsimp only at hSw); go_simp; try with_reducible rfl)
        try simp only [Act.put, List.setIfInBounds_toArray, List.set_cons_zero, List.set_cons_succ]
        refine take_yes 8 (some 35) (v := ?_) rfl (by kernel_rfl) (by kernel_rfl) (by kernel_rfl) (by kernel_rfl) (fun _ _ _ h => h) (by rfl) (by assumption) ?_ ?_
        rotate_left
        · (intro w' hSw; (try dsimp only at hSw); go_simp; try with_reducible rfl)
        try simp only [Act.put, List.setIfInBounds_toArray, List.set_cons_zero, List.set_cons_succ]
        refine take_yes 9 (some 36) (v := ?_) rfl (by kernel_rfl) (by kernel_rfl) (by kernel_rfl) (by kernel_rfl) (fun _ _ _ h => h) (by rfl) (by assumption) ?_ ?_
        rotate_left
        · (intro w' hSw; (try dsimp only at hSw); go_simp; try with_reducible rfl)
        try simp only [Act.put, List.setIfInBounds_toArray, List.set_cons_zero, List.set_cons_succ]
        refine take_run 10 rfl (by kernel_rfl) (by rfl) (fun K hK => ?_)
        go_simp
        refine (specEQ_any _ _ g u _ (HG1.out.since hs0w.drew) (HG2.out.since hs0w.drew) (by have := m1.out; omega) (by have := m1.out; omega) (by have := m2.out; omega) (by have := m2.out; omega)).mono ?_
        rintro en w6 ⟨rfl, hs6⟩
        rw [HE.out]
        have hc6 := (Since.refl wr).drew.trans hs6
        refine hK.out _ _ (HKC.out _ hc6) (fun hHeld1 => ?_)
        clear hK K hHeld
        try simp only [Act.put, List.setIfInBounds_toArray, List.set_cons_zero, List.set_cons_succ]
        refine take_yes 11 (some 38) (v := ?_) rfl (by kernel_rfl) (by kernel_rfl) (by kernel_rfl) (by kernel_rfl) (fun _ _ _ h => h) (by rfl) (by assumption) ?_ ?_
        rotate_left
        · (intro w' hSw; (try dsimp only at hSw); go_simp; try with_reducible rfl)
        try simp only [Act.put, List.setIfInBounds_toArray, List.set_cons_zero, List.set_cons_succ]
        refine wpAnyH_done (by kernel_rfl) ?_ _
        clear hHeld1 HKC
        have hsf := hs0w.trans hc6
        go_wp2
        go_ret
        exact ⟨ret_bool HF.out.symm, hsf⟩
    · obtain rfl : k = n := by omega
      have HE : Hid (decide (x.gs = z.gs) = true) := by
        have := HT.out
        rw [List.take_of_length_le (by have := HN.out; omega), List.take_of_length_le (by have := HM.out; omega)] at this
        unfold Hid; simpa using this
      go_wp2
      go_ret
      exact ⟨ret_bool HE.out.symm, hs0w⟩
end Go.Proofs.Ytgdeiecbkmhbeaa
