/- The law of EqualExprs, walked. -/
import Derived.Test.YthnppgcmmabolaaTokL
import Derived.Test.YthnppgcmmabolaaEeS
import Derived.Test.YthnppgcmmabolaaK1
namespace Go.Proofs.Ythnppgcmmabolaa
set_option maxRecDepth 100000
open Go.ChangeShapes Go.WideShapes Go.ChangeAt Go.RowKit
set_option linter.unusedVariables false
set_option linter.unusedSimpArgs false

set_option maxHeartbeats 4000000 in
set_option maxRecDepth 100000 in
theorem fnExactEqualExprs_walk (v0 : Value) (v1 : Value) (x : List Tok) (z : List Tok) (w : World) (h0 : ExAt w v0 x) (h1 : ExAt w v1 z) (hl0 : x.length ≤ maxLen) (hl1 : z.length ≤ maxLen) :
    Calls Try.prog 8 #[v0, v1] w fun e w' => e = .returned (.bool true) ∧ Since w w' := by
  have H0 := Lib.hid h0
  have HL0 := Lib.hid hl0
  obtain ⟨s0, rfl, hss0⟩ := h0
  obtain ⟨so0, sc0, rfl⟩ := hss0.len
  obtain ⟨p0, hp0⟩ : ∃ p, p = x.length := ⟨_, rfl⟩
  rw [← hp0] at H0 ⊢
  clear hp0 hl0
  have H1 := Lib.hid h1
  have HL1 := Lib.hid hl1
  obtain ⟨s1, rfl, hss1⟩ := h1
  obtain ⟨so1, sc1, rfl⟩ := hss1.len
  obtain ⟨p1, hp1⟩ : ∃ p, p = z.length := ⟨_, rfl⟩
  rw [← hp1] at H1 ⊢
  clear hp1 hl1
  obtain ⟨y0, hy0⟩ : ∃ y, y = ((w.alloc (.cells #[.slice so0 p0 sc0] 31)).alloc (.cells #[.slice so1 p1 sc1] 31)) := ⟨_, rfl⟩
  have hs0 : Since w y0 := by rw [hy0]; exact ((Since.refl w).alloc _).alloc _
  have hz0 : w.heap.size + 2 = y0.heap.size := by rw [hy0]; simp
  have bx0 : Hid (Blk y0 (w.heap.size) 31 #[.slice so0 p0 sc0]) := by rw [hy0]; exact (Blk.new (by simp) _ _).alloc _
  have bx1 : Hid (Blk y0 (w.heap.size + 1) 31 #[.slice so1 p1 sc1]) := by rw [hy0]; exact Blk.new (by simp) _ _
  obtain ⟨x0, hx0⟩ : ∃ zz, zz = szLeft x.length 1048576 := ⟨_, rfl⟩
  by_cases hz0 : x0 < 0
  · have HX0 := Lib.hid hx0
    clear hx0
    go_enter Try.func8, Try.ntmps8
    go_wp2_with fail
    rw [← hy0]
    clear hy0
    refine (szExpr_any _ x 1048576 x0 _ (H0.out.since hs0) HL0.out (by decide) (by decide) HX0.out.symm).mono ?_
    rintro e wz0 ⟨rfl, hsz0⟩
    have hz00 := hs0.trans hsz0
    have hzz0 := hsz0.size
    have bz0_0 := Lib.hid (bx0.out.since hsz0)
    clear bx0
    have bz0_1 := Lib.hid (bx1.out.since hsz0)
    clear bx1
    clear hs0 hsz0
    go_wp2
    go_ret
    exact ⟨rfl, hz00⟩
  · have lx0 : 0 ≤ x0 ∧ x0 ≤ 1048576 := by rw [hx0]; rw [hx0] at hz0; exact (szX_small (x := x) (left := 1048576) (by decide) hz0).1
    have g10 : x.length ≤ 1048577 := by rw [hx0] at hz0; exact (szX_small (x := x) (left := 1048576) (by decide) hz0).2
    have HX0 := Lib.hid hx0
    clear hx0
    obtain ⟨x1, hx1⟩ : ∃ zz, zz = szLeft z.length x0 := ⟨_, rfl⟩
    by_cases hz1 : x1 < 0
    · have HX1 := Lib.hid hx1
      clear hx1
      go_enter Try.func8, Try.ntmps8
      go_wp2_with fail
      rw [← hy0]
      clear hy0
      refine (szExpr_any _ x 1048576 x0 _ (H0.out.since hs0) HL0.out (by decide) (by decide) HX0.out.symm).mono ?_
      rintro e wz0 ⟨rfl, hsz0⟩
      have hz00 := hs0.trans hsz0
      have hzz0 := hsz0.size
      have bz0_0 := Lib.hid (bx0.out.since hsz0)
      clear bx0
      have bz0_1 := Lib.hid (bx1.out.since hsz0)
      clear bx1
      clear hs0 hsz0
      obtain ⟨p0, _⟩ := bz0_1.out.one
      go_wp2_with fail
      clear p0
      refine (szExpr_any _ z x0 x1 _ (H1.out.since hz00) HL1.out lx0.1 lx0.2 HX1.out.symm).mono ?_
      rintro e wz1 ⟨rfl, hsz1⟩
      have hz01 := hz00.trans hsz1
      have hzz1 := hsz1.size
      have bz1_0 := Lib.hid (bz0_0.out.since hsz1)
      clear bz0_0
      have bz1_1 := Lib.hid (bz0_1.out.since hsz1)
      clear bz0_1
      clear hz00 hsz1
      go_wp2
      go_ret
      exact ⟨rfl, hz01⟩
    · have lx1 : 0 ≤ x1 ∧ x1 ≤ 1048576 := by rw [hx1]; rw [hx1] at hz1; exact (szX_small (x := z) (left := x0) lx0.2 hz1).1
      have g11 : z.length ≤ 1048577 := by rw [hx1] at hz1; exact (szX_small (x := z) (left := x0) lx0.2 hz1).2
      have HX1 := Lib.hid hx1
      clear hx1
      have HS : Hid (∀ V0 V1 W, ExAt W V0 x → ExAt W V1 z → Calls Try.prog 24 #[V0, V1] W (fun e w' => e = .returned (.bool (decide (x = z))) ∧ Since W w')) := fun V0 V1 W k0 k1 => specEE_any V0 V1 x z W k0 k1 (by omega) (by omega)
      have HI : Hid (∀ V0 V1 W, ExAt W V0 x → ExAt W V1 z → Calls Try.prog 25 #[V0, V1] W (fun e w' => e = .returned (.bool (decide (x = z))) ∧ Since W w')) := fun V0 V1 W k0 k1 => implEE_any V0 V1 x z W k0 k1 (by omega) (by omega)
      generalize decide (x = z) = R at HS HI
      have hv : (R != R) = false := by simp
      have dgg0 : decide (x = x) = true := by simp
      have g40 : x.length ≤ 1152921504606846976 := by omega
      have g60 : x.length ≤ 288230376151711744 := by omega
      have dgg1 : decide (z = z) = true := by simp
      have g41 : z.length ≤ 1152921504606846976 := by omega
      have g61 : z.length ≤ 288230376151711744 := by omega
      go_enter Try.func8, Try.ntmps8
      go_wp2_with fail
      rw [← hy0]
      clear hy0
      refine (szExpr_any _ x 1048576 x0 _ (H0.out.since hs0) HL0.out (by decide) (by decide) HX0.out.symm).mono ?_
      rintro e wz0 ⟨rfl, hsz0⟩
      have hz00 := hs0.trans hsz0
      have hzz0 := hsz0.size
      have bz0_0 := Lib.hid (bx0.out.since hsz0)
      clear bx0
      have bz0_1 := Lib.hid (bx1.out.since hsz0)
      clear bx1
      clear hs0 hsz0
      obtain ⟨p0, _⟩ := bz0_1.out.one
      go_wp2_with fail
      clear p0
      refine (szExpr_any _ z x0 x1 _ (H1.out.since hz00) HL1.out lx0.1 lx0.2 HX1.out.symm).mono ?_
      rintro e wz1 ⟨rfl, hsz1⟩
      have hz01 := hz00.trans hsz1
      have hzz1 := hsz1.size
      have bz1_0 := Lib.hid (bz0_0.out.since hsz1)
      clear bz0_0
      have bz1_1 := Lib.hid (bz0_1.out.since hsz1)
      clear bz0_1
      clear hz00 hsz1
      go_wp2_with fail
      have HKC : Hid (∀ w', Since wz1 w' → w'.cell? ⟨w.heap.size, 0, none⟩ = some (.slice so0 p0 sc0) ∧ w'.cell? ⟨w.heap.size + 1, 0, none⟩ = some (.slice so1 p1 sc1)) := by
        intro w' hs
        obtain ⟨r00, _⟩ := (bz1_0.out.since hs).one
        obtain ⟨r10, _⟩ := (bz1_1.out.since hs).one
        exact ⟨r00, r10⟩
      refine wp_region_held_drew (S := (fun w' => w'.cell? ⟨w.heap.size, 0, none⟩ = some (.slice so0 p0 sc0) ∧ w'.cell? ⟨w.heap.size + 1, 0, none⟩ = some (.slice so1 p1 sc1))) (by kernel_rfl) (HKC.out _ (Since.refl _).drew) (fun hHeld => ?_)
      refine take_yes 0 (some 20) (v := ?_) rfl (by kernel_rfl) (by kernel_rfl) (by kernel_rfl) (by kernel_rfl) (fun _ _ _ h => h) (by rfl) (by assumption) ?_ ?_
      rotate_left
      · (intro w' hSw; (try dsimp only at hSw); go_simp; try with_reducible rfl)
      try simp only [Act.put, List.setIfInBounds_toArray, List.set_cons_zero, List.set_cons_succ]
      refine take_yes 2 (some 22) (v := ?_) rfl (by kernel_rfl) (by kernel_rfl) (by kernel_rfl) (by kernel_rfl) (fun _ _ _ h => h) (by rfl) (by assumption) ?_ ?_
      rotate_left
      · (intro w' hSw; (try dsimp only at hSw); go_simp; try with_reducible rfl)
      try simp only [Act.put, List.setIfInBounds_toArray, List.set_cons_zero, List.set_cons_succ]
      refine take_run 1 rfl (by kernel_rfl) (by rfl) (fun K hK => ?_)
      go_simp
      refine (toExpr_any _ x _ (H0.out.since hz01.drew) g10).mono ?_
      rintro e w1 ⟨va0, rfl, hoa0, hq2⟩
      have hc3 := Since.of_drew hq2
      refine hK.out _ _ (HKC.out _ hc3) (fun hHeld4 => ?_)
      clear hK K hHeld
      try simp only [Act.put, List.setIfInBounds_toArray, List.set_cons_zero, List.set_cons_succ]
      refine take_run 3 rfl (by kernel_rfl) (by rfl) (fun K hK => ?_)
      go_simp
      refine (toExpr_any _ z _ (H1.out.since (hz01.trans hc3)) g11).mono ?_
      rintro e w5 ⟨va1, rfl, hoa1, hq6⟩
      have hc7 := hc3.trans hq6
      replace hoa0 := hoa0.since hq6
      refine hK.out _ _ (HKC.out _ hc7) (fun hHeld8 => ?_)
      clear hK K hHeld4
      try simp only [Act.put, List.setIfInBounds_toArray, List.set_cons_zero, List.set_cons_succ]
      refine take_run 4 rfl (by kernel_rfl) (by rfl) (fun K hK => ?_)
      go_simp
      refine (HS.out _ _ _ hoa0.at hoa1.at).mono ?_
      rintro e w9 ⟨rfl, hq10⟩
      have hc11 := hc7.trans hq10
      refine hK.out _ _ (HKC.out _ hc11) (fun hHeld12 => ?_)
      clear hK K hHeld8
      try simp only [Act.put, List.setIfInBounds_toArray, List.set_cons_zero, List.set_cons_succ]
      refine take_yes 5 (some 6) (v := ?_) rfl (by kernel_rfl) (by kernel_rfl) (by kernel_rfl) (by kernel_rfl) (fun _ _ _ h => h) (by rfl) (by assumption) ?_ ?_
      rotate_left
      · (intro w' hSw; (try dsimp only at hSw); go_simp; try with_reducible rfl)
      try simp only [Act.put, List.setIfInBounds_toArray, List.set_cons_zero, List.set_cons_succ]
      refine wpAnyH_done (by kernel_rfl) ?_ _
      clear hHeld12 HKC hoa0 hoa1
      have zzw9 := hc7.size
      have F13 := Lib.hid (bz1_0.out.since hc11)
      clear bz1_0
      have F14 := Lib.hid (bz1_1.out.since hc11)
      clear bz1_1
      have hs15 := hz01.trans hc11
      have zhs15 := hc11.size
      obtain ⟨p0, _⟩ := F13.out.one
      go_wp2_with fail
      clear p0
      refine (toExpr_any _ x _ (H0.out.since hs15) g10).mono ?_
      rintro e w16 ⟨vx0, rfl, hox0, hq17⟩
      have XO0 := Lib.hid hox0
      obtain ⟨xa0, rfl, ka, _⟩ := hox0
      obtain ⟨xso0, xsc0, rfl⟩ := ka.len
      clear ka
      obtain ⟨y18, hy18⟩ : ∃ y, y = w16.alloc (.cells #[.slice xso0 x.length xsc0] 24) := ⟨_, rfl⟩
      have ha19 : Since w16 y18 := by rw [hy18]; exact (Since.refl w16).alloc _
      have zy0 : w16.heap.size + 1 = y18.heap.size := by rw [hy18]; simp
      have XB0 : Hid (Blk y18 w16.heap.size 24 #[.slice xso0 x.length xsc0]) := by rw [hy18]; exact Blk.new rfl _ _
      have XP0 := Lib.hid (XO0.out.since ha19)
      clear XO0
      have hc20 := hq17.trans ha19
      have zq0 := hq17.size
      have F21 := Lib.hid (F13.out.since hc20)
      clear F13
      have F22 := Lib.hid (F14.out.since hc20)
      clear F14
      have hs23 := hs15.trans hc20
      have zhs23 := hc20.size
      obtain ⟨p0, _⟩ := F22.out.one
      rw [hy18] at p0
      go_wp2_with fail
      clear p0
      rw [← hy18]
      clear hy18
      refine (toExpr_any _ z _ (H1.out.since hs23) g11).mono ?_
      rintro e w24 ⟨vx1, rfl, hox1, hq25⟩
      have XO1 := Lib.hid hox1
      obtain ⟨xa1, rfl, ka, _⟩ := hox1
      obtain ⟨xso1, xsc1, rfl⟩ := ka.len
      clear ka
      obtain ⟨y26, hy26⟩ : ∃ y, y = w24.alloc (.cells #[.slice xso1 z.length xsc1] 24) := ⟨_, rfl⟩
      have ha27 : Since w24 y26 := by rw [hy26]; exact (Since.refl w24).alloc _
      have zy1 : w24.heap.size + 1 = y26.heap.size := by rw [hy26]; simp
      have XB1 : Hid (Blk y26 w24.heap.size 24 #[.slice xso1 z.length xsc1]) := by rw [hy26]; exact Blk.new rfl _ _
      have XP1 := Lib.hid (XO1.out.since ha27)
      clear XO1
      have hc28 := hq25.trans ha27
      have zq1 := hq25.size
      have F29 := Lib.hid (F21.out.since hc28)
      clear F21
      have F30 := Lib.hid (F22.out.since hc28)
      clear F22
      have F31 := Lib.hid (XP0.out.since hc28)
      clear XP0
      have F32 := Lib.hid (XB0.out.since hc28)
      clear XB0
      have hs33 := hs23.trans hc28
      have zhs33 := hc28.size
      obtain ⟨q00, _⟩ := F32.out.one
      obtain ⟨q10, _⟩ := XB1.out.one
      rw [hy26] at q00 q10
      go_wp2_with fail
      rw [← hy26]
      clear hy26 q00 q10
      refine (HI.out _ _ _ F31.out.at XP1.out.at).mono ?_
      rintro e w34 ⟨rfl, hq35⟩
      have F36 := Lib.hid (F29.out.since hq35)
      clear F29
      have F37 := Lib.hid (F30.out.since hq35)
      clear F30
      have F38 := Lib.hid (F31.out.since hq35)
      clear F31
      have F39 := Lib.hid (F32.out.since hq35)
      clear F32
      have F40 := Lib.hid (XP1.out.since hq35)
      clear XP1
      have F41 := Lib.hid (XB1.out.since hq35)
      clear XB1
      have hs42 := hs33.trans hq35
      have zhs42 := hq35.size
      go_wp2_with fail
      have HKC : Hid (∀ w', Since w34 w' → w'.cell? ⟨w.heap.size, 0, none⟩ = some (.slice so0 p0 sc0) ∧ w'.cell? ⟨w.heap.size + 1, 0, none⟩ = some (.slice so1 p1 sc1) ∧ w'.cell? ⟨w16.heap.size, 0, none⟩ = some (.slice xso0 x.length xsc0) ∧ w'.cell? ⟨w24.heap.size, 0, none⟩ = some (.slice xso1 z.length xsc1)) := by
        intro w' hs
        obtain ⟨r00, _⟩ := (F36.out.since hs).one
        obtain ⟨r10, _⟩ := (F37.out.since hs).one
        obtain ⟨r20, _⟩ := (F39.out.since hs).one
        obtain ⟨r30, _⟩ := (F41.out.since hs).one
        exact ⟨r00, r10, r20, r30⟩
      refine wp_region_held_drew (S := (fun w' => w'.cell? ⟨w.heap.size, 0, none⟩ = some (.slice so0 p0 sc0) ∧ w'.cell? ⟨w.heap.size + 1, 0, none⟩ = some (.slice so1 p1 sc1) ∧ w'.cell? ⟨w16.heap.size, 0, none⟩ = some (.slice xso0 x.length xsc0) ∧ w'.cell? ⟨w24.heap.size, 0, none⟩ = some (.slice xso1 z.length xsc1))) (by kernel_rfl) (HKC.out _ (Since.refl _).drew) (fun hHeld => ?_)
      refine take_yes 0 (some 35) (v := ?_) rfl (by kernel_rfl) (by kernel_rfl) (by kernel_rfl) (by kernel_rfl) (fun _ _ _ h => h) (by rfl) (by assumption) ?_ ?_
      rotate_left
      · (intro w' hSw; (try dsimp only at hSw); go_simp; try with_reducible rfl)
      try simp only [Act.put, List.setIfInBounds_toArray, List.set_cons_zero, List.set_cons_succ]
      refine take_yes 1 (some 36) (v := ?_) rfl (by kernel_rfl) (by kernel_rfl) (by kernel_rfl) (by kernel_rfl) (fun _ _ _ h => h) (by rfl) (by assumption) ?_ ?_
      rotate_left
      · (intro w' hSw; (try dsimp only at hSw); go_simp; try with_reducible rfl)
      try simp only [Act.put, List.setIfInBounds_toArray, List.set_cons_zero, List.set_cons_succ]
      refine take_run 2 rfl (by kernel_rfl) (by rfl) (fun K hK => ?_)
      go_simp
      refine (toExpr_any _ x _ (H0.out.since hs42.drew) g10).mono ?_
      rintro e w43 ⟨va, rfl, hoa, hq44⟩
      have hc45 := Since.of_drew hq44
      refine hK.out _ _ (HKC.out _ hc45) (fun hHeld2 => ?_)
      clear hK K hHeld
      try simp only [Act.put, List.setIfInBounds_toArray, List.set_cons_zero, List.set_cons_succ]
      refine take_run 3 rfl (by kernel_rfl) (by rfl) (fun K hK => ?_)
      go_simp
      refine (eqExpr_any _ _ x x _ (F38.out.at.since hc45) hoa.at g40 g40).mono ?_
      rintro e w46 ⟨rfl, hq47⟩
      have hc48 := hc45.trans hq47
      refine hK.out _ _ (HKC.out _ hc48) (fun hHeld3 => ?_)
      clear hK K hHeld2
      try simp only [Act.put, List.setIfInBounds_toArray, List.set_cons_zero, List.set_cons_succ]
      refine take_yes 4 (some 39) (v := ?_) rfl (by kernel_rfl) (by kernel_rfl) (by kernel_rfl) (by kernel_rfl) (fun _ _ _ h => h) (by rfl) (by assumption) ?_ ?_
      rotate_left
      · (intro w' hSw; (try dsimp only at hSw); go_simp; try with_reducible rfl)
      try simp only [Act.put, List.setIfInBounds_toArray, List.set_cons_zero, List.set_cons_succ]
      refine wpAnyH_done (by kernel_rfl) ?_ _
      clear hHeld3 HKC hoa
      have F49 := Lib.hid (F36.out.since hc48)
      clear F36
      have F50 := Lib.hid (F37.out.since hc48)
      clear F37
      have F51 := Lib.hid (F38.out.since hc48)
      clear F38
      have F52 := Lib.hid (F39.out.since hc48)
      clear F39
      have F53 := Lib.hid (F40.out.since hc48)
      clear F40
      have F54 := Lib.hid (F41.out.since hc48)
      clear F41
      have hs55 := hs42.trans hc48
      have zhs55 := hc48.size
      go_wp2_with fail
      have HKC : Hid (∀ w', Since w46 w' → w'.cell? ⟨w.heap.size, 0, none⟩ = some (.slice so0 p0 sc0) ∧ w'.cell? ⟨w.heap.size + 1, 0, none⟩ = some (.slice so1 p1 sc1) ∧ w'.cell? ⟨w16.heap.size, 0, none⟩ = some (.slice xso0 x.length xsc0) ∧ w'.cell? ⟨w24.heap.size, 0, none⟩ = some (.slice xso1 z.length xsc1)) := by
        intro w' hs
        obtain ⟨r00, _⟩ := (F49.out.since hs).one
        obtain ⟨r10, _⟩ := (F50.out.since hs).one
        obtain ⟨r20, _⟩ := (F52.out.since hs).one
        obtain ⟨r30, _⟩ := (F54.out.since hs).one
        exact ⟨r00, r10, r20, r30⟩
      refine wp_region_held_drew (S := (fun w' => w'.cell? ⟨w.heap.size, 0, none⟩ = some (.slice so0 p0 sc0) ∧ w'.cell? ⟨w.heap.size + 1, 0, none⟩ = some (.slice so1 p1 sc1) ∧ w'.cell? ⟨w16.heap.size, 0, none⟩ = some (.slice xso0 x.length xsc0) ∧ w'.cell? ⟨w24.heap.size, 0, none⟩ = some (.slice xso1 z.length xsc1))) (by kernel_rfl) (HKC.out _ (Since.refl _).drew) (fun hHeld => ?_)
      refine take_yes 0 (some 40) (v := ?_) rfl (by kernel_rfl) (by kernel_rfl) (by kernel_rfl) (by kernel_rfl) (fun _ _ _ h => h) (by rfl) (by assumption) ?_ ?_
      rotate_left
      · (intro w' hSw; (try dsimp only at hSw); go_simp; try with_reducible rfl)
      try simp only [Act.put, List.setIfInBounds_toArray, List.set_cons_zero, List.set_cons_succ]
      refine take_yes 1 (some 41) (v := ?_) rfl (by kernel_rfl) (by kernel_rfl) (by kernel_rfl) (by kernel_rfl) (fun _ _ _ h => h) (by rfl) (by assumption) ?_ ?_
      rotate_left
      · (intro w' hSw; (try dsimp only at hSw); go_simp; try with_reducible rfl)
      try simp only [Act.put, List.setIfInBounds_toArray, List.set_cons_zero, List.set_cons_succ]
      refine take_run 2 rfl (by kernel_rfl) (by rfl) (fun K hK => ?_)
      go_simp
      refine (toExpr_any _ z _ (H1.out.since hs55.drew) g11).mono ?_
      rintro e w56 ⟨va, rfl, hoa, hq57⟩
      have hc58 := Since.of_drew hq57
      refine hK.out _ _ (HKC.out _ hc58) (fun hHeld2 => ?_)
      clear hK K hHeld
      try simp only [Act.put, List.setIfInBounds_toArray, List.set_cons_zero, List.set_cons_succ]
      refine take_run 3 rfl (by kernel_rfl) (by rfl) (fun K hK => ?_)
      go_simp
      refine (eqExpr_any _ _ z z _ (F53.out.at.since hc58) hoa.at g41 g41).mono ?_
      rintro e w59 ⟨rfl, hq60⟩
      have hc61 := hc58.trans hq60
      refine hK.out _ _ (HKC.out _ hc61) (fun hHeld3 => ?_)
      clear hK K hHeld2
      try simp only [Act.put, List.setIfInBounds_toArray, List.set_cons_zero, List.set_cons_succ]
      refine take_yes 4 (some 44) (v := ?_) rfl (by kernel_rfl) (by kernel_rfl) (by kernel_rfl) (by kernel_rfl) (fun _ _ _ h => h) (by rfl) (by assumption) ?_ ?_
      rotate_left
      · (intro w' hSw; (try dsimp only at hSw); go_simp; try with_reducible rfl)
      try simp only [Act.put, List.setIfInBounds_toArray, List.set_cons_zero, List.set_cons_succ]
      refine wpAnyH_done (by kernel_rfl) ?_ _
      clear hHeld3 HKC hoa
      have F62 := Lib.hid (F49.out.since hc61)
      clear F49
      have F63 := Lib.hid (F50.out.since hc61)
      clear F50
      have F64 := Lib.hid (F51.out.since hc61)
      clear F51
      have F65 := Lib.hid (F52.out.since hc61)
      clear F52
      have F66 := Lib.hid (F53.out.since hc61)
      clear F53
      have F67 := Lib.hid (F54.out.since hc61)
      clear F54
      have hs68 := hs55.trans hc61
      have zhs68 := hc61.size
      go_wp2
      go_ret
      exact ⟨rfl, hs68⟩
end Go.Proofs.Ythnppgcmmabolaa
