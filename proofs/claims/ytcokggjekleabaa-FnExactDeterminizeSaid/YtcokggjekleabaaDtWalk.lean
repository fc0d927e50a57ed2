/- The law of Determinize, walked. -/
import Derived.Test.YtcokggjekleabaaA1
import Derived.Test.YtcokggjekleabaaDtT
import Derived.Test.YtcokggjekleabaaDtZ
import Derived.Test.YtcokggjekleabaaPsZ
import Derived.Test.YtcokggjekleabaaOpenI
import Derived.Test.YtcokggjekleabaaK1
namespace Go.Proofs.Ytcokggjekleabaa
set_option maxRecDepth 100000
open Go.ChangeShapes Go.WideShapes Go.ChangeAt Go.RowKit
set_option linter.unusedVariables false
set_option linter.unusedSimpArgs false

set_option maxHeartbeats 4000000 in
set_option maxRecDepth 100000 in
theorem fnExactDeterminize_walk (v0 : Value) (x : Psn) (w : World) (h0 : PsAt w v0 x) (hl0 : x.ls.length ≤ maxLen ∧ x.fo.length ≤ maxLen) :
    Calls Try.prog 6 #[v0] w fun e w' => e = .returned (.bool true) ∧ Since w w' := by
  have H0 := Lib.hid h0
  have HL0 := Lib.hid hl0
  obtain ⟨a0, b0, rfl, ha0, hb0, _⟩ := h0
  obtain ⟨ao0, ac0, rfl, _⟩ := ha0.row
  obtain ⟨bo0, bc0, rfl, _⟩ := hb0.row
  clear ha0 hb0
  obtain ⟨n0, hn0⟩ : ∃ n, n = x.ls.length := ⟨_, rfl⟩
  obtain ⟨m0, hm0⟩ : ∃ m, m = x.fo.length := ⟨_, rfl⟩
  rw [← hn0, ← hm0] at H0 ⊢
  clear hn0 hm0 hl0
  obtain ⟨y0, hy0⟩ : ∃ y, y = (w.alloc (.cells #[.slice ao0 n0 ac0, .int .i64 x.fi, .int .i64 x.la, .slice bo0 m0 bc0, .bool x.nu] 38)) := ⟨_, rfl⟩
  have hs0 : Since w y0 := by rw [hy0]; exact (Since.refl w).alloc _
  have hz0 : w.heap.size + 1 = y0.heap.size := by rw [hy0]; simp
  have bx0 : Hid (Blk y0 (w.heap.size) 38 #[.slice ao0 n0 ac0, .int .i64 x.fi, .int .i64 x.la, .slice bo0 m0 bc0, .bool x.nu]) := by rw [hy0]; exact Blk.new (by simp) _ _
  obtain ⟨x0, hx0⟩ : ∃ zz, zz = szP x 1048576 := ⟨_, rfl⟩
  by_cases hz0 : x0 < 0
  · have HX0 := Lib.hid hx0
    clear hx0
    go_enter Try.func6, Try.ntmps6
    go_wp2_with fail
    rw [← hy0]
    clear hy0
    refine (szPos_is _ x 1048576 x0 _ (H0.out.since hs0) HL0.out (by decide) (by decide) HX0.out.symm).mono ?_
    rintro e wz0 ⟨rfl, hsz0⟩
    have hz00 := hs0.trans hsz0
    have hzz0 := hsz0.size
    have bz0_0 := Lib.hid (bx0.out.since hsz0)
    clear bx0
    clear hs0 hsz0
    go_wp2
    go_ret
    exact ⟨rfl, hz00⟩
  · have lx0 : 0 ≤ x0 ∧ x0 ≤ 1048576 := by rw [hx0]; rw [hx0] at hz0; exact (szP_smallB (p := x) (left := 1048576) (by decide) hz0).1
    obtain ⟨g10, g20⟩ : x.ls.length ≤ 1048577 ∧ x.fo.length ≤ 1048577 := by rw [hx0] at hz0; exact (szP_smallB (p := x) (left := 1048576) (by decide) hz0).2
    have HX0 := Lib.hid hx0
    clear hx0
    have HS : Hid (∀ V0 W, PsAt W V0 x → Calls Try.prog 33 #[V0] W ((ABOut W (detA x) (detC x)))) := fun V0 W k0 => specDT_any V0 x W k0 (by unfold maxLen; omega) (by unfold maxLen; omega)
    have HI : Hid (∀ V0 W, PsAt W V0 x → Calls Try.prog 34 #[V0] W ((ABOut W (detA x) (detC x)))) := fun V0 W k0 => implDT_any V0 x W k0 (by unfold maxLen; omega) (by unfold maxLen; omega)
    have q0 : BgA (detA x) := detA_bg x
    generalize detA x = R at HS HI q0
    generalize detC x = C at HS HI
    have eCC : (C != C) = false := by simp
    have qe0 := q0
    have qm0 := q0
    have dRR : decide (R = R) = true := by simp
    obtain ⟨kr, hkr⟩ : ∃ kr : Int, kr = 1 + szAu R := ⟨_, rfl⟩
    have dkr : decide (kr < 0) = false := by have := szAu_bg q0; simp; omega
    have ekr : (kr != kr) = false := by simp
    have HKR := Lib.hid hkr
    clear hkr
    obtain ⟨kx0, hkx0⟩ : ∃ kx : Int, kx = 1 + szOfP x := ⟨_, rfl⟩
    have bk0 : 0 ≤ kx0 ∧ kx0 ≤ 10000000 := by unfold szOfP at hkx0; omega
    have dkx : decide (kx0 < 0) = false := by simp; omega
    have HKX0 := Lib.hid hkx0
    clear hkx0
    have dgg0 : decide (x = x) = true := by simp
    have g40 : x.ls.length ≤ 1152921504606846976 := by omega
    have g50 : x.fo.length ≤ 1152921504606846976 := by omega
    have g60 : x.ls.length ≤ 1152921504 := by omega
    have g70 : x.fo.length ≤ 1152921504 := by omega
    go_enter Try.func6, Try.ntmps6
    go_wp2_with fail
    rw [← hy0]
    clear hy0
    refine (szPos_is _ x 1048576 x0 _ (H0.out.since hs0) HL0.out (by decide) (by decide) HX0.out.symm).mono ?_
    rintro e wz0 ⟨rfl, hsz0⟩
    have hz00 := hs0.trans hsz0
    have hzz0 := hsz0.size
    have bz0_0 := Lib.hid (bx0.out.since hsz0)
    clear bx0
    clear hs0 hsz0
    obtain ⟨⟨p0, p1, p2, p3, p4⟩, _, _, _, _, _⟩ := bz0_0.out.fiveP
    go_wp2_with fail
    clear p0 p1 p2 p3 p4
    refine (toPosZ_any _ x _ (H0.out.since hz00) g10 g20).mono ?_
    rintro e w1 ⟨va, rfl, hoa, hq2⟩
    have F3 := Lib.hid (bz0_0.out.since hq2)
    clear bz0_0
    have hs4 := hz00.trans hq2
    have zhs4 := hq2.size
    go_wp2_with fail
    refine (HS.out _ _ hoa.at).mono ?_
    rintro e w5 ⟨vs3, rfl, ho3, hq6⟩
    clear hoa
    have SR := Lib.hid ho3
    obtain ⟨ws, wu, rfl, _, wk, _, wl⟩ := ho3
    obtain ⟨wso, wsc, rfl⟩ := wk.len
    obtain ⟨wuo, wuc, rfl⟩ := wl.len
    clear wk wl
    have F7 := Lib.hid (F3.out.since hq6)
    clear F3
    have hs8 := hs4.trans hq6
    have zhs8 := hq6.size
    obtain ⟨y9, hy9⟩ : ∃ y, y = w5.alloc (.cells #[.int .i64 R.st, .slice wso R.ac.length wsc, .slice wuo R.nx.length wuc] 27) := ⟨_, rfl⟩
    have ha10 : Since w5 y9 := by rw [hy9]; exact (Since.refl w5).alloc _
    have zby9 : w5.heap.size + 1 = y9.heap.size := by rw [hy9]; simp
    have SB11 : Hid (Blk y9 w5.heap.size 27 #[.int .i64 R.st, .slice wso R.ac.length wsc, .slice wuo R.nx.length wuc]) := by rw [hy9]; exact Blk.new rfl _ _
    have F12 := Lib.hid (F7.out.since ha10)
    clear F7
    have F13 := Lib.hid (SR.out.since ha10)
    clear SR
    have hs14 := hs8.trans ha10
    have zhs14 := ha10.size
    obtain ⟨⟨p0, p1, p2, p3, p4⟩, _, _, _, _, _⟩ := F12.out.fiveP
    rw [hy9] at p0 p1 p2 p3 p4
    go_wp2_with fail
    rw [← hy9]
    clear hy9 p0 p1 p2 p3 p4
    refine (toPosZ_any _ x _ (H0.out.since hs14) g10 g20).mono ?_
    rintro e w15 ⟨vx0, rfl, hox0, hq16⟩
    have XO0 := Lib.hid hox0
    obtain ⟨xa0, xb0, rfl, ka, _, kb, _⟩ := hox0
    obtain ⟨xao0, xac0, rfl⟩ := ka.len
    obtain ⟨xbo0, xbc0, rfl⟩ := kb.len
    clear ka kb
    obtain ⟨y17, hy17⟩ : ∃ y, y = w15.alloc (.cells #[.slice xao0 x.ls.length xac0, .int .i64 x.fi, .int .i64 x.la, .slice xbo0 x.fo.length xbc0, .bool x.nu] 41) := ⟨_, rfl⟩
    have ha18 : Since w15 y17 := by rw [hy17]; exact (Since.refl w15).alloc _
    have zy0 : w15.heap.size + 1 = y17.heap.size := by rw [hy17]; simp
    have XB0 : Hid (Blk y17 w15.heap.size 41 #[.slice xao0 x.ls.length xac0, .int .i64 x.fi, .int .i64 x.la, .slice xbo0 x.fo.length xbc0, .bool x.nu]) := by rw [hy17]; exact Blk.new rfl _ _
    have XP0 := Lib.hid (XO0.out.since ha18)
    clear XO0
    have hc19 := hq16.trans ha18
    have zq0 := hq16.size
    have F20 := Lib.hid (F12.out.since hc19)
    clear F12
    have F21 := Lib.hid (F13.out.since hc19)
    clear F13
    have F22 := Lib.hid (SB11.out.since hc19)
    clear SB11
    have hs23 := hs14.trans hc19
    have zhs23 := hc19.size
    obtain ⟨⟨q00, q01, q02, q03, q04⟩, _, _, _, _, _⟩ := XB0.out.fiveP
    rw [hy17] at q00 q01 q02 q03 q04
    go_wp2_with fail
    rw [← hy17]
    clear hy17 q00 q01 q02 q03 q04
    refine (HI.out _ _ XP0.out.at).mono ?_
    rintro e w24 ⟨vg5, rfl, ho5, hq25⟩
    have GO := Lib.hid ho5
    obtain ⟨gs, gu, rfl, _, gk, _, gl⟩ := ho5
    obtain ⟨gso, gsc, rfl⟩ := gk.len
    obtain ⟨guo, guc, rfl⟩ := gl.len
    clear gk gl
    have F26 := Lib.hid (F20.out.since hq25)
    clear F20
    have F27 := Lib.hid (F21.out.since hq25)
    clear F21
    have F28 := Lib.hid (F22.out.since hq25)
    clear F22
    have F29 := Lib.hid (XP0.out.since hq25)
    clear XP0
    have F30 := Lib.hid (XB0.out.since hq25)
    clear XB0
    have hs31 := hs23.trans hq25
    have zhs31 := hq25.size
    obtain ⟨y32, hy32⟩ : ∃ y, y = w24.alloc (.cells #[.int .i64 R.st, .slice gso R.ac.length gsc, .slice guo R.nx.length guc] 27) := ⟨_, rfl⟩
    have ha33 : Since w24 y32 := by rw [hy32]; exact (Since.refl w24).alloc _
    have zby32 : w24.heap.size + 1 = y32.heap.size := by rw [hy32]; simp
    have SB34 : Hid (Blk y32 w24.heap.size 27 #[.int .i64 R.st, .slice gso R.ac.length gsc, .slice guo R.nx.length guc]) := by rw [hy32]; exact Blk.new rfl _ _
    have F35 := Lib.hid (F26.out.since ha33)
    clear F26
    have F36 := Lib.hid (F27.out.since ha33)
    clear F27
    have F37 := Lib.hid (F28.out.since ha33)
    clear F28
    have F38 := Lib.hid (F29.out.since ha33)
    clear F29
    have F39 := Lib.hid (F30.out.since ha33)
    clear F30
    have F40 := Lib.hid (GO.out.since ha33)
    clear GO
    have hs41 := hs31.trans ha33
    have zhs41 := ha33.size
    obtain ⟨⟨p0, p1, p2⟩, _, _, _⟩ := F37.out.threeA
    obtain ⟨⟨r0, r1, r2⟩, _, _, _⟩ := SB34.out.threeA
    rw [hy32] at p0 p1 p2 r0 r1 r2
    go_wp2_with fail
    rw [← hy32]
    clear hy32 p0 p1 p2 r0 r1 r2
    refine (eqAutomaton_any _ _ R R _ F40.out.at F36.out.at qe0 qe0).mono ?_
    rintro e w42 ⟨rfl, hq43⟩
    have F44 := Lib.hid (F35.out.since hq43)
    clear F35
    have F45 := Lib.hid (F36.out.since hq43)
    clear F36
    have F46 := Lib.hid (F37.out.since hq43)
    clear F37
    have F47 := Lib.hid (F38.out.since hq43)
    clear F38
    have F48 := Lib.hid (F39.out.since hq43)
    clear F39
    have F49 := Lib.hid (F40.out.since hq43)
    clear F40
    have F50 := Lib.hid (SB34.out.since hq43)
    clear SB34
    have hs51 := hs41.trans hq43
    have zhs51 := hq43.size
    go_wp2_with fail
    have HKC : Hid (∀ w', Since w42 w' → w'.cell? ⟨w.heap.size, 0, none⟩ = some (.slice ao0 n0 ac0) ∧ w'.cell? ⟨w.heap.size, 1, none⟩ = some (.int .i64 x.fi) ∧ w'.cell? ⟨w.heap.size, 2, none⟩ = some (.int .i64 x.la) ∧ w'.cell? ⟨w.heap.size, 3, none⟩ = some (.slice bo0 m0 bc0) ∧ w'.cell? ⟨w.heap.size, 4, none⟩ = some (.bool x.nu) ∧ w'.cell? ⟨w15.heap.size, 0, none⟩ = some (.slice xao0 x.ls.length xac0) ∧ w'.cell? ⟨w15.heap.size, 1, none⟩ = some (.int .i64 x.fi) ∧ w'.cell? ⟨w15.heap.size, 2, none⟩ = some (.int .i64 x.la) ∧ w'.cell? ⟨w15.heap.size, 3, none⟩ = some (.slice xbo0 x.fo.length xbc0) ∧ w'.cell? ⟨w15.heap.size, 4, none⟩ = some (.bool x.nu)) := by
      intro w' hs
      obtain ⟨⟨r00, r01, r02, r03, r04⟩, _, _, _, _, _⟩ := (F44.out.since hs).fiveP
      obtain ⟨⟨r10, r11, r12, r13, r14⟩, _, _, _, _, _⟩ := (F48.out.since hs).fiveP
      exact ⟨r00, r01, r02, r03, r04, r10, r11, r12, r13, r14⟩
    refine wp_region_held_drew (S := (fun w' => w'.cell? ⟨w.heap.size, 0, none⟩ = some (.slice ao0 n0 ac0) ∧ w'.cell? ⟨w.heap.size, 1, none⟩ = some (.int .i64 x.fi) ∧ w'.cell? ⟨w.heap.size, 2, none⟩ = some (.int .i64 x.la) ∧ w'.cell? ⟨w.heap.size, 3, none⟩ = some (.slice bo0 m0 bc0) ∧ w'.cell? ⟨w.heap.size, 4, none⟩ = some (.bool x.nu) ∧ w'.cell? ⟨w15.heap.size, 0, none⟩ = some (.slice xao0 x.ls.length xac0) ∧ w'.cell? ⟨w15.heap.size, 1, none⟩ = some (.int .i64 x.fi) ∧ w'.cell? ⟨w15.heap.size, 2, none⟩ = some (.int .i64 x.la) ∧ w'.cell? ⟨w15.heap.size, 3, none⟩ = some (.slice xbo0 x.fo.length xbc0) ∧ w'.cell? ⟨w15.heap.size, 4, none⟩ = some (.bool x.nu))) (by kernel_rfl) (HKC.out _ (Since.refl _).drew) (fun hHeld => ?_)
    refine take_yes 0 (some 41) (v := ?_) rfl (by kernel_rfl) (by kernel_rfl) (by kernel_rfl) (by kernel_rfl) (fun _ _ _ h => h) (by rfl) (by assumption) ?_ ?_
    rotate_left
    · (intro w' hSw; (try dsimp only at hSw); go_simp; try with_reducible rfl)
    try simp only [Act.put, List.setIfInBounds_toArray, List.set_cons_zero, List.set_cons_succ]
    refine take_yes 1 (some 42) (v := ?_) rfl (by kernel_rfl) (by kernel_rfl) (by kernel_rfl) (by kernel_rfl) (fun _ _ _ h => h) (by rfl) (by assumption) ?_ ?_
    rotate_left
    · (intro w' hSw; (try dsimp only at hSw); go_simp; try with_reducible rfl)
    try simp only [Act.put, List.setIfInBounds_toArray, List.set_cons_zero, List.set_cons_succ]
    refine take_run 2 rfl (by kernel_rfl) (by rfl) (fun K hK => ?_)
    go_simp
    refine (toPosZ_any _ x _ (H0.out.since hs51.drew) g10 g20).mono ?_
    rintro e w52 ⟨va, rfl, hoa, hq53⟩
    have hc54 := Since.of_drew hq53
    refine hK.out _ _ (HKC.out _ hc54) (fun hHeld2 => ?_)
    clear hK K hHeld
    try simp only [Act.put, List.setIfInBounds_toArray, List.set_cons_zero, List.set_cons_succ]
    refine take_run 3 rfl (by kernel_rfl) (by rfl) (fun K hK => ?_)
    go_simp
    refine (eqPositions_any _ _ x x _ (F47.out.at.since hc54) hoa.at g40 g50 g40 g50).mono ?_
    rintro e w55 ⟨rfl, hq56⟩
    have hc57 := hc54.trans hq56
    refine hK.out _ _ (HKC.out _ hc57) (fun hHeld3 => ?_)
    clear hK K hHeld2
    try simp only [Act.put, List.setIfInBounds_toArray, List.set_cons_zero, List.set_cons_succ]
    refine take_yes 4 (some 45) (v := ?_) rfl (by kernel_rfl) (by kernel_rfl) (by kernel_rfl) (by kernel_rfl) (fun _ _ _ h => h) (by rfl) (by assumption) ?_ ?_
    rotate_left
    · (intro w' hSw; (try dsimp only at hSw); go_simp; try with_reducible rfl)
    try simp only [Act.put, List.setIfInBounds_toArray, List.set_cons_zero, List.set_cons_succ]
    refine wpAnyH_done (by kernel_rfl) ?_ _
    clear hHeld3 HKC hoa
    have F58 := Lib.hid (F44.out.since hc57)
    clear F44
    have F59 := Lib.hid (F45.out.since hc57)
    clear F45
    have F60 := Lib.hid (F46.out.since hc57)
    clear F46
    have F61 := Lib.hid (F47.out.since hc57)
    clear F47
    have F62 := Lib.hid (F48.out.since hc57)
    clear F48
    have F63 := Lib.hid (F49.out.since hc57)
    clear F49
    have F64 := Lib.hid (F50.out.since hc57)
    clear F50
    have hs65 := hs51.trans hc57
    have zhs65 := hc57.size
    obtain ⟨⟨r0, r1, r2, r3, r4⟩, _, _, _, _, _⟩ := F62.out.fiveP
    go_wp2_with fail
    clear r0 r1 r2 r3 r4
    refine (markPosZ_any y9.heap.size w15.heap.size _ x 1 _ F61.out (by omega) (by decide) (by decide) g60 g70).mono ?_
    rintro e w66 ⟨rfl, hmx0, hw67⟩
    rw [← HKX0.out]
    clear hmx0
    clear F61
    have F68 := Lib.hid (F58.out.within hw67 (by omega))
    clear F58
    have F69 := Lib.hid (F59.out.within hw67 (by omega))
    clear F59
    have F70 := Lib.hid (F60.out.within hw67 (by omega))
    clear F60
    have F71 := Lib.hid (F62.out.within hw67 (by omega))
    clear F62
    have F72 := Lib.hid (F63.out.within hw67 (by omega))
    clear F63
    have F73 := Lib.hid (F64.out.within hw67 (by omega))
    clear F64
    have hs74 := hs65.within (by omega) hw67
    have zhs74 := hw67.size
    clear F71
    obtain ⟨⟨p0, p1, p2⟩, _, _, _⟩ := F70.out.threeA
    obtain ⟨⟨r0, r1, r2⟩, _, _, _⟩ := F73.out.threeA
    go_wp2_with fail
    clear p0 p1 p2 r0 r1 r2
    refine (eqAutomaton_any _ _ R R _ F72.out.at F69.out.at qe0 qe0).mono ?_
    rintro e w75 ⟨rfl, hq76⟩
    have F77 := Lib.hid (F68.out.since hq76)
    clear F68
    have F78 := Lib.hid (F69.out.since hq76)
    clear F69
    have F79 := Lib.hid (F70.out.since hq76)
    clear F70
    have F80 := Lib.hid (F72.out.since hq76)
    clear F72
    have F81 := Lib.hid (F73.out.since hq76)
    clear F73
    have hs82 := hs74.trans hq76
    have zhs82 := hq76.size
    obtain ⟨⟨r0, r1, r2⟩, _, _, _⟩ := F81.out.threeA
    go_wp2_with fail
    clear r0 r1 r2
    refine (markAutomaton_any _ _ _ R 1 _ F80.out (by omega) (by decide) (by decide) qm0).mono ?_
    rintro e w83 ⟨rfl, hmg, hw84⟩
    rw [← HKR.out]
    have HM := Lib.hid hmg
    clear hmg
    clear F80
    have F85 := Lib.hid (F77.out.within hw84 (by omega))
    clear F77
    have F86 := Lib.hid (F78.out.within hw84 (by omega))
    clear F78
    have F87 := Lib.hid (F79.out.within hw84 (by omega))
    clear F79
    have F88 := Lib.hid (F81.out.within hw84 (by omega))
    clear F81
    have hs89 := hs82.within (by omega) hw84
    have zhs89 := hw84.size
    obtain ⟨⟨r0, r1, r2⟩, _, _, _⟩ := F88.out.threeA
    go_wp2_with fail
    clear r0 r1 r2
    refine (heldAutomaton_any _ R 1 _ HM.out.at (by decide) (by decide) qm0).mono ?_
    rintro e w90 ⟨rfl, hq91⟩
    rw [← HKR.out]
    have F92 := Lib.hid (F85.out.since hq91)
    clear F85
    have F93 := Lib.hid (F86.out.since hq91)
    clear F86
    have F94 := Lib.hid (F87.out.since hq91)
    clear F87
    have F95 := Lib.hid (F88.out.since hq91)
    clear F88
    have F96 := Lib.hid (HM.out.since hq91)
    clear HM
    have hs97 := hs89.trans hq91
    have zhs97 := hq91.size
    obtain ⟨⟨p0, p1, p2, p3, p4⟩, _, _, _, _, _⟩ := F92.out.fiveP
    go_wp2_with fail
    clear p0 p1 p2 p3 p4
    refine (toPosZ_any _ x _ (H0.out.since hs97) g10 g20).mono ?_
    rintro e w98 ⟨va, rfl, hoa, hq99⟩
    have F100 := Lib.hid (F92.out.since hq99)
    clear F92
    have F101 := Lib.hid (F93.out.since hq99)
    clear F93
    have F102 := Lib.hid (F94.out.since hq99)
    clear F94
    have F103 := Lib.hid (F95.out.since hq99)
    clear F95
    have F104 := Lib.hid (F96.out.since hq99)
    clear F96
    have hs105 := hs97.trans hq99
    have zhs105 := hq99.size
    go_wp2_with fail
    refine (HI.out _ _ hoa.at).mono ?_
    rintro e w106 ⟨vs4, rfl, ho3, hq107⟩
    clear hoa
    have HOO := Lib.hid ho3
    obtain ⟨hs, hu, rfl, _, hk, _, hl⟩ := ho3
    obtain ⟨hso, hsc, rfl⟩ := hk.len
    obtain ⟨huo, huc, rfl⟩ := hl.len
    clear hk hl
    have F108 := Lib.hid (F100.out.since hq107)
    clear F100
    have F109 := Lib.hid (F101.out.since hq107)
    clear F101
    have F110 := Lib.hid (F102.out.since hq107)
    clear F102
    have F111 := Lib.hid (F103.out.since hq107)
    clear F103
    have F112 := Lib.hid (F104.out.since hq107)
    clear F104
    have hs113 := hs105.trans hq107
    have zhs113 := hq107.size
    obtain ⟨y114, hy114⟩ : ∃ y, y = w106.alloc (.cells #[.int .i64 R.st, .slice hso R.ac.length hsc, .slice huo R.nx.length huc] 27) := ⟨_, rfl⟩
    have ha115 : Since w106 y114 := by rw [hy114]; exact (Since.refl w106).alloc _
    have zby114 : w106.heap.size + 1 = y114.heap.size := by rw [hy114]; simp
    have SB116 : Hid (Blk y114 w106.heap.size 27 #[.int .i64 R.st, .slice hso R.ac.length hsc, .slice huo R.nx.length huc]) := by rw [hy114]; exact Blk.new rfl _ _
    have F117 := Lib.hid (F108.out.since ha115)
    clear F108
    have F118 := Lib.hid (F109.out.since ha115)
    clear F109
    have F119 := Lib.hid (F110.out.since ha115)
    clear F110
    have F120 := Lib.hid (F111.out.since ha115)
    clear F111
    have F121 := Lib.hid (F112.out.since ha115)
    clear F112
    have F122 := Lib.hid (HOO.out.since ha115)
    clear HOO
    have hs123 := hs113.trans ha115
    have zhs123 := ha115.size
    obtain ⟨⟨p0, p1, p2⟩, _, _, _⟩ := F119.out.threeA
    obtain ⟨⟨r0, r1, r2⟩, _, _, _⟩ := SB116.out.threeA
    rw [hy114] at p0 p1 p2 r0 r1 r2
    go_wp2_with fail
    rw [← hy114]
    clear hy114 p0 p1 p2 r0 r1 r2
    refine (eqAutomaton_any _ _ R R _ F122.out.at F118.out.at qe0 qe0).mono ?_
    rintro e w124 ⟨rfl, hq125⟩
    have F126 := Lib.hid (F117.out.since hq125)
    clear F117
    have F127 := Lib.hid (F118.out.since hq125)
    clear F118
    have F128 := Lib.hid (F119.out.since hq125)
    clear F119
    have F129 := Lib.hid (F120.out.since hq125)
    clear F120
    have F130 := Lib.hid (F121.out.since hq125)
    clear F121
    have F131 := Lib.hid (F122.out.since hq125)
    clear F122
    have F132 := Lib.hid (SB116.out.since hq125)
    clear SB116
    have hs133 := hs123.trans hq125
    have zhs133 := hq125.size
    clear F127
    clear F131
    clear F128
    clear F132
    obtain ⟨⟨r0, r1, r2⟩, _, _, _⟩ := F129.out.threeA
    go_wp2_with fail
    clear r0 r1 r2
    refine (heldAutomaton_any _ R 1 _ F130.out.at (by decide) (by decide) qm0).mono ?_
    rintro e w134 ⟨rfl, hq135⟩
    rw [← HKR.out]
    have F136 := Lib.hid (F126.out.since hq135)
    clear F126
    have F137 := Lib.hid (F129.out.since hq135)
    clear F129
    have F138 := Lib.hid (F130.out.since hq135)
    clear F130
    have hs139 := hs133.trans hq135
    have zhs139 := hq135.size
    go_wp2
    go_ret
    exact ⟨rfl, hs139⟩
end Go.Proofs.Ytcokggjekleabaa
