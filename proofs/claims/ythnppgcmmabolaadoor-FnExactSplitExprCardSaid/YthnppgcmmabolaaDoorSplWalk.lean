/- The law of SplitExpr, walked. -/
import Derived.Test.YthnppgcmmabolaaDoorTokL
import Derived.Test.YthnppgcmmabolaaDoorOpenX
import Derived.Test.YthnppgcmmabolaaDoorSpl
import Derived.Test.YthnppgcmmabolaaDoorK1
namespace Go.Proofs.YthnppgcmmabolaaDoor
set_option maxRecDepth 100000
open Go.ChangeShapes Go.WideShapes Go.ChangeAt Go.RowKit
set_option linter.unusedVariables false
set_option linter.unusedSimpArgs false

set_option maxHeartbeats 4000000 in
set_option maxRecDepth 100000 in
theorem fnExactSplitExpr_walk (v0 : Value) (x : List Tok) (w : World) (hfr : Forms w) (h0 : ExAt w v0 x) (hl0 : x.length ≤ maxLen) :
    Calls Tryd.prog 5 #[v0] w fun e w' => e = .returned (.bool true) ∧ Since w w' := by
  have HFRM := Lib.hid hfr
  clear hfr
  have H0 := Lib.hid h0
  have HL0 := Lib.hid hl0
  obtain ⟨s0, rfl, hss0⟩ := h0
  obtain ⟨so0, sc0, rfl⟩ := hss0.len
  obtain ⟨p0, hp0⟩ : ∃ p, p = x.length := ⟨_, rfl⟩
  rw [← hp0] at H0 ⊢
  clear hp0 hl0
  obtain ⟨y0, hy0⟩ : ∃ y, y = (w.alloc (.cells #[.slice so0 p0 sc0] 24)) := ⟨_, rfl⟩
  have hs0 : Since w y0 := by rw [hy0]; exact (Since.refl w).alloc _
  have hz0 : w.heap.size + 1 = y0.heap.size := by rw [hy0]; simp
  have bx0 : Hid (Blk y0 (w.heap.size) 24 #[.slice so0 p0 sc0]) := by rw [hy0]; exact Blk.new (by simp) _ _
  obtain ⟨x0, hx0⟩ : ∃ zz, zz = szLeft x.length 1048576 := ⟨_, rfl⟩
  by_cases hz0 : x0 < 0
  · have HX0 := Lib.hid hx0
    clear hx0
    go_enter Tryd.func5, Tryd.ntmps5
    go_wp2_with fail
    rw [← hy0]
    clear hy0
    refine (szExpr_any _ x 1048576 x0 _ (H0.out.since hs0) HL0.out (by decide) (by decide) HX0.out.symm).mono ?_
    rintro e wz0 ⟨rfl, hsz0⟩
    have hz00 := hs0.trans hsz0
    have hzz0 := hsz0.size
    have bz0_0 := Lib.hid (bx0.out.since hsz0)
    clear bx0
    clear hs0 hsz0
    go_wp2
    go_ret
    exact ⟨rfl, hz00⟩
  · have lx0 : 0 ≤ x0 ∧ x0 ≤ 1048576 := by rw [hx0]; rw [hx0] at hz0; exact (szX_small (x := x) (left := 1048576) (by decide) hz0).1
    have g10 : x.length ≤ 1048577 := by rw [hx0] at hz0; exact (szX_small (x := x) (left := 1048576) (by decide) hz0).2
    have HX0 := Lib.hid hx0
    clear hx0
    have HS : Hid (∀ V0 W, ExC W V0 x → Calls Tryd.prog 16 #[V0] W ((SpOut W ((partsX x).1) ((partsX x).2)))) := fun V0 W k0 => specSX_any V0 x W k0 g10
    have HI : Hid (∀ V0 W, Since w W → ExC W V0 x → Calls Tryd.prog 17 #[V0] W ((SpOut W ((partsX x).1) ((partsX x).2)))) := fun V0 W hW k0 => implSX_any V0 x W (HFRM.out.since hW) k0 g10
    have q0 : ((partsX x).1).length ≤ 1048577 ∧ ((partsX x).2).length ≤ 1048577 := (by have := partsX_len x; omega)
    generalize (partsX x).1 = R at HS HI q0
    generalize (partsX x).2 = Q at HS HI q0
    obtain ⟨kx0, hkx0⟩ : ∃ kx : Int, kx = 1 + 4 * (x.length : Int) := ⟨_, rfl⟩
    have bk0 : 0 ≤ kx0 ∧ kx0 ≤ 10000000 := by omega
    have dkx : decide (kx0 < 0) = false := by simp; omega
    have HKX0 := Lib.hid hkx0
    clear hkx0
    have dgg0 : decide (x = x) = true := by simp
    have g40 : x.length ≤ 1152921504606846976 := by omega
    have g60 : x.length ≤ 288230376151711744 := by omega
    go_enter Tryd.func5, Tryd.ntmps5
    go_wp2_with fail
    rw [← hy0]
    clear hy0
    refine (szExpr_any _ x 1048576 x0 _ (H0.out.since hs0) HL0.out (by decide) (by decide) HX0.out.symm).mono ?_
    rintro e wz0 ⟨rfl, hsz0⟩
    have hz00 := hs0.trans hsz0
    have hzz0 := hsz0.size
    have bz0_0 := Lib.hid (bx0.out.since hsz0)
    clear bx0
    clear hs0 hsz0
    have hR9 : R.length ≤ 288230376151711744 := by omega
    have hQ9 : Q.length ≤ 288230376151711744 := by omega
    have hR8 : R.length ≤ 1152921504606846976 := by omega
    have hQ8 : Q.length ≤ 1152921504606846976 := by omega
    have dRR : decide (R = R) = true := by simp
    have dQQ : decide (Q = Q) = true := by simp
    obtain ⟨kr, hkr⟩ : ∃ kr : Int, kr = 1 + 4 * (R.length : Int) := ⟨_, rfl⟩
    obtain ⟨kq, hkq⟩ : ∃ kq : Int, kq = kr + 4 * (Q.length : Int) := ⟨_, rfl⟩
    have bkr : 0 ≤ kr ∧ kr ≤ 10000000 := by omega
    have bkq : 0 ≤ kq ∧ kq ≤ 20000000 := by omega
    have dkr : decide (kr < 0) = false := by simp; omega
    have dkq : decide (kq < 0) = false := by simp; omega
    have ekq : (kq != kq) = false := by simp
    have HKR := Lib.hid hkr
    have HKQ := Lib.hid hkq
    clear hkr hkq
    obtain ⟨p0, _⟩ := bz0_0.out.one
    go_wp2_with fail
    clear p0
    refine (toExpr_any _ x _ (H0.out.since hz00) g10).mono ?_
    rintro e w1 ⟨va, rfl, hoa, hq2⟩
    have F3 := Lib.hid (bz0_0.out.since hq2)
    clear bz0_0
    have hs4 := hz00.trans hq2
    have zhs4 := hq2.size
    go_wp2_with fail
    refine (HS.out _ _ hoa.atC).mono ?_
    rintro e w5 ⟨sv, rv, Sm, rfl, SO1, SO2, Shm, hq6⟩
    have SP1 := Lib.hid SO1
    have SP2 := Lib.hid SO2
    obtain ⟨so, sn, sc, _, rfl⟩ := SO1.lenN
    obtain ⟨ro, rn, rc, _, rfl⟩ := SO2.lenN
    clear SO1 SO2
    have F7 := Lib.hid (F3.out.since hq6)
    clear F3
    have hs8 := hs4.trans hq6
    have zhs8 := hq6.size
    clear hoa
    obtain ⟨y9, hy9⟩ : ∃ y, y = (w5.alloc (.cells #[.slice so sn sc] 29)).alloc (.cells #[.slice ro rn rc] 29) := ⟨_, rfl⟩
    have ha10 : Since w5 y9 := by rw [hy9]; exact ((Since.refl w5).alloc _).alloc _
    have zby9 : w5.heap.size + 2 = y9.heap.size := by rw [hy9]; simp
    have S1B : Hid (Blk y9 w5.heap.size 29 #[.slice so sn sc]) := by rw [hy9]; exact (Blk.new rfl _ _).alloc _
    have S2B : Hid (Blk y9 (w5.heap.size + 1) 29 #[.slice ro rn rc]) := by rw [hy9]; exact Blk.new (by simp) _ _
    have F11 := Lib.hid (F7.out.since ha10)
    clear F7
    have F12 := Lib.hid (SP1.out.since ha10)
    clear SP1
    have F13 := Lib.hid (SP2.out.since ha10)
    clear SP2
    have hs14 := hs8.trans ha10
    have zhs14 := ha10.size
    obtain ⟨z00, _⟩ := F11.out.one
    rw [hy9] at z00
    go_wp2_with fail
    rw [← hy9]
    clear hy9 z00
    refine (toExpr_any _ x _ (H0.out.since hs14) g10).mono ?_
    rintro e w15 ⟨vx, rfl, hox, hq16⟩
    have XO := Lib.hid hox
    obtain ⟨xo, xn, xc, _, rfl⟩ := hox.lenN
    clear hox
    have F17 := Lib.hid (F11.out.since hq16)
    clear F11
    have F18 := Lib.hid (F12.out.since hq16)
    clear F12
    have F19 := Lib.hid (F13.out.since hq16)
    clear F13
    have F20 := Lib.hid (S1B.out.since hq16)
    clear S1B
    have F21 := Lib.hid (S2B.out.since hq16)
    clear S2B
    have hs22 := hs14.trans hq16
    have zhs22 := hq16.size
    obtain ⟨y23, hy23⟩ : ∃ y, y = w15.alloc (.cells #[.slice xo xn xc] 29) := ⟨_, rfl⟩
    have ha24 : Since w15 y23 := by rw [hy23]; exact (Since.refl w15).alloc _
    have zby23 : w15.heap.size + 1 = y23.heap.size := by rw [hy23]; simp
    have XB : Hid (Blk y23 w15.heap.size 29 #[.slice xo xn xc]) := by rw [hy23]; exact Blk.new rfl _ _
    have F25 := Lib.hid (F17.out.since ha24)
    clear F17
    have F26 := Lib.hid (F18.out.since ha24)
    clear F18
    have F27 := Lib.hid (F19.out.since ha24)
    clear F19
    have F28 := Lib.hid (F20.out.since ha24)
    clear F20
    have F29 := Lib.hid (F21.out.since ha24)
    clear F21
    have F30 := Lib.hid (XO.out.since ha24)
    clear XO
    have hs31 := hs22.trans ha24
    have zhs31 := ha24.size
    obtain ⟨z00, _⟩ := XB.out.one
    rw [hy23] at z00
    go_wp2_with fail
    rw [← hy23]
    clear hy23 z00
    refine (HI.out _ _ hs31 F30.out.atC).mono ?_
    rintro e w32 ⟨gv, jv, Gm, rfl, GO1, GO2, Ghm, hq33⟩
    have GP1 := Lib.hid GO1
    have GP2 := Lib.hid GO2
    obtain ⟨go, gn, gc, _, rfl⟩ := GO1.lenN
    obtain ⟨jo, jn, jc, _, rfl⟩ := GO2.lenN
    clear GO1 GO2
    have F34 := Lib.hid (F25.out.since hq33)
    clear F25
    have F35 := Lib.hid (F26.out.since hq33)
    clear F26
    have F36 := Lib.hid (F27.out.since hq33)
    clear F27
    have F37 := Lib.hid (F28.out.since hq33)
    clear F28
    have F38 := Lib.hid (F29.out.since hq33)
    clear F29
    have F39 := Lib.hid (F30.out.since hq33)
    clear F30
    have F40 := Lib.hid (XB.out.since hq33)
    clear XB
    have hs41 := hs31.trans hq33
    have zhs41 := hq33.size
    obtain ⟨y42, hy42⟩ : ∃ y, y = (w32.alloc (.cells #[.slice go gn gc] 29)).alloc (.cells #[.slice jo jn jc] 29) := ⟨_, rfl⟩
    have ha43 : Since w32 y42 := by rw [hy42]; exact ((Since.refl w32).alloc _).alloc _
    have zby42 : w32.heap.size + 2 = y42.heap.size := by rw [hy42]; simp
    have G1B : Hid (Blk y42 w32.heap.size 29 #[.slice go gn gc]) := by rw [hy42]; exact (Blk.new rfl _ _).alloc _
    have G2B : Hid (Blk y42 (w32.heap.size + 1) 29 #[.slice jo jn jc]) := by rw [hy42]; exact Blk.new (by simp) _ _
    have F44 := Lib.hid (F34.out.since ha43)
    clear F34
    have F45 := Lib.hid (F35.out.since ha43)
    clear F35
    have F46 := Lib.hid (F36.out.since ha43)
    clear F36
    have F47 := Lib.hid (F37.out.since ha43)
    clear F37
    have F48 := Lib.hid (F38.out.since ha43)
    clear F38
    have F49 := Lib.hid (F39.out.since ha43)
    clear F39
    have F50 := Lib.hid (F40.out.since ha43)
    clear F40
    have F51 := Lib.hid (GP1.out.since ha43)
    clear GP1
    have F52 := Lib.hid (GP2.out.since ha43)
    clear GP2
    have hs53 := hs41.trans ha43
    have zhs53 := ha43.size
    obtain ⟨z00, _⟩ := F47.out.one
    obtain ⟨z10, _⟩ := G1B.out.one
    rw [hy42] at z00 z10
    go_wp2_with fail
    rw [← hy42]
    clear hy42 z00 z10
    refine (eqExpr_any _ _ R R _ F51.out.at F45.out.at hR8 hR8).mono ?_
    rintro e w54 ⟨rfl, hq55⟩
    have F56 := Lib.hid (F44.out.since hq55)
    clear F44
    have F57 := Lib.hid (F45.out.since hq55)
    clear F45
    have F58 := Lib.hid (F46.out.since hq55)
    clear F46
    have F59 := Lib.hid (F47.out.since hq55)
    clear F47
    have F60 := Lib.hid (F48.out.since hq55)
    clear F48
    have F61 := Lib.hid (F49.out.since hq55)
    clear F49
    have F62 := Lib.hid (F50.out.since hq55)
    clear F50
    have F63 := Lib.hid (F51.out.since hq55)
    clear F51
    have F64 := Lib.hid (F52.out.since hq55)
    clear F52
    have F65 := Lib.hid (G1B.out.since hq55)
    clear G1B
    have F66 := Lib.hid (G2B.out.since hq55)
    clear G2B
    have hs67 := hs53.trans hq55
    have zhs67 := hq55.size
    obtain ⟨z00, _⟩ := F60.out.one
    obtain ⟨z10, _⟩ := F66.out.one
    go_wp2_with fail
    clear z00 z10
    refine (eqExpr_any _ _ Q Q _ F64.out.at F58.out.at hQ8 hQ8).mono ?_
    rintro e w68 ⟨rfl, hq69⟩
    have F70 := Lib.hid (F56.out.since hq69)
    clear F56
    have F71 := Lib.hid (F57.out.since hq69)
    clear F57
    have F72 := Lib.hid (F58.out.since hq69)
    clear F58
    have F73 := Lib.hid (F59.out.since hq69)
    clear F59
    have F74 := Lib.hid (F60.out.since hq69)
    clear F60
    have F75 := Lib.hid (F61.out.since hq69)
    clear F61
    have F76 := Lib.hid (F62.out.since hq69)
    clear F62
    have F77 := Lib.hid (F63.out.since hq69)
    clear F63
    have F78 := Lib.hid (F64.out.since hq69)
    clear F64
    have F79 := Lib.hid (F65.out.since hq69)
    clear F65
    have F80 := Lib.hid (F66.out.since hq69)
    clear F66
    have hs81 := hs67.trans hq69
    have zhs81 := hq69.size
    go_wp2_with fail
    have HKC : Hid (∀ w', Since w68 w' → w'.cell? ⟨w15.heap.size, 0, none⟩ = some (.slice xo xn xc) ∧ w'.cell? ⟨w.heap.size, 0, none⟩ = some (.slice so0 p0 sc0)) := by
      intro w' hs
      exact ⟨(F76.out.since hs).one.1, (F70.out.since hs).one.1⟩
    refine wp_region_held_drew (S := (fun w' => w'.cell? ⟨w15.heap.size, 0, none⟩ = some (.slice xo xn xc) ∧ w'.cell? ⟨w.heap.size, 0, none⟩ = some (.slice so0 p0 sc0))) (by kernel_rfl) (HKC.out _ (Since.refl _).drew) (fun hHeld => ?_)
    refine take_yes 0 (some 42) (v := ?_) rfl (by kernel_rfl) (by kernel_rfl) (by kernel_rfl) (by kernel_rfl) (fun _ _ _ h => h) (by rfl) (by assumption) ?_ ?_
    rotate_left
    · (intro w' hSw; (try dsimp only at hSw); go_simp; try with_reducible rfl)
    try simp only [Act.put, List.setIfInBounds_toArray, List.set_cons_zero, List.set_cons_succ]
    refine take_yes 1 (some 43) (v := ?_) rfl (by kernel_rfl) (by kernel_rfl) (by kernel_rfl) (by kernel_rfl) (fun _ _ _ h => h) (by rfl) (by assumption) ?_ ?_
    rotate_left
    · (intro w' hSw; (try dsimp only at hSw); go_simp; try with_reducible rfl)
    try simp only [Act.put, List.setIfInBounds_toArray, List.set_cons_zero, List.set_cons_succ]
    refine take_run 2 rfl (by kernel_rfl) (by rfl) (fun K hK => ?_)
    go_simp
    refine (toExpr_any _ x _ (H0.out.since hs81.drew) g10).mono ?_
    rintro e w82 ⟨va, rfl, hoa, hq83⟩
    have hc84 := Since.of_drew hq83
    refine hK.out _ _ (HKC.out _ hc84) (fun hHeld2 => ?_)
    clear hK K hHeld
    try simp only [Act.put, List.setIfInBounds_toArray, List.set_cons_zero, List.set_cons_succ]
    refine take_run 3 rfl (by kernel_rfl) (by rfl) (fun K hK => ?_)
    go_simp
    refine (eqExpr_any _ _ x x _ (F75.out.at.since hc84) hoa.at g40 g40).mono ?_
    rintro e w85 ⟨rfl, hq86⟩
    have hc87 := hc84.trans hq86
    refine hK.out _ _ (HKC.out _ hc87) (fun hHeld3 => ?_)
    clear hK K hHeld2
    try simp only [Act.put, List.setIfInBounds_toArray, List.set_cons_zero, List.set_cons_succ]
    refine take_yes 4 (some 46) (v := ?_) rfl (by kernel_rfl) (by kernel_rfl) (by kernel_rfl) (by kernel_rfl) (fun _ _ _ h => h) (by rfl) (by assumption) ?_ ?_
    rotate_left
    · (intro w' hSw; (try dsimp only at hSw); go_simp; try with_reducible rfl)
    try simp only [Act.put, List.setIfInBounds_toArray, List.set_cons_zero, List.set_cons_succ]
    refine wpAnyH_done (by kernel_rfl) ?_ _
    clear hHeld3 HKC hoa
    have F88 := Lib.hid (F70.out.since hc87)
    clear F70
    have F89 := Lib.hid (F71.out.since hc87)
    clear F71
    have F90 := Lib.hid (F72.out.since hc87)
    clear F72
    have F91 := Lib.hid (F73.out.since hc87)
    clear F73
    have F92 := Lib.hid (F74.out.since hc87)
    clear F74
    have F93 := Lib.hid (F75.out.since hc87)
    clear F75
    have F94 := Lib.hid (F76.out.since hc87)
    clear F76
    have F95 := Lib.hid (F77.out.since hc87)
    clear F77
    have F96 := Lib.hid (F78.out.since hc87)
    clear F78
    have F97 := Lib.hid (F79.out.since hc87)
    clear F79
    have F98 := Lib.hid (F80.out.since hc87)
    clear F80
    have hs99 := hs81.trans hc87
    have zhs99 := hc87.size
    obtain ⟨z00, _⟩ := F94.out.one
    go_wp2_with fail
    clear z00
    refine (markExpr_any _ _ _ x 1 _ F93.out (by omega) (by omega) g60).mono ?_
    rintro e w100 ⟨rfl, hmk, hw101⟩
    rw [← HKX0.out]
    have MX := Lib.hid hmk
    clear hmk
    clear F93
    have F102 := Lib.hid (F88.out.within hw101 (by omega))
    clear F88
    have F103 := Lib.hid (F89.out.within hw101 (by omega))
    clear F89
    have F104 := Lib.hid (F90.out.within hw101 (by omega))
    clear F90
    have F105 := Lib.hid (F91.out.within hw101 (by omega))
    clear F91
    have F106 := Lib.hid (F92.out.within hw101 (by omega))
    clear F92
    have F107 := Lib.hid (F94.out.within hw101 (by omega))
    clear F94
    have F108 := Lib.hid (F95.out.within hw101 (by omega))
    clear F95
    have F109 := Lib.hid (F96.out.within hw101 (by omega))
    clear F96
    have F110 := Lib.hid (F97.out.within hw101 (by omega))
    clear F97
    have F111 := Lib.hid (F98.out.within hw101 (by omega))
    clear F98
    have hs112 := hs99.within (by omega) hw101
    have zhs112 := hw101.size
    clear MX F107
    obtain ⟨z00, _⟩ := F105.out.one
    obtain ⟨z10, _⟩ := F110.out.one
    go_wp2_with fail
    clear z00 z10
    refine (eqExpr_any _ _ R R _ F108.out.at F103.out.at hR8 hR8).mono ?_
    rintro e w113 ⟨rfl, hq114⟩
    have F115 := Lib.hid (F102.out.since hq114)
    clear F102
    have F116 := Lib.hid (F103.out.since hq114)
    clear F103
    have F117 := Lib.hid (F104.out.since hq114)
    clear F104
    have F118 := Lib.hid (F105.out.since hq114)
    clear F105
    have F119 := Lib.hid (F106.out.since hq114)
    clear F106
    have F120 := Lib.hid (F108.out.since hq114)
    clear F108
    have F121 := Lib.hid (F109.out.since hq114)
    clear F109
    have F122 := Lib.hid (F110.out.since hq114)
    clear F110
    have F123 := Lib.hid (F111.out.since hq114)
    clear F111
    have hs124 := hs112.trans hq114
    have zhs124 := hq114.size
    obtain ⟨z00, _⟩ := F119.out.one
    obtain ⟨z10, _⟩ := F123.out.one
    go_wp2_with fail
    clear z00 z10
    refine (eqExpr_any _ _ Q Q _ F121.out.at F117.out.at hQ8 hQ8).mono ?_
    rintro e w125 ⟨rfl, hq126⟩
    have F127 := Lib.hid (F115.out.since hq126)
    clear F115
    have F128 := Lib.hid (F116.out.since hq126)
    clear F116
    have F129 := Lib.hid (F117.out.since hq126)
    clear F117
    have F130 := Lib.hid (F118.out.since hq126)
    clear F118
    have F131 := Lib.hid (F119.out.since hq126)
    clear F119
    have F132 := Lib.hid (F120.out.since hq126)
    clear F120
    have F133 := Lib.hid (F121.out.since hq126)
    clear F121
    have F134 := Lib.hid (F122.out.since hq126)
    clear F122
    have F135 := Lib.hid (F123.out.since hq126)
    clear F123
    have hs136 := hs124.trans hq126
    have zhs136 := hq126.size
    obtain ⟨z00, _⟩ := F134.out.one
    go_wp2_with fail
    clear z00
    refine (markExpr_any _ _ _ R 1 _ F132.out (by omega) (by omega) hR9).mono ?_
    rintro e w137 ⟨rfl, hmk, hw138⟩
    rw [← HKR.out]
    have MG1 := Lib.hid hmk
    clear hmk
    clear F132
    have F139 := Lib.hid (F127.out.within hw138 (by omega))
    clear F127
    have F140 := Lib.hid (F128.out.within hw138 (by omega))
    clear F128
    have F141 := Lib.hid (F129.out.within hw138 (by omega))
    clear F129
    have F142 := Lib.hid (F130.out.within hw138 (by omega))
    clear F130
    have F143 := Lib.hid (F131.out.within hw138 (by omega))
    clear F131
    have F144 := Lib.hid (F133.out.within hw138 (by omega))
    clear F133
    have F145 := Lib.hid (F134.out.within hw138 (by omega))
    clear F134
    have F146 := Lib.hid (F135.out.within hw138 (by omega))
    clear F135
    have hs147 := hs136.within (by omega) hw138
    have zhs147 := hw138.size
    obtain ⟨z00, _⟩ := F146.out.one
    go_wp2_with fail
    clear z00
    refine (markExpr_any _ _ _ Q kr _ F144.out (by omega) (by omega) hQ9).mono ?_
    rintro e w148 ⟨rfl, hmk, hw149⟩
    rw [← HKQ.out]
    have MG2 := Lib.hid hmk
    clear hmk
    clear F144
    have F150 := Lib.hid (F139.out.within hw149 (by omega))
    clear F139
    have F151 := Lib.hid (F140.out.within hw149 (by omega))
    clear F140
    have F152 := Lib.hid (F141.out.within hw149 (by omega))
    clear F141
    have F153 := Lib.hid (F142.out.within hw149 (by omega))
    clear F142
    have F154 := Lib.hid (F143.out.within hw149 (by omega))
    clear F143
    have F155 := Lib.hid (F145.out.within hw149 (by omega))
    clear F145
    have F156 := Lib.hid (F146.out.within hw149 (by omega))
    clear F146
    have F157 := Lib.hid (MG1.out.within hw149 (by omega))
    clear MG1
    have hs158 := hs147.within (by omega) hw149
    have zhs158 := hw149.size
    obtain ⟨z00, _⟩ := F155.out.one
    go_wp2_with fail
    clear z00
    refine (heldExpr_any _ R 1 _ F157.out.at (by omega) (by omega) hR9).mono ?_
    rintro e w159 ⟨rfl, hq160⟩
    rw [← HKR.out]
    have F161 := Lib.hid (F150.out.since hq160)
    clear F150
    have F162 := Lib.hid (F151.out.since hq160)
    clear F151
    have F163 := Lib.hid (F152.out.since hq160)
    clear F152
    have F164 := Lib.hid (F153.out.since hq160)
    clear F153
    have F165 := Lib.hid (F154.out.since hq160)
    clear F154
    have F166 := Lib.hid (F155.out.since hq160)
    clear F155
    have F167 := Lib.hid (F156.out.since hq160)
    clear F156
    have F168 := Lib.hid (F157.out.since hq160)
    clear F157
    have F169 := Lib.hid (MG2.out.since hq160)
    clear MG2
    have hs170 := hs158.trans hq160
    have zhs170 := hq160.size
    obtain ⟨z00, _⟩ := F167.out.one
    go_wp2_with fail
    clear z00
    refine (heldExpr_any _ Q kr _ F169.out.at (by omega) (by omega) hQ9).mono ?_
    rintro e w171 ⟨rfl, hq172⟩
    rw [← HKQ.out]
    have F173 := Lib.hid (F161.out.since hq172)
    clear F161
    have F174 := Lib.hid (F162.out.since hq172)
    clear F162
    have F175 := Lib.hid (F163.out.since hq172)
    clear F163
    have F176 := Lib.hid (F164.out.since hq172)
    clear F164
    have F177 := Lib.hid (F165.out.since hq172)
    clear F165
    have F178 := Lib.hid (F166.out.since hq172)
    clear F166
    have F179 := Lib.hid (F167.out.since hq172)
    clear F167
    have F180 := Lib.hid (F168.out.since hq172)
    clear F168
    have F181 := Lib.hid (F169.out.since hq172)
    clear F169
    have hs182 := hs170.trans hq172
    have zhs182 := hq172.size
    obtain ⟨z00, _⟩ := F173.out.one
    go_wp2_with fail
    clear z00
    refine (toExpr_any _ x _ (H0.out.since hs182) g10).mono ?_
    rintro e w183 ⟨va, rfl, hoa, hq184⟩
    have F185 := Lib.hid (F173.out.since hq184)
    clear F173
    have F186 := Lib.hid (F174.out.since hq184)
    clear F174
    have F187 := Lib.hid (F175.out.since hq184)
    clear F175
    have F188 := Lib.hid (F176.out.since hq184)
    clear F176
    have F189 := Lib.hid (F177.out.since hq184)
    clear F177
    have F190 := Lib.hid (F178.out.since hq184)
    clear F178
    have F191 := Lib.hid (F179.out.since hq184)
    clear F179
    have F192 := Lib.hid (F180.out.since hq184)
    clear F180
    have F193 := Lib.hid (F181.out.since hq184)
    clear F181
    have hs194 := hs182.trans hq184
    have zhs194 := hq184.size
    go_wp2_with fail
    refine (HI.out _ _ hs194 hoa.atC).mono ?_
    rintro e w195 ⟨hv, fv, Hm, rfl, HO1, HO2, Hhm, hq196⟩
    have HP1 := Lib.hid HO1
    have HP2 := Lib.hid HO2
    obtain ⟨ho, hn, hc, _, rfl⟩ := HO1.lenN
    obtain ⟨fo, fn, fc, _, rfl⟩ := HO2.lenN
    clear HO1 HO2
    have F197 := Lib.hid (F185.out.since hq196)
    clear F185
    have F198 := Lib.hid (F186.out.since hq196)
    clear F186
    have F199 := Lib.hid (F187.out.since hq196)
    clear F187
    have F200 := Lib.hid (F188.out.since hq196)
    clear F188
    have F201 := Lib.hid (F189.out.since hq196)
    clear F189
    have F202 := Lib.hid (F190.out.since hq196)
    clear F190
    have F203 := Lib.hid (F191.out.since hq196)
    clear F191
    have F204 := Lib.hid (F192.out.since hq196)
    clear F192
    have F205 := Lib.hid (F193.out.since hq196)
    clear F193
    have hs206 := hs194.trans hq196
    have zhs206 := hq196.size
    clear hoa
    obtain ⟨y207, hy207⟩ : ∃ y, y = (w195.alloc (.cells #[.slice ho hn hc] 29)).alloc (.cells #[.slice fo fn fc] 29) := ⟨_, rfl⟩
    have ha208 : Since w195 y207 := by rw [hy207]; exact ((Since.refl w195).alloc _).alloc _
    have zby207 : w195.heap.size + 2 = y207.heap.size := by rw [hy207]; simp
    have H1B : Hid (Blk y207 w195.heap.size 29 #[.slice ho hn hc]) := by rw [hy207]; exact (Blk.new rfl _ _).alloc _
    have H2B : Hid (Blk y207 (w195.heap.size + 1) 29 #[.slice fo fn fc]) := by rw [hy207]; exact Blk.new (by simp) _ _
    have F209 := Lib.hid (F197.out.since ha208)
    clear F197
    have F210 := Lib.hid (F198.out.since ha208)
    clear F198
    have F211 := Lib.hid (F199.out.since ha208)
    clear F199
    have F212 := Lib.hid (F200.out.since ha208)
    clear F200
    have F213 := Lib.hid (F201.out.since ha208)
    clear F201
    have F214 := Lib.hid (F202.out.since ha208)
    clear F202
    have F215 := Lib.hid (F203.out.since ha208)
    clear F203
    have F216 := Lib.hid (F204.out.since ha208)
    clear F204
    have F217 := Lib.hid (F205.out.since ha208)
    clear F205
    have F218 := Lib.hid (HP1.out.since ha208)
    clear HP1
    have F219 := Lib.hid (HP2.out.since ha208)
    clear HP2
    have hs220 := hs206.trans ha208
    have zhs220 := ha208.size
    obtain ⟨z00, _⟩ := F212.out.one
    obtain ⟨z10, _⟩ := H1B.out.one
    rw [hy207] at z00 z10
    go_wp2_with fail
    rw [← hy207]
    clear hy207 z00 z10
    refine (eqExpr_any _ _ R R _ F218.out.at F210.out.at hR8 hR8).mono ?_
    rintro e w221 ⟨rfl, hq222⟩
    have F223 := Lib.hid (F209.out.since hq222)
    clear F209
    have F224 := Lib.hid (F210.out.since hq222)
    clear F210
    have F225 := Lib.hid (F211.out.since hq222)
    clear F211
    have F226 := Lib.hid (F212.out.since hq222)
    clear F212
    have F227 := Lib.hid (F213.out.since hq222)
    clear F213
    have F228 := Lib.hid (F214.out.since hq222)
    clear F214
    have F229 := Lib.hid (F215.out.since hq222)
    clear F215
    have F230 := Lib.hid (F216.out.since hq222)
    clear F216
    have F231 := Lib.hid (F217.out.since hq222)
    clear F217
    have F232 := Lib.hid (F218.out.since hq222)
    clear F218
    have F233 := Lib.hid (F219.out.since hq222)
    clear F219
    have F234 := Lib.hid (H1B.out.since hq222)
    clear H1B
    have F235 := Lib.hid (H2B.out.since hq222)
    clear H2B
    have hs236 := hs220.trans hq222
    have zhs236 := hq222.size
    obtain ⟨z00, _⟩ := F227.out.one
    obtain ⟨z10, _⟩ := F235.out.one
    go_wp2_with fail
    clear z00 z10
    refine (eqExpr_any _ _ Q Q _ F233.out.at F225.out.at hQ8 hQ8).mono ?_
    rintro e w237 ⟨rfl, hq238⟩
    have F239 := Lib.hid (F223.out.since hq238)
    clear F223
    have F240 := Lib.hid (F224.out.since hq238)
    clear F224
    have F241 := Lib.hid (F225.out.since hq238)
    clear F225
    have F242 := Lib.hid (F226.out.since hq238)
    clear F226
    have F243 := Lib.hid (F227.out.since hq238)
    clear F227
    have F244 := Lib.hid (F228.out.since hq238)
    clear F228
    have F245 := Lib.hid (F229.out.since hq238)
    clear F229
    have F246 := Lib.hid (F230.out.since hq238)
    clear F230
    have F247 := Lib.hid (F231.out.since hq238)
    clear F231
    have F248 := Lib.hid (F232.out.since hq238)
    clear F232
    have F249 := Lib.hid (F233.out.since hq238)
    clear F233
    have F250 := Lib.hid (F234.out.since hq238)
    clear F234
    have F251 := Lib.hid (F235.out.since hq238)
    clear F235
    have hs252 := hs236.trans hq238
    have zhs252 := hq238.size
    clear F240
    clear F241
    clear F248
    clear F249
    clear F242
    clear F243
    clear F250
    clear F251
    obtain ⟨z00, _⟩ := F244.out.one
    go_wp2_with fail
    clear z00
    refine (heldExpr_any _ R 1 _ F246.out.at (by omega) (by omega) hR9).mono ?_
    rintro e w253 ⟨rfl, hq254⟩
    rw [← HKR.out]
    have F255 := Lib.hid (F239.out.since hq254)
    clear F239
    have F256 := Lib.hid (F244.out.since hq254)
    clear F244
    have F257 := Lib.hid (F245.out.since hq254)
    clear F245
    have F258 := Lib.hid (F246.out.since hq254)
    clear F246
    have F259 := Lib.hid (F247.out.since hq254)
    clear F247
    have hs260 := hs252.trans hq254
    have zhs260 := hq254.size
    obtain ⟨z00, _⟩ := F257.out.one
    go_wp2_with fail
    clear z00
    refine (heldExpr_any _ Q kr _ F259.out.at (by omega) (by omega) hQ9).mono ?_
    rintro e w261 ⟨rfl, hq262⟩
    rw [← HKQ.out]
    have F263 := Lib.hid (F255.out.since hq262)
    clear F255
    have F264 := Lib.hid (F256.out.since hq262)
    clear F256
    have F265 := Lib.hid (F257.out.since hq262)
    clear F257
    have F266 := Lib.hid (F258.out.since hq262)
    clear F258
    have F267 := Lib.hid (F259.out.since hq262)
    clear F259
    have hs268 := hs260.trans hq262
    have zhs268 := hq262.size
    go_wp2
    go_ret
    exact ⟨rfl, hs268⟩
end Go.Proofs.YthnppgcmmabolaaDoor
