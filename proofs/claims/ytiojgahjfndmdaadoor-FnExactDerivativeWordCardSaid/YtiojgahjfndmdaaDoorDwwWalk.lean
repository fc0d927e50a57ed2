/- The law of DerivativeWord, walked. -/
import Derived.Test.YtiojgahjfndmdaaDoorTokL
import Derived.Test.YtiojgahjfndmdaaDoorOpenX
import Derived.Test.YtiojgahjfndmdaaDoorDwC
import Derived.Test.YtiojgahjfndmdaaDoorK1
namespace Go.Proofs.YtiojgahjfndmdaaDoor
set_option maxRecDepth 100000
open Go.ChangeShapes Go.WideShapes Go.ChangeAt Go.RowKit
set_option linter.unusedVariables false
set_option linter.unusedSimpArgs false

set_option maxHeartbeats 4000000 in
set_option maxRecDepth 100000 in
theorem fnExactDerivativeWord_walk (v0 v1 : Value) (x : List Tok) (z : List Int) (w : World) (hfr : Forms w) (h0 : ExAt w v0 x) (h1 : IntsAt w v1 z) (hl0 : x.length ≤ maxLen) (hl1 : z.length ≤ maxLen) :
    Calls Tryd.prog 8 #[v0, v1] w fun e w' => e = .returned (.bool true) ∧ Since w w' := by
  have HFRM := Lib.hid hfr
  clear hfr
  have H0 := Lib.hid h0
  have HL0 := Lib.hid hl0
  obtain ⟨s0, rfl, hss0⟩ := h0
  obtain ⟨so0, sc0, rfl⟩ := hss0.len
  obtain ⟨p0, hp0⟩ : ∃ p, p = x.length := ⟨_, rfl⟩
  rw [← hp0] at H0 ⊢
  clear hp0 hl0
  have HZ := Lib.hid h1
  obtain ⟨zo, zc, rfl, _⟩ := h1.row
  clear h1
  obtain ⟨zn, hzn⟩ : ∃ zn, zn = z.length := ⟨_, rfl⟩
  rw [← hzn] at HZ hl1 ⊢
  have HZN := Lib.hid hzn
  clear hzn
  unfold maxLen at hl1
  obtain ⟨y0, hy0⟩ : ∃ y, y = (w.alloc (.cells #[.slice so0 p0 sc0] 52)) := ⟨_, rfl⟩
  have hs0 : Since w y0 := by rw [hy0]; exact (Since.refl w).alloc _
  have hz0 : w.heap.size + 1 = y0.heap.size := by rw [hy0]; simp
  have bx0 : Hid (Blk y0 (w.heap.size) 52 #[.slice so0 p0 sc0]) := by rw [hy0]; exact Blk.new (by simp) _ _
  by_cases hbig : 1048576 < zn
  · have hbi : (1048576 : Int) < (zn : Int) := by omega
    clear hbig
    go_enter Tryd.func8, Tryd.ntmps8
    go_wp2
    go_ret
    exact ⟨rfl, by first | exact hs0 | exact (hy0 ▸ hs0)⟩
  have hbi : ¬ ((1048576 : Int) < (zn : Int)) := by omega
  have gz : z.length ≤ 1048577 := by have := HZN.out; omega
  clear hbig
  obtain ⟨x0, hx0⟩ : ∃ zz, zz = szLeft x.length 1048576 := ⟨_, rfl⟩
  by_cases hz0 : x0 < 0
  · have HX0 := Lib.hid hx0
    clear hx0
    go_enter Tryd.func8, Tryd.ntmps8
    go_wp2_with fail
    rw [← hy0]
    clear hy0
    refine (szExpr_any _ x 1048576 x0 _ (H0.out.since hs0) HL0.out (by decide) (by decide) HX0.out.symm).mono ?_
    rintro e wz0 ⟨rfl, hsz0⟩
    have hz00 := hs0.trans hsz0
    go_wp2
    go_ret
    exact ⟨rfl, hz00⟩
  have lx0 : 0 ≤ x0 ∧ x0 ≤ 1048576 := by rw [hx0]; rw [hx0] at hz0; exact (szX_small (x := x) (left := 1048576) (by decide) hz0).1
  have g10 : x.length ≤ 1048577 := by rw [hx0] at hz0; exact (szX_small (x := x) (left := 1048576) (by decide) hz0).2
  have HX0 := Lib.hid hx0
  clear hx0
  have HS : Hid (∀ V U W, ExC W V x → IntsAt W U z → Calls Tryd.prog 30 #[V, U] W (XBOut W ((derW x z).1) ((derW x z).2))) := fun V U W ka kb => specDW_any V U x z W ka g10 kb gz
  have HI : Hid (∀ V U W, Since w W → ExC W V x → IntsAt W U z → Calls Tryd.prog 29 #[V, U] W (XBOut W ((derW x z).1) ((derW x z).2))) := fun V U W hW ka kb => implDW_any V U x z W (HFRM.out.since hW) ka g10 kb gz
  have q0 : ((derW x z).1).length ≤ 2097160 := by have := derW_len x z; omega
  generalize (derW x z).1 = R at HS HI q0
  generalize (derW x z).2 = C at HS HI
  have eCC : (C != C) = false := by simp
  have qe0 : R.length ≤ 1152921504606846976 := by omega
  have qm0 : R.length ≤ 288230376151711744 := by omega
  have dRR : decide (R = R) = true := by simp
  obtain ⟨kr, hkr⟩ : ∃ kr : Int, kr = 1 + 4 * (R.length : Int) := ⟨_, rfl⟩
  have dkr : decide (kr < 0) = false := by simp; omega
  have ekr : (kr != kr) = false := by simp
  have HKR := Lib.hid hkr
  clear hkr
  obtain ⟨kx0, hkx0⟩ : ∃ kx : Int, kx = 1 + 4 * (x.length : Int) := ⟨_, rfl⟩
  have bk0 : 0 ≤ kx0 ∧ kx0 ≤ 10000000 := by omega
  obtain ⟨kx1, hkx1⟩ : ∃ kx : Int, kx = kx0 + (z.length : Int) := ⟨_, rfl⟩
  have bk1 : 0 ≤ kx1 ∧ kx1 ≤ 20000000 := by omega
  have dkx : decide (kx1 < 0) = false := by simp; omega
  have HKX0 := Lib.hid hkx0
  have HKX1 := Lib.hid hkx1
  clear hkx0 hkx1
  have dgg0 : decide (x = x) = true := by simp
  have dggz : decide (z = z) = true := by simp
  have g40 : x.length ≤ 1152921504606846976 := by omega
  have g60 : x.length ≤ 288230376151711744 := by omega
  have g4z : z.length ≤ 4611686018427387904 := by omega
  have g6z : z.length ≤ 2305843009213693952 := by omega
  go_enter Tryd.func8, Tryd.ntmps8
  go_wp2_with fail
  rw [← hy0]
  clear hy0
  refine (szExpr_any _ x 1048576 x0 _ (H0.out.since hs0) HL0.out (by decide) (by decide) HX0.out.symm).mono ?_
  rintro e wz0 ⟨rfl, hsz0⟩
  have F1 := Lib.hid (bx0.out.since hsz0)
  clear bx0
  have hs2 := hs0.trans hsz0
  have zhs2 := hsz0.size
  obtain ⟨p0, _⟩ := F1.out.one
  go_wp2_with fail
  clear p0
  refine (toExpr_any _ x _ (H0.out.since hs2) g10).mono ?_
  rintro e w3 ⟨va, rfl, hoa, hq4⟩
  have F5 := Lib.hid (F1.out.since hq4)
  clear F1
  have hs6 := hs2.trans hq4
  have zhs6 := hq4.size
  have F7 := Lib.hid hoa
  clear hoa
  go_wp2_with fail
  refine (toIntS_any _ z _ (HZ.out.since hs6) gz).mono ?_
  rintro e w8 ⟨vn, rfl, hon, hq9⟩
  have F10 := Lib.hid (F5.out.since hq9)
  clear F5
  have F11 := Lib.hid (F7.out.since hq9)
  clear F7
  have hs12 := hs6.trans hq9
  have zhs12 := hq9.size
  have F13 := Lib.hid hon
  clear hon
  go_wp2_with fail
  refine (HS.out _ _ _ F11.out.atC F13.out.at).mono ?_
  rintro e w14 ⟨vs3, rfl, hos, hq15⟩
  clear F11 F13
  have F16 := Lib.hid (F10.out.since hq15)
  clear F10
  have hs17 := hs12.trans hq15
  have zhs17 := hq15.size
  have F18 := Lib.hid hos
  obtain ⟨ss, rfl, sk, _⟩ := hos
  obtain ⟨so, sc, rfl⟩ := sk.len
  clear sk
  obtain ⟨y19, hy19⟩ : ∃ y, y = w14.alloc (.cells #[.slice so R.length sc] 26) := ⟨_, rfl⟩
  have ha20 : Since w14 y19 := by rw [hy19]; exact (Since.refl w14).alloc _
  have zby19 : w14.heap.size + 1 = y19.heap.size := by rw [hy19]; simp
  have B21 : Hid (Blk y19 w14.heap.size 26 #[.slice so R.length sc]) := by rw [hy19]; exact Blk.new rfl _ _
  have F22 := Lib.hid (F16.out.since ha20)
  clear F16
  have F23 := Lib.hid (F18.out.since ha20)
  clear F18
  have hs24 := hs17.trans ha20
  have zhs24 := ha20.size
  obtain ⟨p0, _⟩ := F22.out.one
  rw [hy19] at p0
  go_wp2_with fail
  rw [← hy19]
  clear hy19 p0
  refine (toExpr_any _ x _ (H0.out.since hs24) g10).mono ?_
  rintro e w25 ⟨vx, rfl, hox, hq26⟩
  have F27 := Lib.hid (F22.out.since hq26)
  clear F22
  have F28 := Lib.hid (F23.out.since hq26)
  clear F23
  have F29 := Lib.hid (B21.out.since hq26)
  clear B21
  have hs30 := hs24.trans hq26
  have zhs30 := hq26.size
  have F31 := Lib.hid hox
  obtain ⟨xs, rfl, xk, _⟩ := hox
  obtain ⟨xo, xc, rfl⟩ := xk.len
  clear xk
  obtain ⟨y32, hy32⟩ : ∃ y, y = w25.alloc (.cells #[.slice xo x.length xc] 26) := ⟨_, rfl⟩
  have ha33 : Since w25 y32 := by rw [hy32]; exact (Since.refl w25).alloc _
  have zby32 : w25.heap.size + 1 = y32.heap.size := by rw [hy32]; simp
  have B34 : Hid (Blk y32 w25.heap.size 26 #[.slice xo x.length xc]) := by rw [hy32]; exact Blk.new rfl _ _
  have F35 := Lib.hid (F27.out.since ha33)
  clear F27
  have F36 := Lib.hid (F28.out.since ha33)
  clear F28
  have F37 := Lib.hid (F29.out.since ha33)
  clear F29
  have F38 := Lib.hid (F31.out.since ha33)
  clear F31
  have hs39 := hs30.trans ha33
  have zhs39 := ha33.size
  go_wp2_with fail
  rw [← hy32]
  clear hy32 
  refine (toIntS_any _ z _ (HZ.out.since hs39) gz).mono ?_
  rintro e w40 ⟨vz, rfl, hoz, hq41⟩
  have F42 := Lib.hid (F35.out.since hq41)
  clear F35
  have F43 := Lib.hid (F36.out.since hq41)
  clear F36
  have F44 := Lib.hid (F37.out.since hq41)
  clear F37
  have F45 := Lib.hid (F38.out.since hq41)
  clear F38
  have F46 := Lib.hid (B34.out.since hq41)
  clear B34
  have hs47 := hs39.trans hq41
  have zhs47 := hq41.size
  have F48 := Lib.hid hoz
  have RZ : InR y32.heap.size w40.heap.size vz := hoz.inR
  clear hoz
  obtain ⟨p0, _⟩ := F46.out.one
  go_wp2_with fail
  clear p0
  refine (HI.out _ _ _ hs47 F45.out.atC F48.out.at).mono ?_
  rintro e w49 ⟨vg5, rfl, hog, hq50⟩
  have F51 := Lib.hid (F42.out.since hq50)
  clear F42
  have F52 := Lib.hid (F43.out.since hq50)
  clear F43
  have F53 := Lib.hid (F44.out.since hq50)
  clear F44
  have F54 := Lib.hid (F45.out.since hq50)
  clear F45
  have F55 := Lib.hid (F46.out.since hq50)
  clear F46
  have F56 := Lib.hid (F48.out.since hq50)
  clear F48
  have hs57 := hs47.trans hq50
  have zhs57 := hq50.size
  have F58 := Lib.hid hog
  obtain ⟨gs, rfl, gk, _⟩ := hog
  obtain ⟨go, gc, rfl⟩ := gk.len
  clear gk
  obtain ⟨y59, hy59⟩ : ∃ y, y = w49.alloc (.cells #[.slice go R.length gc] 26) := ⟨_, rfl⟩
  have ha60 : Since w49 y59 := by rw [hy59]; exact (Since.refl w49).alloc _
  have zby59 : w49.heap.size + 1 = y59.heap.size := by rw [hy59]; simp
  have B61 : Hid (Blk y59 w49.heap.size 26 #[.slice go R.length gc]) := by rw [hy59]; exact Blk.new rfl _ _
  have F62 := Lib.hid (F51.out.since ha60)
  clear F51
  have F63 := Lib.hid (F52.out.since ha60)
  clear F52
  have F64 := Lib.hid (F53.out.since ha60)
  clear F53
  have F65 := Lib.hid (F54.out.since ha60)
  clear F54
  have F66 := Lib.hid (F55.out.since ha60)
  clear F55
  have F67 := Lib.hid (F56.out.since ha60)
  clear F56
  have F68 := Lib.hid (F58.out.since ha60)
  clear F58
  have hs69 := hs57.trans ha60
  have zhs69 := ha60.size
  obtain ⟨p0, _⟩ := B61.out.one
  obtain ⟨p1, _⟩ := F64.out.one
  rw [hy59] at p0 p1
  go_wp2_with fail
  rw [← hy59]
  clear hy59 p0 p1
  refine (eqExpr_any _ _ R R _ F68.out.at F63.out.at qe0 qe0).mono ?_
  rintro e w70 ⟨rfl, hq71⟩
  have F72 := Lib.hid (F62.out.since hq71)
  clear F62
  have F73 := Lib.hid (F63.out.since hq71)
  clear F63
  have F74 := Lib.hid (F64.out.since hq71)
  clear F64
  have F75 := Lib.hid (F65.out.since hq71)
  clear F65
  have F76 := Lib.hid (F66.out.since hq71)
  clear F66
  have F77 := Lib.hid (F67.out.since hq71)
  clear F67
  have F78 := Lib.hid (F68.out.since hq71)
  clear F68
  have F79 := Lib.hid (B61.out.since hq71)
  clear B61
  have hs80 := hs69.trans hq71
  have zhs80 := hq71.size
  go_wp2_with fail
  have HKC : Hid (∀ w', Since w70 w' → w'.cell? ⟨w.heap.size, 0, none⟩ = some (.slice so0 p0 sc0) ∧ w'.cell? ⟨w25.heap.size, 0, none⟩ = some (.slice xo x.length xc)) := fun w' hs => ⟨(F72.out.since hs).one.1, (F76.out.since hs).one.1⟩
  refine wp_region_held_drew (S := (fun w' => w'.cell? ⟨w.heap.size, 0, none⟩ = some (.slice so0 p0 sc0) ∧ w'.cell? ⟨w25.heap.size, 0, none⟩ = some (.slice xo x.length xc))) (by kernel_rfl) (HKC.out _ (Since.refl _).drew) (fun hHeld => ?_)
  refine take_yes 0 (some 52) (v := ?_) rfl (by kernel_rfl) (by kernel_rfl) (by kernel_rfl) (by kernel_rfl) (fun _ _ _ h => h) (by rfl) (by assumption) ?_ ?_
  rotate_left
  · (intro w' hSw; (try dsimp only at hSw); go_simp; try with_reducible rfl)
  try simp only [Act.put, List.setIfInBounds_toArray, List.set_cons_zero, List.set_cons_succ]
  refine take_yes 1 (some 53) (v := ?_) rfl (by kernel_rfl) (by kernel_rfl) (by kernel_rfl) (by kernel_rfl) (fun _ _ _ h => h) (by rfl) (by assumption) ?_ ?_
  rotate_left
  · (intro w' hSw; (try dsimp only at hSw); go_simp; try with_reducible rfl)
  try simp only [Act.put, List.setIfInBounds_toArray, List.set_cons_zero, List.set_cons_succ]
  refine take_run 2 rfl (by kernel_rfl) (by rfl) (fun K hK => ?_)
  go_simp
  refine (toExpr_any _ x _ (H0.out.since hs80.drew) g10).mono ?_
  rintro e w81 ⟨va, rfl, hoa, hq82⟩
  have hc83 := Since.of_drew hq82
  refine hK.out _ _ (HKC.out _ hc83) (fun hHeld2 => ?_)
  clear hK K hHeld
  try simp only [Act.put, List.setIfInBounds_toArray, List.set_cons_zero, List.set_cons_succ]
  refine take_run 3 rfl (by kernel_rfl) (by rfl) (fun K hK => ?_)
  go_simp
  refine (eqExpr_any _ _ x x _ (F75.out.at.since hc83) hoa.at g40 g40).mono ?_
  rintro e w84 ⟨rfl, hq85⟩
  have hc86 := hc83.trans hq85
  refine hK.out _ _ (HKC.out _ hc86) (fun hHeld3 => ?_)
  clear hK K hHeld2
  try simp only [Act.put, List.setIfInBounds_toArray, List.set_cons_zero, List.set_cons_succ]
  refine take_yes 4 (some 56) (v := ?_) rfl (by kernel_rfl) (by kernel_rfl) (by kernel_rfl) (by kernel_rfl) (fun _ _ _ h => h) (by rfl) (by assumption) ?_ ?_
  rotate_left
  · (intro w' hSw; (try dsimp only at hSw); go_simp; try with_reducible rfl)
  try simp only [Act.put, List.setIfInBounds_toArray, List.set_cons_zero, List.set_cons_succ]
  refine wpAnyH_done (by kernel_rfl) ?_ _
  clear hHeld3 HKC hoa
  have F87 := Lib.hid (F72.out.since hc86)
  clear F72
  have F88 := Lib.hid (F73.out.since hc86)
  clear F73
  have F89 := Lib.hid (F74.out.since hc86)
  clear F74
  have F90 := Lib.hid (F75.out.since hc86)
  clear F75
  have F91 := Lib.hid (F76.out.since hc86)
  clear F76
  have F92 := Lib.hid (F77.out.since hc86)
  clear F77
  have F93 := Lib.hid (F78.out.since hc86)
  clear F78
  have F94 := Lib.hid (F79.out.since hc86)
  clear F79
  have hs95 := hs80.trans hc86
  have zhs95 := hc86.size
  go_wp2_with fail
  refine (toIntS_any _ z _ (HZ.out.since hs95) gz).mono ?_
  rintro e w96 ⟨vq, rfl, hoq, hq97⟩
  have F98 := Lib.hid (F87.out.since hq97)
  clear F87
  have F99 := Lib.hid (F88.out.since hq97)
  clear F88
  have F100 := Lib.hid (F89.out.since hq97)
  clear F89
  have F101 := Lib.hid (F90.out.since hq97)
  clear F90
  have F102 := Lib.hid (F91.out.since hq97)
  clear F91
  have F103 := Lib.hid (F92.out.since hq97)
  clear F92
  have F104 := Lib.hid (F93.out.since hq97)
  clear F93
  have F105 := Lib.hid (F94.out.since hq97)
  clear F94
  have hs106 := hs95.trans hq97
  have zhs106 := hq97.size
  have F107 := Lib.hid hoq
  clear hoq
  go_wp2_with fail
  refine (eqIntS_any _ _ z z _ F103.out.at F107.out.at g4z g4z).mono ?_
  rintro e w108 ⟨rfl, hq109⟩
  clear F107
  have F110 := Lib.hid (F98.out.since hq109)
  clear F98
  have F111 := Lib.hid (F99.out.since hq109)
  clear F99
  have F112 := Lib.hid (F100.out.since hq109)
  clear F100
  have F113 := Lib.hid (F101.out.since hq109)
  clear F101
  have F114 := Lib.hid (F102.out.since hq109)
  clear F102
  have F115 := Lib.hid (F103.out.since hq109)
  clear F103
  have F116 := Lib.hid (F104.out.since hq109)
  clear F104
  have F117 := Lib.hid (F105.out.since hq109)
  clear F105
  have hs118 := hs106.trans hq109
  have zhs118 := hq109.size
  obtain ⟨p0, _⟩ := F114.out.one
  go_wp2_with fail
  clear p0
  refine (markExpr_any y19.heap.size w25.heap.size _ x 1 _ F113.out (by decide) (by decide) g60).mono ?_
  rintro e w119 ⟨rfl, hmx, hw120⟩
  rw [← HKX0.out]
  clear hmx
  have F121 := Lib.hid (F110.out.within hw120 (by omega))
  clear F110
  have F122 := Lib.hid (F111.out.within hw120 (by omega))
  clear F111
  have F123 := Lib.hid (F112.out.within hw120 (by omega))
  clear F112
  clear F113
  have F124 := Lib.hid (F114.out.within hw120 (by omega))
  clear F114
  have F125 := Lib.hid (F115.out.within RZ hw120 (by omega))
  clear F115
  have F126 := Lib.hid (F116.out.within hw120 (by omega))
  clear F116
  have F127 := Lib.hid (F117.out.within hw120 (by omega))
  clear F117
  have hs128 := hs118.within (by omega) hw120
  have zhs128 := hw120.size
  go_wp2_with fail
  refine (markIntS_any y32.heap.size _ z kx0 _ F125.out bk0.1 (by omega) g6z).mono ?_
  rintro e w129 ⟨rfl, hmz, hg131⟩
  rw [← HKX1.out]
  clear hmz
  have hw130 : Within y32.heap.size w40.heap.size w119 w129 := Within.of_grown hg131 RZ
  clear hg131
  have F132 := Lib.hid (F121.out.within hw130 (by omega))
  clear F121
  have F133 := Lib.hid (F122.out.within hw130 (by omega))
  clear F122
  have F134 := Lib.hid (F123.out.within hw130 (by omega))
  clear F123
  have F135 := Lib.hid (F124.out.within hw130 (by omega))
  clear F124
  clear F125
  have F136 := Lib.hid (F126.out.within hw130 (by omega))
  clear F126
  have F137 := Lib.hid (F127.out.within hw130 (by omega))
  clear F127
  have hs138 := hs128.within (by omega) hw130
  have zhs138 := hw130.size
  clear F135
  obtain ⟨p0, _⟩ := F137.out.one
  obtain ⟨p1, _⟩ := F134.out.one
  go_wp2_with fail
  clear p0 p1
  refine (eqExpr_any _ _ R R _ F136.out.at F133.out.at qe0 qe0).mono ?_
  rintro e w139 ⟨rfl, hq140⟩
  have F141 := Lib.hid (F132.out.since hq140)
  clear F132
  have F142 := Lib.hid (F133.out.since hq140)
  clear F133
  have F143 := Lib.hid (F134.out.since hq140)
  clear F134
  have F144 := Lib.hid (F136.out.since hq140)
  clear F136
  have F145 := Lib.hid (F137.out.since hq140)
  clear F137
  have hs146 := hs138.trans hq140
  have zhs146 := hq140.size
  obtain ⟨p0, _⟩ := F145.out.one
  go_wp2_with fail
  clear p0
  refine (markExpr_any _ _ _ R 1 _ F144.out (by decide) (by decide) qm0).mono ?_
  rintro e w147 ⟨rfl, hmg, hw148⟩
  rw [← HKR.out]
  have HM := Lib.hid hmg
  clear hmg
  have F149 := Lib.hid (F141.out.within hw148 (by omega))
  clear F141
  have F150 := Lib.hid (F142.out.within hw148 (by omega))
  clear F142
  have F151 := Lib.hid (F143.out.within hw148 (by omega))
  clear F143
  clear F144
  have F152 := Lib.hid (F145.out.within hw148 (by omega))
  clear F145
  have hs153 := hs146.within (by omega) hw148
  have zhs153 := hw148.size
  obtain ⟨p0, _⟩ := F152.out.one
  go_wp2_with fail
  clear p0
  refine (heldExpr_any _ R 1 _ HM.out.at (by decide) (by decide) qm0).mono ?_
  rintro e w154 ⟨rfl, hq155⟩
  rw [← HKR.out]
  have F156 := Lib.hid (F149.out.since hq155)
  clear F149
  have F157 := Lib.hid (F150.out.since hq155)
  clear F150
  have F158 := Lib.hid (F151.out.since hq155)
  clear F151
  have F159 := Lib.hid (F152.out.since hq155)
  clear F152
  have F160 := Lib.hid (HM.out.since hq155)
  clear HM
  have hs161 := hs153.trans hq155
  have zhs161 := hq155.size
  obtain ⟨p0, _⟩ := F156.out.one
  go_wp2_with fail
  clear p0
  refine (toExpr_any _ x _ (H0.out.since hs161) g10).mono ?_
  rintro e w162 ⟨va, rfl, hoa, hq163⟩
  have F164 := Lib.hid (F156.out.since hq163)
  clear F156
  have F165 := Lib.hid (F157.out.since hq163)
  clear F157
  have F166 := Lib.hid (F158.out.since hq163)
  clear F158
  have F167 := Lib.hid (F159.out.since hq163)
  clear F159
  have F168 := Lib.hid (F160.out.since hq163)
  clear F160
  have hs169 := hs161.trans hq163
  have zhs169 := hq163.size
  have F170 := Lib.hid hoa
  clear hoa
  go_wp2_with fail
  refine (toIntS_any _ z _ (HZ.out.since hs169) gz).mono ?_
  rintro e w171 ⟨vn, rfl, hon, hq172⟩
  have F173 := Lib.hid (F164.out.since hq172)
  clear F164
  have F174 := Lib.hid (F165.out.since hq172)
  clear F165
  have F175 := Lib.hid (F166.out.since hq172)
  clear F166
  have F176 := Lib.hid (F167.out.since hq172)
  clear F167
  have F177 := Lib.hid (F168.out.since hq172)
  clear F168
  have F178 := Lib.hid (F170.out.since hq172)
  clear F170
  have hs179 := hs169.trans hq172
  have zhs179 := hq172.size
  have F180 := Lib.hid hon
  clear hon
  go_wp2_with fail
  refine (HI.out _ _ _ hs179 F178.out.atC F180.out.at).mono ?_
  rintro e w181 ⟨vh5, rfl, hoh, hq182⟩
  clear F178 F180
  have F183 := Lib.hid (F173.out.since hq182)
  clear F173
  have F184 := Lib.hid (F174.out.since hq182)
  clear F174
  have F185 := Lib.hid (F175.out.since hq182)
  clear F175
  have F186 := Lib.hid (F176.out.since hq182)
  clear F176
  have F187 := Lib.hid (F177.out.since hq182)
  clear F177
  have hs188 := hs179.trans hq182
  have zhs188 := hq182.size
  have F189 := Lib.hid hoh
  obtain ⟨hs, rfl, hk, _⟩ := hoh
  obtain ⟨ho, hc, rfl⟩ := hk.len
  clear hk
  obtain ⟨y190, hy190⟩ : ∃ y, y = w181.alloc (.cells #[.slice ho R.length hc] 26) := ⟨_, rfl⟩
  have ha191 : Since w181 y190 := by rw [hy190]; exact (Since.refl w181).alloc _
  have zby190 : w181.heap.size + 1 = y190.heap.size := by rw [hy190]; simp
  have B192 : Hid (Blk y190 w181.heap.size 26 #[.slice ho R.length hc]) := by rw [hy190]; exact Blk.new rfl _ _
  have F193 := Lib.hid (F183.out.since ha191)
  clear F183
  have F194 := Lib.hid (F184.out.since ha191)
  clear F184
  have F195 := Lib.hid (F185.out.since ha191)
  clear F185
  have F196 := Lib.hid (F186.out.since ha191)
  clear F186
  have F197 := Lib.hid (F187.out.since ha191)
  clear F187
  have F198 := Lib.hid (F189.out.since ha191)
  clear F189
  have hs199 := hs188.trans ha191
  have zhs199 := ha191.size
  obtain ⟨p0, _⟩ := B192.out.one
  obtain ⟨p1, _⟩ := F195.out.one
  rw [hy190] at p0 p1
  go_wp2_with fail
  rw [← hy190]
  clear hy190 p0 p1
  refine (eqExpr_any _ _ R R _ F198.out.at F194.out.at qe0 qe0).mono ?_
  rintro e w200 ⟨rfl, hq201⟩
  have F202 := Lib.hid (F193.out.since hq201)
  clear F193
  have F203 := Lib.hid (F194.out.since hq201)
  clear F194
  have F204 := Lib.hid (F195.out.since hq201)
  clear F195
  have F205 := Lib.hid (F196.out.since hq201)
  clear F196
  have F206 := Lib.hid (F197.out.since hq201)
  clear F197
  have F207 := Lib.hid (F198.out.since hq201)
  clear F198
  have F208 := Lib.hid (B192.out.since hq201)
  clear B192
  have hs209 := hs199.trans hq201
  have zhs209 := hq201.size
  obtain ⟨p0, _⟩ := F205.out.one
  go_wp2_with fail
  clear p0
  refine (heldExpr_any _ R 1 _ F206.out.at (by decide) (by decide) qm0).mono ?_
  rintro e w210 ⟨rfl, hq211⟩
  rw [← HKR.out]
  have F212 := Lib.hid (F202.out.since hq211)
  clear F202
  have F213 := Lib.hid (F203.out.since hq211)
  clear F203
  have F214 := Lib.hid (F204.out.since hq211)
  clear F204
  have F215 := Lib.hid (F205.out.since hq211)
  clear F205
  have F216 := Lib.hid (F206.out.since hq211)
  clear F206
  have F217 := Lib.hid (F207.out.since hq211)
  clear F207
  have F218 := Lib.hid (F208.out.since hq211)
  clear F208
  have hs219 := hs209.trans hq211
  have zhs219 := hq211.size
  go_wp2
  go_ret
  exact ⟨rfl, hs219⟩
end Go.Proofs.YtiojgahjfndmdaaDoor
