/- The law of ShortestAccepted, walked. -/
import Derived.Test.YtmaagihfjldgeaaA1
import Derived.Test.YtmaagihfjldgeaaSaI
import Derived.Test.YtmaagihfjldgeaaOpenI
import Derived.Test.YtmaagihfjldgeaaK1
namespace Go.Proofs.Ytmaagihfjldgeaa
set_option maxRecDepth 100000
open Go.ChangeShapes Go.WideShapes Go.ChangeAt Go.RowKit
set_option linter.unusedVariables false
set_option linter.unusedSimpArgs false

set_option maxHeartbeats 4000000 in
set_option maxRecDepth 100000 in
theorem fnExactShortestAccepted_walk (v0 : Value) (x : Aut) (w : World) (h0 : AutAt w v0 x) (hl0 : MxA x) :
    Calls Try.prog 14 #[v0] w fun e w' => e = .returned (.bool true) ∧ Since w w' := by
  have H0 := Lib.hid h0
  have HL0 := Lib.hid hl0
  obtain ⟨sa0, sb0, rfl, _, ha0, hb0⟩ := h0
  obtain ⟨so0, sc0, rfl⟩ := ha0.len
  obtain ⟨uo0, uc0, rfl⟩ := hb0.len
  clear ha0 hb0
  obtain ⟨pa0, hp0⟩ : ∃ n, n = x.ac.length := ⟨_, rfl⟩
  obtain ⟨qa0, hq0⟩ : ∃ m, m = x.nx.length := ⟨_, rfl⟩
  rw [← hp0, ← hq0] at H0 ⊢
  clear hp0 hq0 hl0
  obtain ⟨y0, hy0⟩ : ∃ y, y = (w.alloc (.cells #[.int .i64 x.st, .slice so0 pa0 sc0, .slice uo0 qa0 uc0] 58)) := ⟨_, rfl⟩
  have hs0 : Since w y0 := by rw [hy0]; exact (Since.refl w).alloc _
  have hz0 : w.heap.size + 1 = y0.heap.size := by rw [hy0]; simp
  have bx0 : Hid (Blk y0 (w.heap.size) 58 #[.int .i64 x.st, .slice so0 pa0 sc0, .slice uo0 qa0 uc0]) := by rw [hy0]; exact Blk.new (by simp) _ _
  obtain ⟨x0, hx0⟩ : ∃ zz, zz = szA x 1048576 := ⟨_, rfl⟩
  by_cases hz0 : x0 < 0
  · have HX0 := Lib.hid hx0
    clear hx0
    go_enter Try.func14, Try.ntmps14
    go_wp2_with fail
    rw [← hy0]
    clear hy0
    refine (szAu_is _ x 1048576 x0 _ (H0.out.since hs0) HL0.out (by decide) (by decide) HX0.out.symm).mono ?_
    rintro e wz0 ⟨rfl, hsz0⟩
    have hz00 := hs0.trans hsz0
    have hzz0 := hsz0.size
    have bz0_0 := Lib.hid (bx0.out.since hsz0)
    clear bx0
    clear hs0 hsz0
    go_wp2
    go_ret
    exact ⟨rfl, hz00⟩
  · have lx0 : 0 ≤ x0 ∧ x0 ≤ 1048576 := by rw [hx0]; rw [hx0] at hz0; exact (szA_smallB (A := x) (left := 1048576) (by decide) hz0).1
    have g10 : SmA x := by rw [hx0] at hz0; exact (szA_smallB (A := x) (left := 1048576) (by decide) hz0).2
    have HX0 := Lib.hid hx0
    clear hx0
    have HS : Hid (∀ V0 W, AutAt W V0 x → Calls Try.prog 67 #[V0] W ((IBOut W ((saA x).getD []) ((saA x).isSome)))) := fun V0 W k0 => specSA_any V0 x W k0 HL0.out
    have HI : Hid (∀ V0 W, AutAt W V0 x → Calls Try.prog 40 #[V0] W ((IBOut W ((saA x).getD []) ((saA x).isSome)))) := fun V0 W k0 => implSA_any V0 x W k0 HL0.out
    have q1 : ((saA x).getD []).length ≤ 2097160 := saA_len x
    generalize (saA x).getD [] = R at HS HI q1
    generalize (saA x).isSome = C at HS HI
    have eCC : (C != C) = false := by simp
    have q4 : R.length ≤ 4611686018427387904 := by omega
    have q6 : R.length ≤ 2305843009213693952 := by omega
    have dRR : decide (R = R) = true := by simp
    obtain ⟨kr, hkr⟩ : ∃ kr : Int, kr = 1 + (R.length : Int) := ⟨_, rfl⟩
    have dkr : decide (kr < 0) = false := by simp; omega
    have ekr : (kr != kr) = false := by simp
    have HKR := Lib.hid hkr
    clear hkr
    obtain ⟨kx0, hkx0⟩ : ∃ kx : Int, kx = 1 + szAu x := ⟨_, rfl⟩
    have bk0 : 0 ≤ kx0 ∧ kx0 ≤ 10000000 := by have := szAu_le g10; omega
    have dkx : decide (kx0 < 0) = false := by simp; omega
    have HKX0 := Lib.hid hkx0
    clear hkx0
    have dgg0 : decide (x = x) = true := by simp
    have g40 := g10.bg
    have g60 := g10.bg
    go_enter Try.func14, Try.ntmps14
    go_wp2_with fail
    rw [← hy0]
    clear hy0
    refine (szAu_is _ x 1048576 x0 _ (H0.out.since hs0) HL0.out (by decide) (by decide) HX0.out.symm).mono ?_
    rintro e wz0 ⟨rfl, hsz0⟩
    have hz00 := hs0.trans hsz0
    have hzz0 := hsz0.size
    have bz0_0 := Lib.hid (bx0.out.since hsz0)
    clear bx0
    clear hs0 hsz0
    obtain ⟨⟨p0, p1, p2⟩, _, _, _⟩ := bz0_0.out.threeA
    go_wp2_with fail
    clear p0 p1 p2
    refine (toAutomaton_any _ x _ (H0.out.since hz00) g10).mono ?_
    rintro e w1 ⟨va, rfl, hoa, hq2⟩
    have F3 := Lib.hid (bz0_0.out.since hq2)
    clear bz0_0
    have hs4 := hz00.trans hq2
    have zhs4 := hq2.size
    go_wp2_with fail
    refine (HS.out _ _ hoa.at).mono ?_
    rintro e w5 ⟨vs3, rfl, ho3, hq6⟩
    clear hoa
    have SR := Lib.hid ho3
    have RS : InR w1.heap.size w5.heap.size vs3 := ho3.inR
    clear ho3
    have F7 := Lib.hid (F3.out.since hq6)
    clear F3
    have hs8 := hs4.trans hq6
    have zhs8 := hq6.size
    obtain ⟨⟨p0, p1, p2⟩, _, _, _⟩ := F7.out.threeA
    go_wp2_with fail
    clear p0 p1 p2
    refine (toAutomaton_any _ x _ (H0.out.since hs8) g10).mono ?_
    rintro e w9 ⟨vx0, rfl, hox0, hq10⟩
    have XO0 := Lib.hid hox0
    obtain ⟨xa0, xb0, rfl, _, ka, _, kb⟩ := hox0
    obtain ⟨xso0, xsc0, rfl⟩ := ka.len
    obtain ⟨xuo0, xuc0, rfl⟩ := kb.len
    clear ka kb
    obtain ⟨y11, hy11⟩ : ∃ y, y = w9.alloc (.cells #[.int .i64 x.st, .slice xso0 x.ac.length xsc0, .slice xuo0 x.nx.length xuc0] 39) := ⟨_, rfl⟩
    have ha12 : Since w9 y11 := by rw [hy11]; exact (Since.refl w9).alloc _
    have zy0 : w9.heap.size + 1 = y11.heap.size := by rw [hy11]; simp
    have XB0 : Hid (Blk y11 w9.heap.size 39 #[.int .i64 x.st, .slice xso0 x.ac.length xsc0, .slice xuo0 x.nx.length xuc0]) := by rw [hy11]; exact Blk.new rfl _ _
    have XP0 := Lib.hid (XO0.out.since ha12)
    clear XO0
    have hc13 := hq10.trans ha12
    have zq0 := hq10.size
    have F14 := Lib.hid (F7.out.since hc13)
    clear F7
    have F15 := Lib.hid (SR.out.since hc13)
    clear SR
    have hs16 := hs8.trans hc13
    have zhs16 := hc13.size
    obtain ⟨⟨q00, q01, q02⟩, _, _, _⟩ := XB0.out.threeA
    rw [hy11] at q00 q01 q02
    go_wp2_with fail
    rw [← hy11]
    clear hy11 q00 q01 q02
    refine (HI.out _ _ XP0.out.at).mono ?_
    rintro e w17 ⟨vg5, rfl, ho5, hq18⟩
    have GO := Lib.hid ho5
    have RG : InR y11.heap.size w17.heap.size vg5 := ho5.inR
    clear ho5
    have F19 := Lib.hid (F14.out.since hq18)
    clear F14
    have F20 := Lib.hid (F15.out.since hq18)
    clear F15
    have F21 := Lib.hid (XP0.out.since hq18)
    clear XP0
    have F22 := Lib.hid (XB0.out.since hq18)
    clear XB0
    have hs23 := hs16.trans hq18
    have zhs23 := hq18.size
    go_wp2_with fail
    refine (eqIntS_any _ _ R R _ GO.out.at F20.out.at q4 q4).mono ?_
    rintro e w24 ⟨rfl, hq25⟩
    have F26 := Lib.hid (F19.out.since hq25)
    clear F19
    have F27 := Lib.hid (F20.out.since hq25)
    clear F20
    have F28 := Lib.hid (F21.out.since hq25)
    clear F21
    have F29 := Lib.hid (F22.out.since hq25)
    clear F22
    have F30 := Lib.hid (GO.out.since hq25)
    clear GO
    have hs31 := hs23.trans hq25
    have zhs31 := hq25.size
    go_wp2_with fail
    have HKC : Hid (∀ w', Since w24 w' → w'.cell? ⟨w.heap.size, 0, none⟩ = some (.int .i64 x.st) ∧ w'.cell? ⟨w.heap.size, 1, none⟩ = some (.slice so0 pa0 sc0) ∧ w'.cell? ⟨w.heap.size, 2, none⟩ = some (.slice uo0 qa0 uc0) ∧ w'.cell? ⟨w9.heap.size, 0, none⟩ = some (.int .i64 x.st) ∧ w'.cell? ⟨w9.heap.size, 1, none⟩ = some (.slice xso0 x.ac.length xsc0) ∧ w'.cell? ⟨w9.heap.size, 2, none⟩ = some (.slice xuo0 x.nx.length xuc0)) := by
      intro w' hs
      obtain ⟨⟨r00, r01, r02⟩, _, _, _⟩ := (F26.out.since hs).threeA
      obtain ⟨⟨r10, r11, r12⟩, _, _, _⟩ := (F29.out.since hs).threeA
      exact ⟨r00, r01, r02, r10, r11, r12⟩
    refine wp_region_held_drew (S := (fun w' => w'.cell? ⟨w.heap.size, 0, none⟩ = some (.int .i64 x.st) ∧ w'.cell? ⟨w.heap.size, 1, none⟩ = some (.slice so0 pa0 sc0) ∧ w'.cell? ⟨w.heap.size, 2, none⟩ = some (.slice uo0 qa0 uc0) ∧ w'.cell? ⟨w9.heap.size, 0, none⟩ = some (.int .i64 x.st) ∧ w'.cell? ⟨w9.heap.size, 1, none⟩ = some (.slice xso0 x.ac.length xsc0) ∧ w'.cell? ⟨w9.heap.size, 2, none⟩ = some (.slice xuo0 x.nx.length xuc0))) (by kernel_rfl) (HKC.out _ (Since.refl _).drew) (fun hHeld => ?_)
    refine take_yes 0 (some 41) (v := ?_) rfl (by kernel_rfl) (by kernel_rfl) (by kernel_rfl) (by kernel_rfl) (fun _ _ _ h => h) (by rfl) (by assumption) ?_ ?_
    rotate_left
    · (intro w' hSw; (try dsimp only at hSw); go_simp; try with_reducible rfl)
    try simp only [Act.put, List.setIfInBounds_toArray, List.set_cons_zero, List.set_cons_succ]
    refine take_yes 1 (some 42) (v := ?_) rfl (by kernel_rfl) (by kernel_rfl) (by kernel_rfl) (by kernel_rfl) (fun _ _ _ h => h) (by rfl) (by assumption) ?_ ?_
    rotate_left
    · (intro w' hSw; (try dsimp only at hSw); go_simp; try with_reducible rfl)
    try simp only [Act.put, List.setIfInBounds_toArray, List.set_cons_zero, List.set_cons_succ]
    refine take_run 2 rfl (by kernel_rfl) (by rfl) (fun K hK => ?_)
    go_simp
    refine (toAutomaton_any _ x _ (H0.out.since hs31.drew) g10).mono ?_
    rintro e w32 ⟨va, rfl, hoa, hq33⟩
    have hc34 := Since.of_drew hq33
    refine hK.out _ _ (HKC.out _ hc34) (fun hHeld2 => ?_)
    clear hK K hHeld
    try simp only [Act.put, List.setIfInBounds_toArray, List.set_cons_zero, List.set_cons_succ]
    refine take_run 3 rfl (by kernel_rfl) (by rfl) (fun K hK => ?_)
    go_simp
    refine (eqAutomaton_any _ _ x x _ (F28.out.at.since hc34) hoa.at g40 g40).mono ?_
    rintro e w35 ⟨rfl, hq36⟩
    have hc37 := hc34.trans hq36
    refine hK.out _ _ (HKC.out _ hc37) (fun hHeld3 => ?_)
    clear hK K hHeld2
    try simp only [Act.put, List.setIfInBounds_toArray, List.set_cons_zero, List.set_cons_succ]
    refine take_yes 4 (some 45) (v := ?_) rfl (by kernel_rfl) (by kernel_rfl) (by kernel_rfl) (by kernel_rfl) (fun _ _ _ h => h) (by rfl) (by assumption) ?_ ?_
    rotate_left
    · (intro w' hSw; (try dsimp only at hSw); go_simp; try with_reducible rfl)
    try simp only [Act.put, List.setIfInBounds_toArray, List.set_cons_zero, List.set_cons_succ]
    refine wpAnyH_done (by kernel_rfl) ?_ _
    clear hHeld3 HKC hoa
    have F38 := Lib.hid (F26.out.since hc37)
    clear F26
    have F39 := Lib.hid (F27.out.since hc37)
    clear F27
    have F40 := Lib.hid (F28.out.since hc37)
    clear F28
    have F41 := Lib.hid (F29.out.since hc37)
    clear F29
    have F42 := Lib.hid (F30.out.since hc37)
    clear F30
    have hs43 := hs31.trans hc37
    have zhs43 := hc37.size
    obtain ⟨⟨r0, r1, r2⟩, _, _, _⟩ := F41.out.threeA
    go_wp2_with fail
    clear r0 r1 r2
    refine (markAutomaton_any w5.heap.size w9.heap.size _ x 1 _ F40.out (by omega) (by decide) (by decide) g60).mono ?_
    rintro e w44 ⟨rfl, hmx0, hw45⟩
    rw [← HKX0.out]
    clear hmx0
    clear F40
    have F46 := Lib.hid (F38.out.within hw45 (by omega))
    clear F38
    have F47 := Lib.hid (F39.out.within RS hw45 (by omega))
    clear F39
    have F48 := Lib.hid (F41.out.within hw45 (by omega))
    clear F41
    have F49 := Lib.hid (F42.out.within RG hw45 (by omega))
    clear F42
    have hs50 := hs43.within (by omega) hw45
    have zhs50 := hw45.size
    clear F48
    go_wp2_with fail
    refine (eqIntS_any _ _ R R _ F49.out.at F47.out.at q4 q4).mono ?_
    rintro e w51 ⟨rfl, hq52⟩
    have F53 := Lib.hid (F46.out.since hq52)
    clear F46
    have F54 := Lib.hid (F47.out.since hq52)
    clear F47
    have F55 := Lib.hid (F49.out.since hq52)
    clear F49
    have hs56 := hs50.trans hq52
    have zhs56 := hq52.size
    go_wp2_with fail
    refine (markIntS_any y11.heap.size _ R 1 _ F55.out (by decide) (by decide) q6).mono ?_
    rintro e w57 ⟨rfl, hmg, hgr⟩
    rw [← HKR.out]
    have hw58 : Within y11.heap.size w17.heap.size w51 w57 := Within.of_grown hgr RG
    have HM := Lib.hid hmg
    clear hmg hgr
    clear F55
    have F59 := Lib.hid (F53.out.within hw58 (by omega))
    clear F53
    have F60 := Lib.hid (F54.out.within RS hw58 (by omega))
    clear F54
    have hs61 := hs56.within (by omega) hw58
    have zhs61 := hw58.size
    go_wp2_with fail
    refine (heldIntS_any _ 1 R.length _ HM.out.at (by decide) (by decide) q6).mono ?_
    rintro e w62 ⟨rfl, rfl⟩
    rw [← HKR.out]
    obtain ⟨⟨p0, p1, p2⟩, _, _, _⟩ := F59.out.threeA
    go_wp2_with fail
    clear p0 p1 p2
    refine (toAutomaton_any _ x _ (H0.out.since hs61) g10).mono ?_
    rintro e w63 ⟨va, rfl, hoa, hq64⟩
    have F65 := Lib.hid (F59.out.since hq64)
    clear F59
    have F66 := Lib.hid (F60.out.since hq64)
    clear F60
    have F67 := Lib.hid (HM.out.since hq64)
    clear HM
    have hs68 := hs61.trans hq64
    have zhs68 := hq64.size
    go_wp2_with fail
    refine (HI.out _ _ hoa.at).mono ?_
    rintro e w69 ⟨vs4, rfl, ho3, hq70⟩
    clear hoa
    have HO := Lib.hid ho3.at
    clear ho3
    have F71 := Lib.hid (F65.out.since hq70)
    clear F65
    have F72 := Lib.hid (F66.out.since hq70)
    clear F66
    have F73 := Lib.hid (F67.out.since hq70)
    clear F67
    have hs74 := hs68.trans hq70
    have zhs74 := hq70.size
    go_wp2_with fail
    refine (eqIntS_any _ _ R R _ HO.out F72.out.at q4 q4).mono ?_
    rintro e w75 ⟨rfl, hq76⟩
    clear F72
    clear HO
    have F77 := Lib.hid (F71.out.since hq76)
    clear F71
    have F78 := Lib.hid (F73.out.since hq76)
    clear F73
    have hs79 := hs74.trans hq76
    have zhs79 := hq76.size
    go_wp2_with fail
    refine (heldIntS_any _ 1 R.length _ F78.out.at (by decide) (by decide) q6).mono ?_
    rintro e w80 ⟨rfl, rfl⟩
    rw [← HKR.out]
    go_wp2
    go_ret
    exact ⟨rfl, hs79⟩
end Go.Proofs.Ytmaagihfjldgeaa
