/- The law of MissingWord, walked. -/
import Derived.Test.YtmaagihfjldgeaaA1
import Derived.Test.YtmaagihfjldgeaaMsI
import Derived.Test.YtmaagihfjldgeaaOpenI
import Derived.Test.YtmaagihfjldgeaaK1
namespace Go.Proofs.Ytmaagihfjldgeaa
set_option maxRecDepth 100000
open Go.ChangeShapes Go.WideShapes Go.ChangeAt Go.RowKit
set_option linter.unusedVariables false
set_option linter.unusedSimpArgs false

set_option maxHeartbeats 20000000 in
set_option maxRecDepth 100000 in
theorem fnExactMissingWord_walk (v0 : Value) (v1 : Value) (x : Aut) (z : Aut) (w : World) (h0 : AutAt w v0 x) (h1 : AutAt w v1 z) (hl0 : MxA x) (hl1 : MxA z) :
    Calls Try.prog 15 #[v0, v1] w fun e w' => e = .returned (.bool true) ∧ Since w w' := by
  have H0 := Lib.hid h0
  have HL0 := Lib.hid hl0
  obtain ⟨sa0, sb0, rfl, _, ha0, hb0⟩ := h0
  obtain ⟨so0, sc0, rfl⟩ := ha0.len
  obtain ⟨uo0, uc0, rfl⟩ := hb0.len
  clear ha0 hb0
  obtain ⟨pa0, hp0⟩ : ∃ n, n = x.ac.length := ⟨_, rfl⟩
  obtain ⟨qa0, hq0⟩ : ∃ m, m = x.nx.length := ⟨_, rfl⟩
  rw [← hp0, ← hq0] at H0 ⊢
  clear hp0 hq0 hl0
  have H1 := Lib.hid h1
  have HL1 := Lib.hid hl1
  obtain ⟨sa1, sb1, rfl, _, ha1, hb1⟩ := h1
  obtain ⟨so1, sc1, rfl⟩ := ha1.len
  obtain ⟨uo1, uc1, rfl⟩ := hb1.len
  clear ha1 hb1
  obtain ⟨pa1, hp1⟩ : ∃ n, n = z.ac.length := ⟨_, rfl⟩
  obtain ⟨qa1, hq1⟩ : ∃ m, m = z.nx.length := ⟨_, rfl⟩
  rw [← hp1, ← hq1] at H1 ⊢
  clear hp1 hq1 hl1
  obtain ⟨y0, hy0⟩ : ∃ y, y = ((w.alloc (.cells #[.int .i64 x.st, .slice so0 pa0 sc0, .slice uo0 qa0 uc0] 58)).alloc (.cells #[.int .i64 z.st, .slice so1 pa1 sc1, .slice uo1 qa1 uc1] 58)) := ⟨_, rfl⟩
  have hs0 : Since w y0 := by rw [hy0]; exact ((Since.refl w).alloc _).alloc _
  have hz0 : w.heap.size + 2 = y0.heap.size := by rw [hy0]; simp
  have bx0 : Hid (Blk y0 (w.heap.size) 58 #[.int .i64 x.st, .slice so0 pa0 sc0, .slice uo0 qa0 uc0]) := by rw [hy0]; exact (Blk.new (by simp) _ _).alloc _
  have bx1 : Hid (Blk y0 (w.heap.size + 1) 58 #[.int .i64 z.st, .slice so1 pa1 sc1, .slice uo1 qa1 uc1]) := by rw [hy0]; exact Blk.new (by simp) _ _
  obtain ⟨x0, hx0⟩ : ∃ zz, zz = szA x 1048576 := ⟨_, rfl⟩
  by_cases hz0 : x0 < 0
  · have HX0 := Lib.hid hx0
    clear hx0
    go_enter Try.func15, Try.ntmps15
    go_wp2_with fail
    rw [← hy0]
    clear hy0
    refine (szAu_is _ x 1048576 x0 _ (H0.out.since hs0) HL0.out (by decide) (by decide) HX0.out.symm).mono ?_
    rintro e wz0 ⟨rfl, hsz0⟩
    have hz00 := hs0.trans hsz0
    have hzz0 := hsz0.size
    have bz0_0 := Lib.hid (bx0.out.since hsz0)
    clear bx0
    have bz0_1 := Lib.hid (bx1.out.since hsz0)
    clear bx1
    clear hs0 hsz0
    go_wp2
    go_ret
    exact ⟨rfl, hz00⟩
  · have lx0 : 0 ≤ x0 ∧ x0 ≤ 1048576 := by rw [hx0]; rw [hx0] at hz0; exact (szA_smallB (A := x) (left := 1048576) (by decide) hz0).1
    have g10 : SmA x := by rw [hx0] at hz0; exact (szA_smallB (A := x) (left := 1048576) (by decide) hz0).2
    have HX0 := Lib.hid hx0
    clear hx0
    obtain ⟨x1, hx1⟩ : ∃ zz, zz = szA z x0 := ⟨_, rfl⟩
    by_cases hz1 : x1 < 0
    · have HX1 := Lib.hid hx1
      clear hx1
      go_enter Try.func15, Try.ntmps15
      go_wp2_with fail
      rw [← hy0]
      clear hy0
      refine (szAu_is _ x 1048576 x0 _ (H0.out.since hs0) HL0.out (by decide) (by decide) HX0.out.symm).mono ?_
      rintro e wz0 ⟨rfl, hsz0⟩
      have hz00 := hs0.trans hsz0
      have hzz0 := hsz0.size
      have bz0_0 := Lib.hid (bx0.out.since hsz0)
      clear bx0
      have bz0_1 := Lib.hid (bx1.out.since hsz0)
      clear bx1
      clear hs0 hsz0
      obtain ⟨⟨p0, p1, p2⟩, _, _, _⟩ := bz0_1.out.threeA
      go_wp2_with fail
      clear p0 p1 p2
      refine (szAu_is _ z x0 x1 _ (H1.out.since hz00) HL1.out lx0.1 lx0.2 HX1.out.symm).mono ?_
      rintro e wz1 ⟨rfl, hsz1⟩
      have hz01 := hz00.trans hsz1
      have hzz1 := hsz1.size
      have bz1_0 := Lib.hid (bz0_0.out.since hsz1)
      clear bz0_0
      have bz1_1 := Lib.hid (bz0_1.out.since hsz1)
      clear bz0_1
      clear hz00 hsz1
      go_wp2
      go_ret
      exact ⟨rfl, hz01⟩
    · have lx1 : 0 ≤ x1 ∧ x1 ≤ 1048576 := by rw [hx1]; rw [hx1] at hz1; exact (szA_smallB (A := z) (left := x0) lx0.2 hz1).1
      have g11 : SmA z := by rw [hx1] at hz1; exact (szA_smallB (A := z) (left := x0) lx0.2 hz1).2
      have HX1 := Lib.hid hx1
      clear hx1
      have HS : Hid (∀ V0 V1 W, AutAt W V0 x → AutAt W V1 z → Calls Try.prog 38 #[V0, V1] W ((IBOut W ((msA x z).getD []) ((msA x z).isSome)))) := fun V0 V1 W k0 k1 => specMG_any V0 V1 x z W k0 k1 HL0.out HL1.out
      have HI : Hid (∀ V0 V1 W, AutAt W V0 x → AutAt W V1 z → Calls Try.prog 37 #[V0, V1] W ((IBOut W ((msA x z).getD []) ((msA x z).isSome)))) := fun V0 V1 W k0 k1 => implMG_any V0 V1 x z W k0 k1 HL0.out HL1.out
      have q1 : ((msA x z).getD []).length ≤ 2097160 := msA_len x z
      generalize (msA x z).getD [] = R at HS HI q1
      generalize (msA x z).isSome = C at HS HI
      have eCC : (C != C) = false := by simp
      have q4 : R.length ≤ 4611686018427387904 := by omega
      have q6 : R.length ≤ 2305843009213693952 := by omega
      have dRR : decide (R = R) = true := by simp
      obtain ⟨kr, hkr⟩ : ∃ kr : Int, kr = 1 + (R.length : Int) := ⟨_, rfl⟩
      have dkr : decide (kr < 0) = false := by simp; omega
      have ekr : (kr != kr) = false := by simp
      have HKR := Lib.hid hkr
      clear hkr
      obtain ⟨kx0, hkx0⟩ : ∃ kx : Int, kx = 1 + szAu x := ⟨_, rfl⟩
      have bk0 : 0 ≤ kx0 ∧ kx0 ≤ 10000000 := by have := szAu_le g10; omega
      obtain ⟨kx1, hkx1⟩ : ∃ kx : Int, kx = kx0 + szAu z := ⟨_, rfl⟩
      have bk1 : 0 ≤ kx1 ∧ kx1 ≤ 20000000 := by have := szAu_le g11; omega
      have dkx : decide (kx1 < 0) = false := by simp; omega
      have HKX0 := Lib.hid hkx0
      clear hkx0
      have HKX1 := Lib.hid hkx1
      clear hkx1
      have dgg0 : decide (x = x) = true := by simp
      have g40 := g10.bg
      have g60 := g10.bg
      have dgg1 : decide (z = z) = true := by simp
      have g41 := g11.bg
      have g61 := g11.bg
      go_enter Try.func15, Try.ntmps15
      go_wp2_with fail
      rw [← hy0]
      clear hy0
      refine (szAu_is _ x 1048576 x0 _ (H0.out.since hs0) HL0.out (by decide) (by decide) HX0.out.symm).mono ?_
      rintro e wz0 ⟨rfl, hsz0⟩
      have hz00 := hs0.trans hsz0
      have hzz0 := hsz0.size
      have bz0_0 := Lib.hid (bx0.out.since hsz0)
      clear bx0
      have bz0_1 := Lib.hid (bx1.out.since hsz0)
      clear bx1
      clear hs0 hsz0
      obtain ⟨⟨p0, p1, p2⟩, _, _, _⟩ := bz0_1.out.threeA
      go_wp2_with fail
      clear p0 p1 p2
      refine (szAu_is _ z x0 x1 _ (H1.out.since hz00) HL1.out lx0.1 lx0.2 HX1.out.symm).mono ?_
      rintro e wz1 ⟨rfl, hsz1⟩
      have hz01 := hz00.trans hsz1
      have hzz1 := hsz1.size
      have bz1_0 := Lib.hid (bz0_0.out.since hsz1)
      clear bz0_0
      have bz1_1 := Lib.hid (bz0_1.out.since hsz1)
      clear bz0_1
      clear hz00 hsz1
      go_wp2_with fail
      have HKC : Hid (∀ w', Since wz1 w' → w'.cell? ⟨w.heap.size, 0, none⟩ = some (.int .i64 x.st) ∧ w'.cell? ⟨w.heap.size, 1, none⟩ = some (.slice so0 pa0 sc0) ∧ w'.cell? ⟨w.heap.size, 2, none⟩ = some (.slice uo0 qa0 uc0) ∧ w'.cell? ⟨w.heap.size + 1, 0, none⟩ = some (.int .i64 z.st) ∧ w'.cell? ⟨w.heap.size + 1, 1, none⟩ = some (.slice so1 pa1 sc1) ∧ w'.cell? ⟨w.heap.size + 1, 2, none⟩ = some (.slice uo1 qa1 uc1)) := by
        intro w' hs
        obtain ⟨⟨r00, r01, r02⟩, _, _, _⟩ := (bz1_0.out.since hs).threeA
        obtain ⟨⟨r10, r11, r12⟩, _, _, _⟩ := (bz1_1.out.since hs).threeA
        exact ⟨r00, r01, r02, r10, r11, r12⟩
      refine wp_region_held_drew (S := (fun w' => w'.cell? ⟨w.heap.size, 0, none⟩ = some (.int .i64 x.st) ∧ w'.cell? ⟨w.heap.size, 1, none⟩ = some (.slice so0 pa0 sc0) ∧ w'.cell? ⟨w.heap.size, 2, none⟩ = some (.slice uo0 qa0 uc0) ∧ w'.cell? ⟨w.heap.size + 1, 0, none⟩ = some (.int .i64 z.st) ∧ w'.cell? ⟨w.heap.size + 1, 1, none⟩ = some (.slice so1 pa1 sc1) ∧ w'.cell? ⟨w.heap.size + 1, 2, none⟩ = some (.slice uo1 qa1 uc1))) (by kernel_rfl) (HKC.out _ (Since.refl _).drew) (fun hHeld => ?_)
      refine take_yes 0 (some 28) (v := ?_) rfl (by kernel_rfl) (by kernel_rfl) (by kernel_rfl) (by kernel_rfl) (fun _ _ _ h => h) (by rfl) (by assumption) ?_ ?_
      rotate_left
      · (intro w' hSw; (try dsimp only at hSw); go_simp; try with_reducible rfl)
      try simp only [Act.put, List.setIfInBounds_toArray, List.set_cons_zero, List.set_cons_succ]
      refine take_yes 2 (some 30) (v := ?_) rfl (by kernel_rfl) (by kernel_rfl) (by kernel_rfl) (by kernel_rfl) (fun _ _ _ h => h) (by rfl) (by assumption) ?_ ?_
      rotate_left
      · (intro w' hSw; (try dsimp only at hSw); go_simp; try with_reducible rfl)
      try simp only [Act.put, List.setIfInBounds_toArray, List.set_cons_zero, List.set_cons_succ]
      refine take_run 1 rfl (by kernel_rfl) (by rfl) (fun K hK => ?_)
      go_simp
      refine (toAutomaton_any _ x _ (H0.out.since hz01.drew) g10).mono ?_
      rintro e w1 ⟨va0, rfl, hoa0, hq2⟩
      have hc3 := Since.of_drew hq2
      refine hK.out _ _ (HKC.out _ hc3) (fun hHeld4 => ?_)
      clear hK K hHeld
      try simp only [Act.put, List.setIfInBounds_toArray, List.set_cons_zero, List.set_cons_succ]
      refine take_run 3 rfl (by kernel_rfl) (by rfl) (fun K hK => ?_)
      go_simp
      refine (toAutomaton_any _ z _ (H1.out.since (hz01.trans hc3)) g11).mono ?_
      rintro e w5 ⟨va1, rfl, hoa1, hq6⟩
      have hc7 := hc3.trans hq6
      replace hoa0 := hoa0.since hq6
      refine hK.out _ _ (HKC.out _ hc7) (fun hHeld8 => ?_)
      clear hK K hHeld4
      try simp only [Act.put, List.setIfInBounds_toArray, List.set_cons_zero, List.set_cons_succ]
      refine take_run 4 rfl (by kernel_rfl) (by rfl) (fun K hK => ?_)
      go_simp
      refine (HS.out _ _ _ hoa0.at hoa1.at).mono ?_
      rintro e w9 ⟨vs3, rfl, ho3, hq10⟩
      have hc11 := hc7.trans hq10
      refine hK.out _ _ (HKC.out _ hc11) (fun hHeld12 => ?_)
      clear hK K hHeld8
      try simp only [Act.put, List.setIfInBounds_toArray, List.set_cons_zero, List.set_cons_succ]
      refine take_yes 5 (some 27) (v := ?_) rfl (by kernel_rfl) (by kernel_rfl) (by kernel_rfl) (by kernel_rfl) (fun _ _ _ h => h) (by rfl) (by assumption) ?_ ?_
      rotate_left
      · (intro w' hSw; (try dsimp only at hSw); go_simp; try with_reducible rfl)
      try simp only [Act.put, List.setIfInBounds_toArray, List.set_cons_zero, List.set_cons_succ]
      refine take_yes 6 (some 33) (v := ?_) rfl (by kernel_rfl) (by kernel_rfl) (by kernel_rfl) (by kernel_rfl) (fun _ _ _ h => h) (by rfl) (by assumption) ?_ ?_
      rotate_left
      · (intro w' hSw; (try dsimp only at hSw); go_simp; try with_reducible rfl)
      try simp only [Act.put, List.setIfInBounds_toArray, List.set_cons_zero, List.set_cons_succ]
      refine take_yes 7 (some 34) (v := ?_) rfl (by kernel_rfl) (by kernel_rfl) (by kernel_rfl) (by kernel_rfl) (fun _ _ _ h => h) (by rfl) (by assumption) ?_ ?_
      rotate_left
      · (intro w' hSw; (try dsimp only at hSw); go_simp; try with_reducible rfl)
      try simp only [Act.put, List.setIfInBounds_toArray, List.set_cons_zero, List.set_cons_succ]
      refine take_yes 8 (some 6) (v := ?_) rfl (by kernel_rfl) (by kernel_rfl) (by kernel_rfl) (by kernel_rfl) (fun _ _ _ h => h) (by rfl) (by assumption) ?_ ?_
      rotate_left
      · (intro w' hSw; (try dsimp only at hSw); go_simp; try with_reducible rfl)
      try simp only [Act.put, List.setIfInBounds_toArray, List.set_cons_zero, List.set_cons_succ]
      refine take_yes 9 (some 7) (v := ?_) rfl (by kernel_rfl) (by kernel_rfl) (by kernel_rfl) (by kernel_rfl) (fun _ _ _ h => h) (by rfl) (by assumption) ?_ ?_
      rotate_left
      · (intro w' hSw; (try dsimp only at hSw); go_simp; try with_reducible rfl)
      try simp only [Act.put, List.setIfInBounds_toArray, List.set_cons_zero, List.set_cons_succ]
      refine wpAnyH_done (by kernel_rfl) ?_ _
      clear hHeld12 HKC hoa0 hoa1
      have zzw9 := hc7.size
      have SR := Lib.hid ho3
      have RS : InR w5.heap.size w9.heap.size vs3 := ho3.inR
      clear ho3
      have F13 := Lib.hid (bz1_0.out.since hc11)
      clear bz1_0
      have F14 := Lib.hid (bz1_1.out.since hc11)
      clear bz1_1
      have hs15 := hz01.trans hc11
      have zhs15 := hc11.size
      obtain ⟨⟨p0, p1, p2⟩, _, _, _⟩ := F13.out.threeA
      go_wp2_with fail
      clear p0 p1 p2
      refine (toAutomaton_any _ x _ (H0.out.since hs15) g10).mono ?_
      rintro e w16 ⟨vx0, rfl, hox0, hq17⟩
      have XO0 := Lib.hid hox0
      obtain ⟨xa0, xb0, rfl, _, ka, _, kb⟩ := hox0
      obtain ⟨xso0, xsc0, rfl⟩ := ka.len
      obtain ⟨xuo0, xuc0, rfl⟩ := kb.len
      clear ka kb
      obtain ⟨y18, hy18⟩ : ∃ y, y = w16.alloc (.cells #[.int .i64 x.st, .slice xso0 x.ac.length xsc0, .slice xuo0 x.nx.length xuc0] 39) := ⟨_, rfl⟩
      have ha19 : Since w16 y18 := by rw [hy18]; exact (Since.refl w16).alloc _
      have zy0 : w16.heap.size + 1 = y18.heap.size := by rw [hy18]; simp
      have XB0 : Hid (Blk y18 w16.heap.size 39 #[.int .i64 x.st, .slice xso0 x.ac.length xsc0, .slice xuo0 x.nx.length xuc0]) := by rw [hy18]; exact Blk.new rfl _ _
      have XP0 := Lib.hid (XO0.out.since ha19)
      clear XO0
      have hc20 := hq17.trans ha19
      have zq0 := hq17.size
      have F21 := Lib.hid (F13.out.since hc20)
      clear F13
      have F22 := Lib.hid (F14.out.since hc20)
      clear F14
      have F23 := Lib.hid (SR.out.since hc20)
      clear SR
      have hs24 := hs15.trans hc20
      have zhs24 := hc20.size
      obtain ⟨⟨p0, p1, p2⟩, _, _, _⟩ := F22.out.threeA
      rw [hy18] at p0 p1 p2
      go_wp2_with fail
      clear p0 p1 p2
      rw [← hy18]
      clear hy18
      refine (toAutomaton_any _ z _ (H1.out.since hs24) g11).mono ?_
      rintro e w25 ⟨vx1, rfl, hox1, hq26⟩
      have XO1 := Lib.hid hox1
      obtain ⟨xa1, xb1, rfl, _, ka, _, kb⟩ := hox1
      obtain ⟨xso1, xsc1, rfl⟩ := ka.len
      obtain ⟨xuo1, xuc1, rfl⟩ := kb.len
      clear ka kb
      obtain ⟨y27, hy27⟩ : ∃ y, y = w25.alloc (.cells #[.int .i64 z.st, .slice xso1 z.ac.length xsc1, .slice xuo1 z.nx.length xuc1] 39) := ⟨_, rfl⟩
      have ha28 : Since w25 y27 := by rw [hy27]; exact (Since.refl w25).alloc _
      have zy1 : w25.heap.size + 1 = y27.heap.size := by rw [hy27]; simp
      have XB1 : Hid (Blk y27 w25.heap.size 39 #[.int .i64 z.st, .slice xso1 z.ac.length xsc1, .slice xuo1 z.nx.length xuc1]) := by rw [hy27]; exact Blk.new rfl _ _
      have XP1 := Lib.hid (XO1.out.since ha28)
      clear XO1
      have hc29 := hq26.trans ha28
      have zq1 := hq26.size
      have F30 := Lib.hid (F21.out.since hc29)
      clear F21
      have F31 := Lib.hid (F22.out.since hc29)
      clear F22
      have F32 := Lib.hid (F23.out.since hc29)
      clear F23
      have F33 := Lib.hid (XP0.out.since hc29)
      clear XP0
      have F34 := Lib.hid (XB0.out.since hc29)
      clear XB0
      have hs35 := hs24.trans hc29
      have zhs35 := hc29.size
      obtain ⟨⟨q00, q01, q02⟩, _, _, _⟩ := F34.out.threeA
      obtain ⟨⟨q10, q11, q12⟩, _, _, _⟩ := XB1.out.threeA
      rw [hy27] at q00 q01 q02 q10 q11 q12
      go_wp2_with fail
      rw [← hy27]
      clear hy27 q00 q01 q02 q10 q11 q12
      refine (HI.out _ _ _ F33.out.at XP1.out.at).mono ?_
      rintro e w36 ⟨vg5, rfl, ho5, hq37⟩
      have GO := Lib.hid ho5
      have RG : InR y27.heap.size w36.heap.size vg5 := ho5.inR
      clear ho5
      have F38 := Lib.hid (F30.out.since hq37)
      clear F30
      have F39 := Lib.hid (F31.out.since hq37)
      clear F31
      have F40 := Lib.hid (F32.out.since hq37)
      clear F32
      have F41 := Lib.hid (F33.out.since hq37)
      clear F33
      have F42 := Lib.hid (F34.out.since hq37)
      clear F34
      have F43 := Lib.hid (XP1.out.since hq37)
      clear XP1
      have F44 := Lib.hid (XB1.out.since hq37)
      clear XB1
      have hs45 := hs35.trans hq37
      have zhs45 := hq37.size
      go_wp2_with fail
      refine (eqIntS_any _ _ R R _ GO.out.at F40.out.at q4 q4).mono ?_
      rintro e w46 ⟨rfl, hq47⟩
      have F48 := Lib.hid (F38.out.since hq47)
      clear F38
      have F49 := Lib.hid (F39.out.since hq47)
      clear F39
      have F50 := Lib.hid (F40.out.since hq47)
      clear F40
      have F51 := Lib.hid (F41.out.since hq47)
      clear F41
      have F52 := Lib.hid (F42.out.since hq47)
      clear F42
      have F53 := Lib.hid (F43.out.since hq47)
      clear F43
      have F54 := Lib.hid (F44.out.since hq47)
      clear F44
      have F55 := Lib.hid (GO.out.since hq47)
      clear GO
      have hs56 := hs45.trans hq47
      have zhs56 := hq47.size
      go_wp2_with fail
      have HKC : Hid (∀ w', Since w46 w' → w'.cell? ⟨w.heap.size, 0, none⟩ = some (.int .i64 x.st) ∧ w'.cell? ⟨w.heap.size, 1, none⟩ = some (.slice so0 pa0 sc0) ∧ w'.cell? ⟨w.heap.size, 2, none⟩ = some (.slice uo0 qa0 uc0) ∧ w'.cell? ⟨w.heap.size + 1, 0, none⟩ = some (.int .i64 z.st) ∧ w'.cell? ⟨w.heap.size + 1, 1, none⟩ = some (.slice so1 pa1 sc1) ∧ w'.cell? ⟨w.heap.size + 1, 2, none⟩ = some (.slice uo1 qa1 uc1) ∧ w'.cell? ⟨w16.heap.size, 0, none⟩ = some (.int .i64 x.st) ∧ w'.cell? ⟨w16.heap.size, 1, none⟩ = some (.slice xso0 x.ac.length xsc0) ∧ w'.cell? ⟨w16.heap.size, 2, none⟩ = some (.slice xuo0 x.nx.length xuc0) ∧ w'.cell? ⟨w25.heap.size, 0, none⟩ = some (.int .i64 z.st) ∧ w'.cell? ⟨w25.heap.size, 1, none⟩ = some (.slice xso1 z.ac.length xsc1) ∧ w'.cell? ⟨w25.heap.size, 2, none⟩ = some (.slice xuo1 z.nx.length xuc1)) := by
        intro w' hs
        obtain ⟨⟨r00, r01, r02⟩, _, _, _⟩ := (F48.out.since hs).threeA
        obtain ⟨⟨r10, r11, r12⟩, _, _, _⟩ := (F49.out.since hs).threeA
        obtain ⟨⟨r20, r21, r22⟩, _, _, _⟩ := (F52.out.since hs).threeA
        obtain ⟨⟨r30, r31, r32⟩, _, _, _⟩ := (F54.out.since hs).threeA
        exact ⟨r00, r01, r02, r10, r11, r12, r20, r21, r22, r30, r31, r32⟩
      refine wp_region_held_drew (S := (fun w' => w'.cell? ⟨w.heap.size, 0, none⟩ = some (.int .i64 x.st) ∧ w'.cell? ⟨w.heap.size, 1, none⟩ = some (.slice so0 pa0 sc0) ∧ w'.cell? ⟨w.heap.size, 2, none⟩ = some (.slice uo0 qa0 uc0) ∧ w'.cell? ⟨w.heap.size + 1, 0, none⟩ = some (.int .i64 z.st) ∧ w'.cell? ⟨w.heap.size + 1, 1, none⟩ = some (.slice so1 pa1 sc1) ∧ w'.cell? ⟨w.heap.size + 1, 2, none⟩ = some (.slice uo1 qa1 uc1) ∧ w'.cell? ⟨w16.heap.size, 0, none⟩ = some (.int .i64 x.st) ∧ w'.cell? ⟨w16.heap.size, 1, none⟩ = some (.slice xso0 x.ac.length xsc0) ∧ w'.cell? ⟨w16.heap.size, 2, none⟩ = some (.slice xuo0 x.nx.length xuc0) ∧ w'.cell? ⟨w25.heap.size, 0, none⟩ = some (.int .i64 z.st) ∧ w'.cell? ⟨w25.heap.size, 1, none⟩ = some (.slice xso1 z.ac.length xsc1) ∧ w'.cell? ⟨w25.heap.size, 2, none⟩ = some (.slice xuo1 z.nx.length xuc1))) (by kernel_rfl) (HKC.out _ (Since.refl _).drew) (fun hHeld => ?_)
      refine take_yes 0 (some 54) (v := ?_) rfl (by kernel_rfl) (by kernel_rfl) (by kernel_rfl) (by kernel_rfl) (fun _ _ _ h => h) (by rfl) (by assumption) ?_ ?_
      rotate_left
      · (intro w' hSw; (try dsimp only at hSw); go_simp; try with_reducible rfl)
      try simp only [Act.put, List.setIfInBounds_toArray, List.set_cons_zero, List.set_cons_succ]
      refine take_yes 1 (some 55) (v := ?_) rfl (by kernel_rfl) (by kernel_rfl) (by kernel_rfl) (by kernel_rfl) (fun _ _ _ h => h) (by rfl) (by assumption) ?_ ?_
      rotate_left
      · (intro w' hSw; (try dsimp only at hSw); go_simp; try with_reducible rfl)
      try simp only [Act.put, List.setIfInBounds_toArray, List.set_cons_zero, List.set_cons_succ]
      refine take_run 2 rfl (by kernel_rfl) (by rfl) (fun K hK => ?_)
      go_simp
      refine (toAutomaton_any _ x _ (H0.out.since hs56.drew) g10).mono ?_
      rintro e w57 ⟨va, rfl, hoa, hq58⟩
      have hc59 := Since.of_drew hq58
      refine hK.out _ _ (HKC.out _ hc59) (fun hHeld2 => ?_)
      clear hK K hHeld
      try simp only [Act.put, List.setIfInBounds_toArray, List.set_cons_zero, List.set_cons_succ]
      refine take_run 3 rfl (by kernel_rfl) (by rfl) (fun K hK => ?_)
      go_simp
      refine (eqAutomaton_any _ _ x x _ (F51.out.at.since hc59) hoa.at g40 g40).mono ?_
      rintro e w60 ⟨rfl, hq61⟩
      have hc62 := hc59.trans hq61
      refine hK.out _ _ (HKC.out _ hc62) (fun hHeld3 => ?_)
      clear hK K hHeld2
      try simp only [Act.put, List.setIfInBounds_toArray, List.set_cons_zero, List.set_cons_succ]
      refine take_yes 4 (some 58) (v := ?_) rfl (by kernel_rfl) (by kernel_rfl) (by kernel_rfl) (by kernel_rfl) (fun _ _ _ h => h) (by rfl) (by assumption) ?_ ?_
      rotate_left
      · (intro w' hSw; (try dsimp only at hSw); go_simp; try with_reducible rfl)
      try simp only [Act.put, List.setIfInBounds_toArray, List.set_cons_zero, List.set_cons_succ]
      refine wpAnyH_done (by kernel_rfl) ?_ _
      clear hHeld3 HKC hoa
      have F63 := Lib.hid (F48.out.since hc62)
      clear F48
      have F64 := Lib.hid (F49.out.since hc62)
      clear F49
      have F65 := Lib.hid (F50.out.since hc62)
      clear F50
      have F66 := Lib.hid (F51.out.since hc62)
      clear F51
      have F67 := Lib.hid (F52.out.since hc62)
      clear F52
      have F68 := Lib.hid (F53.out.since hc62)
      clear F53
      have F69 := Lib.hid (F54.out.since hc62)
      clear F54
      have F70 := Lib.hid (F55.out.since hc62)
      clear F55
      have hs71 := hs56.trans hc62
      have zhs71 := hc62.size
      go_wp2_with fail
      have HKC : Hid (∀ w', Since w60 w' → w'.cell? ⟨w.heap.size, 0, none⟩ = some (.int .i64 x.st) ∧ w'.cell? ⟨w.heap.size, 1, none⟩ = some (.slice so0 pa0 sc0) ∧ w'.cell? ⟨w.heap.size, 2, none⟩ = some (.slice uo0 qa0 uc0) ∧ w'.cell? ⟨w.heap.size + 1, 0, none⟩ = some (.int .i64 z.st) ∧ w'.cell? ⟨w.heap.size + 1, 1, none⟩ = some (.slice so1 pa1 sc1) ∧ w'.cell? ⟨w.heap.size + 1, 2, none⟩ = some (.slice uo1 qa1 uc1) ∧ w'.cell? ⟨w16.heap.size, 0, none⟩ = some (.int .i64 x.st) ∧ w'.cell? ⟨w16.heap.size, 1, none⟩ = some (.slice xso0 x.ac.length xsc0) ∧ w'.cell? ⟨w16.heap.size, 2, none⟩ = some (.slice xuo0 x.nx.length xuc0) ∧ w'.cell? ⟨w25.heap.size, 0, none⟩ = some (.int .i64 z.st) ∧ w'.cell? ⟨w25.heap.size, 1, none⟩ = some (.slice xso1 z.ac.length xsc1) ∧ w'.cell? ⟨w25.heap.size, 2, none⟩ = some (.slice xuo1 z.nx.length xuc1)) := by
        intro w' hs
        obtain ⟨⟨r00, r01, r02⟩, _, _, _⟩ := (F63.out.since hs).threeA
        obtain ⟨⟨r10, r11, r12⟩, _, _, _⟩ := (F64.out.since hs).threeA
        obtain ⟨⟨r20, r21, r22⟩, _, _, _⟩ := (F67.out.since hs).threeA
        obtain ⟨⟨r30, r31, r32⟩, _, _, _⟩ := (F69.out.since hs).threeA
        exact ⟨r00, r01, r02, r10, r11, r12, r20, r21, r22, r30, r31, r32⟩
      refine wp_region_held_drew (S := (fun w' => w'.cell? ⟨w.heap.size, 0, none⟩ = some (.int .i64 x.st) ∧ w'.cell? ⟨w.heap.size, 1, none⟩ = some (.slice so0 pa0 sc0) ∧ w'.cell? ⟨w.heap.size, 2, none⟩ = some (.slice uo0 qa0 uc0) ∧ w'.cell? ⟨w.heap.size + 1, 0, none⟩ = some (.int .i64 z.st) ∧ w'.cell? ⟨w.heap.size + 1, 1, none⟩ = some (.slice so1 pa1 sc1) ∧ w'.cell? ⟨w.heap.size + 1, 2, none⟩ = some (.slice uo1 qa1 uc1) ∧ w'.cell? ⟨w16.heap.size, 0, none⟩ = some (.int .i64 x.st) ∧ w'.cell? ⟨w16.heap.size, 1, none⟩ = some (.slice xso0 x.ac.length xsc0) ∧ w'.cell? ⟨w16.heap.size, 2, none⟩ = some (.slice xuo0 x.nx.length xuc0) ∧ w'.cell? ⟨w25.heap.size, 0, none⟩ = some (.int .i64 z.st) ∧ w'.cell? ⟨w25.heap.size, 1, none⟩ = some (.slice xso1 z.ac.length xsc1) ∧ w'.cell? ⟨w25.heap.size, 2, none⟩ = some (.slice xuo1 z.nx.length xuc1))) (by kernel_rfl) (HKC.out _ (Since.refl _).drew) (fun hHeld => ?_)
      refine take_yes 0 (some 59) (v := ?_) rfl (by kernel_rfl) (by kernel_rfl) (by kernel_rfl) (by kernel_rfl) (fun _ _ _ h => h) (by rfl) (by assumption) ?_ ?_
      rotate_left
      · (intro w' hSw; (try dsimp only at hSw); go_simp; try with_reducible rfl)
      try simp only [Act.put, List.setIfInBounds_toArray, List.set_cons_zero, List.set_cons_succ]
      refine take_yes 1 (some 60) (v := ?_) rfl (by kernel_rfl) (by kernel_rfl) (by kernel_rfl) (by kernel_rfl) (fun _ _ _ h => h) (by rfl) (by assumption) ?_ ?_
      rotate_left
      · (intro w' hSw; (try dsimp only at hSw); go_simp; try with_reducible rfl)
      try simp only [Act.put, List.setIfInBounds_toArray, List.set_cons_zero, List.set_cons_succ]
      refine take_run 2 rfl (by kernel_rfl) (by rfl) (fun K hK => ?_)
      go_simp
      refine (toAutomaton_any _ z _ (H1.out.since hs71.drew) g11).mono ?_
      rintro e w72 ⟨va, rfl, hoa, hq73⟩
      have hc74 := Since.of_drew hq73
      refine hK.out _ _ (HKC.out _ hc74) (fun hHeld2 => ?_)
      clear hK K hHeld
      try simp only [Act.put, List.setIfInBounds_toArray, List.set_cons_zero, List.set_cons_succ]
      refine take_run 3 rfl (by kernel_rfl) (by rfl) (fun K hK => ?_)
      go_simp
      refine (eqAutomaton_any _ _ z z _ (F68.out.at.since hc74) hoa.at g41 g41).mono ?_
      rintro e w75 ⟨rfl, hq76⟩
      have hc77 := hc74.trans hq76
      refine hK.out _ _ (HKC.out _ hc77) (fun hHeld3 => ?_)
      clear hK K hHeld2
      try simp only [Act.put, List.setIfInBounds_toArray, List.set_cons_zero, List.set_cons_succ]
      refine take_yes 4 (some 63) (v := ?_) rfl (by kernel_rfl) (by kernel_rfl) (by kernel_rfl) (by kernel_rfl) (fun _ _ _ h => h) (by rfl) (by assumption) ?_ ?_
      rotate_left
      · (intro w' hSw; (try dsimp only at hSw); go_simp; try with_reducible rfl)
      try simp only [Act.put, List.setIfInBounds_toArray, List.set_cons_zero, List.set_cons_succ]
      refine wpAnyH_done (by kernel_rfl) ?_ _
      clear hHeld3 HKC hoa
      have F78 := Lib.hid (F63.out.since hc77)
      clear F63
      have F79 := Lib.hid (F64.out.since hc77)
      clear F64
      have F80 := Lib.hid (F65.out.since hc77)
      clear F65
      have F81 := Lib.hid (F66.out.since hc77)
      clear F66
      have F82 := Lib.hid (F67.out.since hc77)
      clear F67
      have F83 := Lib.hid (F68.out.since hc77)
      clear F68
      have F84 := Lib.hid (F69.out.since hc77)
      clear F69
      have F85 := Lib.hid (F70.out.since hc77)
      clear F70
      have hs86 := hs71.trans hc77
      have zhs86 := hc77.size
      obtain ⟨⟨r0, r1, r2⟩, _, _, _⟩ := F82.out.threeA
      go_wp2_with fail
      clear r0 r1 r2
      refine (markAutomaton_any w9.heap.size w16.heap.size _ x 1 _ F81.out (by omega) (by decide) (by decide) g60).mono ?_
      rintro e w87 ⟨rfl, hmx0, hw88⟩
      rw [← HKX0.out]
      clear hmx0
      clear F81
      have F89 := Lib.hid (F78.out.within hw88 (by omega))
      clear F78
      have F90 := Lib.hid (F79.out.within hw88 (by omega))
      clear F79
      have F91 := Lib.hid (F80.out.within RS hw88 (by omega))
      clear F80
      have F92 := Lib.hid (F82.out.within hw88 (by omega))
      clear F82
      have F93 := Lib.hid (F83.out.within hw88 (by omega))
      clear F83
      have F94 := Lib.hid (F84.out.within hw88 (by omega))
      clear F84
      have F95 := Lib.hid (F85.out.within RG hw88 (by omega))
      clear F85
      have hs96 := hs86.within (by omega) hw88
      have zhs96 := hw88.size
      obtain ⟨⟨r0, r1, r2⟩, _, _, _⟩ := F94.out.threeA
      go_wp2_with fail
      clear r0 r1 r2
      refine (markAutomaton_any y18.heap.size w25.heap.size _ z kx0 _ F93.out (by omega) (by omega) (by omega) g61).mono ?_
      rintro e w97 ⟨rfl, hmx1, hw98⟩
      rw [← HKX1.out]
      clear hmx1
      clear F93
      have F99 := Lib.hid (F89.out.within hw98 (by omega))
      clear F89
      have F100 := Lib.hid (F90.out.within hw98 (by omega))
      clear F90
      have F101 := Lib.hid (F91.out.within RS hw98 (by omega))
      clear F91
      have F102 := Lib.hid (F92.out.within hw98 (by omega))
      clear F92
      have F103 := Lib.hid (F94.out.within hw98 (by omega))
      clear F94
      have F104 := Lib.hid (F95.out.within RG hw98 (by omega))
      clear F95
      have hs105 := hs96.within (by omega) hw98
      have zhs105 := hw98.size
      clear F102
      clear F103
      go_wp2_with fail
      refine (eqIntS_any _ _ R R _ F104.out.at F101.out.at q4 q4).mono ?_
      rintro e w106 ⟨rfl, hq107⟩
      have F108 := Lib.hid (F99.out.since hq107)
      clear F99
      have F109 := Lib.hid (F100.out.since hq107)
      clear F100
      have F110 := Lib.hid (F101.out.since hq107)
      clear F101
      have F111 := Lib.hid (F104.out.since hq107)
      clear F104
      have hs112 := hs105.trans hq107
      have zhs112 := hq107.size
      go_wp2_with fail
      refine (markIntS_any y27.heap.size _ R 1 _ F111.out (by decide) (by decide) q6).mono ?_
      rintro e w113 ⟨rfl, hmg, hgr⟩
      rw [← HKR.out]
      have hw114 : Within y27.heap.size w36.heap.size w106 w113 := Within.of_grown hgr RG
      have HM := Lib.hid hmg
      clear hmg hgr
      clear F111
      have F115 := Lib.hid (F108.out.within hw114 (by omega))
      clear F108
      have F116 := Lib.hid (F109.out.within hw114 (by omega))
      clear F109
      have F117 := Lib.hid (F110.out.within RS hw114 (by omega))
      clear F110
      have hs118 := hs112.within (by omega) hw114
      have zhs118 := hw114.size
      go_wp2_with fail
      refine (heldIntS_any _ 1 R.length _ HM.out.at (by decide) (by decide) q6).mono ?_
      rintro e w119 ⟨rfl, rfl⟩
      rw [← HKR.out]
      go_wp2_with fail
      have HKC : Hid (∀ w', Since w113 w' → w'.cell? ⟨w.heap.size, 0, none⟩ = some (.int .i64 x.st) ∧ w'.cell? ⟨w.heap.size, 1, none⟩ = some (.slice so0 pa0 sc0) ∧ w'.cell? ⟨w.heap.size, 2, none⟩ = some (.slice uo0 qa0 uc0) ∧ w'.cell? ⟨w.heap.size + 1, 0, none⟩ = some (.int .i64 z.st) ∧ w'.cell? ⟨w.heap.size + 1, 1, none⟩ = some (.slice so1 pa1 sc1) ∧ w'.cell? ⟨w.heap.size + 1, 2, none⟩ = some (.slice uo1 qa1 uc1)) := by
        intro w' hs
        obtain ⟨⟨r00, r01, r02⟩, _, _, _⟩ := (F115.out.since hs).threeA
        obtain ⟨⟨r10, r11, r12⟩, _, _, _⟩ := (F116.out.since hs).threeA
        exact ⟨r00, r01, r02, r10, r11, r12⟩
      refine wp_region_held_drew (S := (fun w' => w'.cell? ⟨w.heap.size, 0, none⟩ = some (.int .i64 x.st) ∧ w'.cell? ⟨w.heap.size, 1, none⟩ = some (.slice so0 pa0 sc0) ∧ w'.cell? ⟨w.heap.size, 2, none⟩ = some (.slice uo0 qa0 uc0) ∧ w'.cell? ⟨w.heap.size + 1, 0, none⟩ = some (.int .i64 z.st) ∧ w'.cell? ⟨w.heap.size + 1, 1, none⟩ = some (.slice so1 pa1 sc1) ∧ w'.cell? ⟨w.heap.size + 1, 2, none⟩ = some (.slice uo1 qa1 uc1))) (by kernel_rfl) (HKC.out _ (Since.refl _).drew) (fun hHeld => ?_)
      refine take_yes 0 (some 95) (v := ?_) rfl (by kernel_rfl) (by kernel_rfl) (by kernel_rfl) (by kernel_rfl) (fun _ _ _ h => h) (by rfl) (by assumption) ?_ ?_
      rotate_left
      · (intro w' hSw; (try dsimp only at hSw); go_simp; try with_reducible rfl)
      try simp only [Act.put, List.setIfInBounds_toArray, List.set_cons_zero, List.set_cons_succ]
      refine take_yes 2 (some 97) (v := ?_) rfl (by kernel_rfl) (by kernel_rfl) (by kernel_rfl) (by kernel_rfl) (fun _ _ _ h => h) (by rfl) (by assumption) ?_ ?_
      rotate_left
      · (intro w' hSw; (try dsimp only at hSw); go_simp; try with_reducible rfl)
      try simp only [Act.put, List.setIfInBounds_toArray, List.set_cons_zero, List.set_cons_succ]
      refine take_run 1 rfl (by kernel_rfl) (by rfl) (fun K hK => ?_)
      go_simp
      refine (toAutomaton_any _ x _ (H0.out.since hs118.drew) g10).mono ?_
      rintro e w120 ⟨va0, rfl, hoa0, hq121⟩
      have hc122 := Since.of_drew hq121
      refine hK.out _ _ (HKC.out _ hc122) (fun hHeld123 => ?_)
      clear hK K hHeld
      try simp only [Act.put, List.setIfInBounds_toArray, List.set_cons_zero, List.set_cons_succ]
      refine take_run 3 rfl (by kernel_rfl) (by rfl) (fun K hK => ?_)
      go_simp
      refine (toAutomaton_any _ z _ (H1.out.since (hs118.trans hc122)) g11).mono ?_
      rintro e w124 ⟨va1, rfl, hoa1, hq125⟩
      have hc126 := hc122.trans hq125
      replace hoa0 := hoa0.since hq125
      refine hK.out _ _ (HKC.out _ hc126) (fun hHeld127 => ?_)
      clear hK K hHeld123
      try simp only [Act.put, List.setIfInBounds_toArray, List.set_cons_zero, List.set_cons_succ]
      refine take_run 4 rfl (by kernel_rfl) (by rfl) (fun K hK => ?_)
      go_simp
      refine (HI.out _ _ _ hoa0.at hoa1.at).mono ?_
      rintro e w128 ⟨vs4, rfl, ho3, hq129⟩
      have hc130 := hc126.trans hq129
      refine hK.out _ _ (HKC.out _ hc130) (fun hHeld131 => ?_)
      clear hK K hHeld127
      try simp only [Act.put, List.setIfInBounds_toArray, List.set_cons_zero, List.set_cons_succ]
      refine take_yes 5 (some 94) (v := ?_) rfl (by kernel_rfl) (by kernel_rfl) (by kernel_rfl) (by kernel_rfl) (fun _ _ _ h => h) (by rfl) (by assumption) ?_ ?_
      rotate_left
      · (intro w' hSw; (try dsimp only at hSw); go_simp; try with_reducible rfl)
      try simp only [Act.put, List.setIfInBounds_toArray, List.set_cons_zero, List.set_cons_succ]
      refine take_yes 6 (some 100) (v := ?_) rfl (by kernel_rfl) (by kernel_rfl) (by kernel_rfl) (by kernel_rfl) (fun _ _ _ h => h) (by rfl) (by assumption) ?_ ?_
      rotate_left
      · (intro w' hSw; (try dsimp only at hSw); go_simp; try with_reducible rfl)
      try simp only [Act.put, List.setIfInBounds_toArray, List.set_cons_zero, List.set_cons_succ]
      refine take_yes 7 (some 101) (v := ?_) rfl (by kernel_rfl) (by kernel_rfl) (by kernel_rfl) (by kernel_rfl) (fun _ _ _ h => h) (by rfl) (by assumption) ?_ ?_
      rotate_left
      · (intro w' hSw; (try dsimp only at hSw); go_simp; try with_reducible rfl)
      try simp only [Act.put, List.setIfInBounds_toArray, List.set_cons_zero, List.set_cons_succ]
      refine take_yes 8 (some 15) (v := ?_) rfl (by kernel_rfl) (by kernel_rfl) (by kernel_rfl) (by kernel_rfl) (fun _ _ _ h => h) (by rfl) (by assumption) ?_ ?_
      rotate_left
      · (intro w' hSw; (try dsimp only at hSw); go_simp; try with_reducible rfl)
      try simp only [Act.put, List.setIfInBounds_toArray, List.set_cons_zero, List.set_cons_succ]
      refine take_yes 9 (some 16) (v := ?_) rfl (by kernel_rfl) (by kernel_rfl) (by kernel_rfl) (by kernel_rfl) (fun _ _ _ h => h) (by rfl) (by assumption) ?_ ?_
      rotate_left
      · (intro w' hSw; (try dsimp only at hSw); go_simp; try with_reducible rfl)
      try simp only [Act.put, List.setIfInBounds_toArray, List.set_cons_zero, List.set_cons_succ]
      refine wpAnyH_done (by kernel_rfl) ?_ _
      clear hHeld131 HKC hoa0 hoa1
      have zzw128 := hc126.size
      have HO := Lib.hid ho3.at
      clear ho3
      have F132 := Lib.hid (F115.out.since hc130)
      clear F115
      have F133 := Lib.hid (F116.out.since hc130)
      clear F116
      have F134 := Lib.hid (F117.out.since hc130)
      clear F117
      have F135 := Lib.hid (HM.out.since hc130)
      clear HM
      have hs136 := hs118.trans hc130
      have zhs136 := hc130.size
      go_wp2_with fail
      refine (eqIntS_any _ _ R R _ HO.out F134.out.at q4 q4).mono ?_
      rintro e w137 ⟨rfl, hq138⟩
      clear F134
      clear HO
      have F139 := Lib.hid (F132.out.since hq138)
      clear F132
      have F140 := Lib.hid (F133.out.since hq138)
      clear F133
      have F141 := Lib.hid (F135.out.since hq138)
      clear F135
      have hs142 := hs136.trans hq138
      have zhs142 := hq138.size
      go_wp2_with fail
      refine (heldIntS_any _ 1 R.length _ F141.out.at (by decide) (by decide) q6).mono ?_
      rintro e w143 ⟨rfl, rfl⟩
      rw [← HKR.out]
      go_wp2
      go_ret
      exact ⟨rfl, hs142⟩
end Go.Proofs.Ytmaagihfjldgeaa
