/- The law of IncludesLanguage, walked. -/
import Derived.Test.YtmaagihfjldgeaaA1
import Derived.Test.YtmaagihfjldgeaaMsI
import Derived.Test.YtmaagihfjldgeaaOpenI
import Derived.Test.YtmaagihfjldgeaaK1
namespace Go.Proofs.Ytmaagihfjldgeaa
set_option maxRecDepth 100000
open Go.ChangeShapes Go.WideShapes Go.ChangeAt Go.RowKit
set_option linter.unusedVariables false
set_option linter.unusedSimpArgs false

set_option maxHeartbeats 4000000 in
set_option maxRecDepth 100000 in
theorem fnExactIncludesLanguage_walk (v0 : Value) (v1 : Value) (x : Aut) (z : Aut) (w : World) (h0 : AutAt w v0 x) (h1 : AutAt w v1 z) (hl0 : MxA x) (hl1 : MxA z) :
    Calls Try.prog 16 #[v0, v1] w fun e w' => e = .returned (.bool true) ∧ Since w w' := by
  have H0 := Lib.hid h0
  have HL0 := Lib.hid hl0
  obtain ⟨sa0, sb0, rfl, _, ha0, hb0⟩ := h0
  obtain ⟨so0, sc0, rfl⟩ := ha0.len
  obtain ⟨uo0, uc0, rfl⟩ := hb0.len
  clear ha0 hb0
  obtain ⟨pa0, hp0⟩ : ∃ n, n = x.ac.length := ⟨_, rfl⟩
  obtain ⟨qa0, hq0⟩ : ∃ m, m = x.nx.length := ⟨_, rfl⟩
  rw [← hp0, ← hq0] at H0 ⊢
  clear hp0 hq0 hl0
  have H1 := Lib.hid h1
  have HL1 := Lib.hid hl1
  obtain ⟨sa1, sb1, rfl, _, ha1, hb1⟩ := h1
  obtain ⟨so1, sc1, rfl⟩ := ha1.len
  obtain ⟨uo1, uc1, rfl⟩ := hb1.len
  clear ha1 hb1
  obtain ⟨pa1, hp1⟩ : ∃ n, n = z.ac.length := ⟨_, rfl⟩
  obtain ⟨qa1, hq1⟩ : ∃ m, m = z.nx.length := ⟨_, rfl⟩
  rw [← hp1, ← hq1] at H1 ⊢
  clear hp1 hq1 hl1
  obtain ⟨y0, hy0⟩ : ∃ y, y = ((w.alloc (.cells #[.int .i64 x.st, .slice so0 pa0 sc0, .slice uo0 qa0 uc0] 58)).alloc (.cells #[.int .i64 z.st, .slice so1 pa1 sc1, .slice uo1 qa1 uc1] 58)) := ⟨_, rfl⟩
  have hs0 : Since w y0 := by rw [hy0]; exact ((Since.refl w).alloc _).alloc _
  have hz0 : w.heap.size + 2 = y0.heap.size := by rw [hy0]; simp
  have bx0 : Hid (Blk y0 (w.heap.size) 58 #[.int .i64 x.st, .slice so0 pa0 sc0, .slice uo0 qa0 uc0]) := by rw [hy0]; exact (Blk.new (by simp) _ _).alloc _
  have bx1 : Hid (Blk y0 (w.heap.size + 1) 58 #[.int .i64 z.st, .slice so1 pa1 sc1, .slice uo1 qa1 uc1]) := by rw [hy0]; exact Blk.new (by simp) _ _
  obtain ⟨x0, hx0⟩ : ∃ zz, zz = szA x 1048576 := ⟨_, rfl⟩
  by_cases hz0 : x0 < 0
  · have HX0 := Lib.hid hx0
    clear hx0
    go_enter Try.func16, Try.ntmps16
    go_wp2_with fail
    rw [← hy0]
    clear hy0
    refine (szAu_is _ x 1048576 x0 _ (H0.out.since hs0) HL0.out (by decide) (by decide) HX0.out.symm).mono ?_
    rintro e wz0 ⟨rfl, hsz0⟩
    have hz00 := hs0.trans hsz0
    have hzz0 := hsz0.size
    have bz0_0 := Lib.hid (bx0.out.since hsz0)
    clear bx0
    have bz0_1 := Lib.hid (bx1.out.since hsz0)
    clear bx1
    clear hs0 hsz0
    go_wp2
    go_ret
    exact ⟨rfl, hz00⟩
  · have lx0 : 0 ≤ x0 ∧ x0 ≤ 1048576 := by rw [hx0]; rw [hx0] at hz0; exact (szA_smallB (A := x) (left := 1048576) (by decide) hz0).1
    have g10 : SmA x := by rw [hx0] at hz0; exact (szA_smallB (A := x) (left := 1048576) (by decide) hz0).2
    have HX0 := Lib.hid hx0
    clear hx0
    obtain ⟨x1, hx1⟩ : ∃ zz, zz = szA z x0 := ⟨_, rfl⟩
    by_cases hz1 : x1 < 0
    · have HX1 := Lib.hid hx1
      clear hx1
      go_enter Try.func16, Try.ntmps16
      go_wp2_with fail
      rw [← hy0]
      clear hy0
      refine (szAu_is _ x 1048576 x0 _ (H0.out.since hs0) HL0.out (by decide) (by decide) HX0.out.symm).mono ?_
      rintro e wz0 ⟨rfl, hsz0⟩
      have hz00 := hs0.trans hsz0
      have hzz0 := hsz0.size
      have bz0_0 := Lib.hid (bx0.out.since hsz0)
      clear bx0
      have bz0_1 := Lib.hid (bx1.out.since hsz0)
      clear bx1
      clear hs0 hsz0
      obtain ⟨⟨p0, p1, p2⟩, _, _, _⟩ := bz0_1.out.threeA
      go_wp2_with fail
      clear p0 p1 p2
      refine (szAu_is _ z x0 x1 _ (H1.out.since hz00) HL1.out lx0.1 lx0.2 HX1.out.symm).mono ?_
      rintro e wz1 ⟨rfl, hsz1⟩
      have hz01 := hz00.trans hsz1
      have hzz1 := hsz1.size
      have bz1_0 := Lib.hid (bz0_0.out.since hsz1)
      clear bz0_0
      have bz1_1 := Lib.hid (bz0_1.out.since hsz1)
      clear bz0_1
      clear hz00 hsz1
      go_wp2
      go_ret
      exact ⟨rfl, hz01⟩
    · have lx1 : 0 ≤ x1 ∧ x1 ≤ 1048576 := by rw [hx1]; rw [hx1] at hz1; exact (szA_smallB (A := z) (left := x0) lx0.2 hz1).1
      have g11 : SmA z := by rw [hx1] at hz1; exact (szA_smallB (A := z) (left := x0) lx0.2 hz1).2
      have HX1 := Lib.hid hx1
      clear hx1
      have HS : Hid (∀ V0 V1 W, AutAt W V0 x → AutAt W V1 z → Calls Try.prog 68 #[V0, V1] W (fun e w' => e = .returned (.bool (incB x z)) ∧ Since W w')) := fun V0 V1 W k0 k1 => specIN_any V0 V1 x z W k0 k1 HL0.out HL1.out
      have HI : Hid (∀ V0 V1 W, AutAt W V0 x → AutAt W V1 z → Calls Try.prog 39 #[V0, V1] W (fun e w' => e = .returned (.bool (incB x z)) ∧ Since W w')) := fun V0 V1 W k0 k1 => implIN_any V0 V1 x z W k0 k1 HL0.out HL1.out
      generalize incB x z = R at HS HI
      have hv : (R != R) = false := by simp
      have dgg0 : decide (x = x) = true := by simp
      have g40 := g10.bg
      have g60 := g10.bg
      have dgg1 : decide (z = z) = true := by simp
      have g41 := g11.bg
      have g61 := g11.bg
      go_enter Try.func16, Try.ntmps16
      go_wp2_with fail
      rw [← hy0]
      clear hy0
      refine (szAu_is _ x 1048576 x0 _ (H0.out.since hs0) HL0.out (by decide) (by decide) HX0.out.symm).mono ?_
      rintro e wz0 ⟨rfl, hsz0⟩
      have hz00 := hs0.trans hsz0
      have hzz0 := hsz0.size
      have bz0_0 := Lib.hid (bx0.out.since hsz0)
      clear bx0
      have bz0_1 := Lib.hid (bx1.out.since hsz0)
      clear bx1
      clear hs0 hsz0
      obtain ⟨⟨p0, p1, p2⟩, _, _, _⟩ := bz0_1.out.threeA
      go_wp2_with fail
      clear p0 p1 p2
      refine (szAu_is _ z x0 x1 _ (H1.out.since hz00) HL1.out lx0.1 lx0.2 HX1.out.symm).mono ?_
      rintro e wz1 ⟨rfl, hsz1⟩
      have hz01 := hz00.trans hsz1
      have hzz1 := hsz1.size
      have bz1_0 := Lib.hid (bz0_0.out.since hsz1)
      clear bz0_0
      have bz1_1 := Lib.hid (bz0_1.out.since hsz1)
      clear bz0_1
      clear hz00 hsz1
      go_wp2_with fail
      have HKC : Hid (∀ w', Since wz1 w' → w'.cell? ⟨w.heap.size, 0, none⟩ = some (.int .i64 x.st) ∧ w'.cell? ⟨w.heap.size, 1, none⟩ = some (.slice so0 pa0 sc0) ∧ w'.cell? ⟨w.heap.size, 2, none⟩ = some (.slice uo0 qa0 uc0) ∧ w'.cell? ⟨w.heap.size + 1, 0, none⟩ = some (.int .i64 z.st) ∧ w'.cell? ⟨w.heap.size + 1, 1, none⟩ = some (.slice so1 pa1 sc1) ∧ w'.cell? ⟨w.heap.size + 1, 2, none⟩ = some (.slice uo1 qa1 uc1)) := by
        intro w' hs
        obtain ⟨⟨r00, r01, r02⟩, _, _, _⟩ := (bz1_0.out.since hs).threeA
        obtain ⟨⟨r10, r11, r12⟩, _, _, _⟩ := (bz1_1.out.since hs).threeA
        exact ⟨r00, r01, r02, r10, r11, r12⟩
      refine wp_region_held_drew (S := (fun w' => w'.cell? ⟨w.heap.size, 0, none⟩ = some (.int .i64 x.st) ∧ w'.cell? ⟨w.heap.size, 1, none⟩ = some (.slice so0 pa0 sc0) ∧ w'.cell? ⟨w.heap.size, 2, none⟩ = some (.slice uo0 qa0 uc0) ∧ w'.cell? ⟨w.heap.size + 1, 0, none⟩ = some (.int .i64 z.st) ∧ w'.cell? ⟨w.heap.size + 1, 1, none⟩ = some (.slice so1 pa1 sc1) ∧ w'.cell? ⟨w.heap.size + 1, 2, none⟩ = some (.slice uo1 qa1 uc1))) (by kernel_rfl) (HKC.out _ (Since.refl _).drew) (fun hHeld => ?_)
      refine take_yes 0 (some 20) (v := ?_) rfl (by kernel_rfl) (by kernel_rfl) (by kernel_rfl) (by kernel_rfl) (fun _ _ _ h => h) (by rfl) (by assumption) ?_ ?_
      rotate_left
      · (intro w' hSw; (try dsimp only at hSw); go_simp; try with_reducible rfl)
      try simp only [Act.put, List.setIfInBounds_toArray, List.set_cons_zero, List.set_cons_succ]
      refine take_yes 2 (some 22) (v := ?_) rfl (by kernel_rfl) (by kernel_rfl) (by kernel_rfl) (by kernel_rfl) (fun _ _ _ h => h) (by rfl) (by assumption) ?_ ?_
      rotate_left
      · (intro w' hSw; (try dsimp only at hSw); go_simp; try with_reducible rfl)
      try simp only [Act.put, List.setIfInBounds_toArray, List.set_cons_zero, List.set_cons_succ]
      refine take_run 1 rfl (by kernel_rfl) (by rfl) (fun K hK => ?_)
      go_simp
      refine (toAutomaton_any _ x _ (H0.out.since hz01.drew) g10).mono ?_
      rintro e w1 ⟨va0, rfl, hoa0, hq2⟩
      have hc3 := Since.of_drew hq2
      refine hK.out _ _ (HKC.out _ hc3) (fun hHeld4 => ?_)
      clear hK K hHeld
      try simp only [Act.put, List.setIfInBounds_toArray, List.set_cons_zero, List.set_cons_succ]
      refine take_run 3 rfl (by kernel_rfl) (by rfl) (fun K hK => ?_)
      go_simp
      refine (toAutomaton_any _ z _ (H1.out.since (hz01.trans hc3)) g11).mono ?_
      rintro e w5 ⟨va1, rfl, hoa1, hq6⟩
      have hc7 := hc3.trans hq6
      replace hoa0 := hoa0.since hq6
      refine hK.out _ _ (HKC.out _ hc7) (fun hHeld8 => ?_)
      clear hK K hHeld4
      try simp only [Act.put, List.setIfInBounds_toArray, List.set_cons_zero, List.set_cons_succ]
      refine take_run 4 rfl (by kernel_rfl) (by rfl) (fun K hK => ?_)
      go_simp
      refine (HS.out _ _ _ hoa0.at hoa1.at).mono ?_
      rintro e w9 ⟨rfl, hq10⟩
      have hc11 := hc7.trans hq10
      refine hK.out _ _ (HKC.out _ hc11) (fun hHeld12 => ?_)
      clear hK K hHeld8
      try simp only [Act.put, List.setIfInBounds_toArray, List.set_cons_zero, List.set_cons_succ]
      refine take_yes 5 (some 6) (v := ?_) rfl (by kernel_rfl) (by kernel_rfl) (by kernel_rfl) (by kernel_rfl) (fun _ _ _ h => h) (by rfl) (by assumption) ?_ ?_
      rotate_left
      · (intro w' hSw; (try dsimp only at hSw); go_simp; try with_reducible rfl)
      try simp only [Act.put, List.setIfInBounds_toArray, List.set_cons_zero, List.set_cons_succ]
      refine wpAnyH_done (by kernel_rfl) ?_ _
      clear hHeld12 HKC hoa0 hoa1
      have zzw9 := hc7.size
      have F13 := Lib.hid (bz1_0.out.since hc11)
      clear bz1_0
      have F14 := Lib.hid (bz1_1.out.since hc11)
      clear bz1_1
      have hs15 := hz01.trans hc11
      have zhs15 := hc11.size
      obtain ⟨⟨p0, p1, p2⟩, _, _, _⟩ := F13.out.threeA
      go_wp2_with fail
      clear p0 p1 p2
      refine (toAutomaton_any _ x _ (H0.out.since hs15) g10).mono ?_
      rintro e w16 ⟨vx0, rfl, hox0, hq17⟩
      have XO0 := Lib.hid hox0
      obtain ⟨xa0, xb0, rfl, _, ka, _, kb⟩ := hox0
      obtain ⟨xso0, xsc0, rfl⟩ := ka.len
      obtain ⟨xuo0, xuc0, rfl⟩ := kb.len
      clear ka kb
      obtain ⟨y18, hy18⟩ : ∃ y, y = w16.alloc (.cells #[.int .i64 x.st, .slice xso0 x.ac.length xsc0, .slice xuo0 x.nx.length xuc0] 39) := ⟨_, rfl⟩
      have ha19 : Since w16 y18 := by rw [hy18]; exact (Since.refl w16).alloc _
      have zy0 : w16.heap.size + 1 = y18.heap.size := by rw [hy18]; simp
      have XB0 : Hid (Blk y18 w16.heap.size 39 #[.int .i64 x.st, .slice xso0 x.ac.length xsc0, .slice xuo0 x.nx.length xuc0]) := by rw [hy18]; exact Blk.new rfl _ _
      have XP0 := Lib.hid (XO0.out.since ha19)
      clear XO0
      have hc20 := hq17.trans ha19
      have zq0 := hq17.size
      have F21 := Lib.hid (F13.out.since hc20)
      clear F13
      have F22 := Lib.hid (F14.out.since hc20)
      clear F14
      have hs23 := hs15.trans hc20
      have zhs23 := hc20.size
      obtain ⟨⟨p0, p1, p2⟩, _, _, _⟩ := F22.out.threeA
      rw [hy18] at p0 p1 p2
      go_wp2_with fail
      clear p0 p1 p2
      rw [← hy18]
      clear hy18
      refine (toAutomaton_any _ z _ (H1.out.since hs23) g11).mono ?_
      rintro e w24 ⟨vx1, rfl, hox1, hq25⟩
      have XO1 := Lib.hid hox1
      obtain ⟨xa1, xb1, rfl, _, ka, _, kb⟩ := hox1
      obtain ⟨xso1, xsc1, rfl⟩ := ka.len
      obtain ⟨xuo1, xuc1, rfl⟩ := kb.len
      clear ka kb
      obtain ⟨y26, hy26⟩ : ∃ y, y = w24.alloc (.cells #[.int .i64 z.st, .slice xso1 z.ac.length xsc1, .slice xuo1 z.nx.length xuc1] 39) := ⟨_, rfl⟩
      have ha27 : Since w24 y26 := by rw [hy26]; exact (Since.refl w24).alloc _
      have zy1 : w24.heap.size + 1 = y26.heap.size := by rw [hy26]; simp
      have XB1 : Hid (Blk y26 w24.heap.size 39 #[.int .i64 z.st, .slice xso1 z.ac.length xsc1, .slice xuo1 z.nx.length xuc1]) := by rw [hy26]; exact Blk.new rfl _ _
      have XP1 := Lib.hid (XO1.out.since ha27)
      clear XO1
      have hc28 := hq25.trans ha27
      have zq1 := hq25.size
      have F29 := Lib.hid (F21.out.since hc28)
      clear F21
      have F30 := Lib.hid (F22.out.since hc28)
      clear F22
      have F31 := Lib.hid (XP0.out.since hc28)
      clear XP0
      have F32 := Lib.hid (XB0.out.since hc28)
      clear XB0
      have hs33 := hs23.trans hc28
      have zhs33 := hc28.size
      obtain ⟨⟨q00, q01, q02⟩, _, _, _⟩ := F32.out.threeA
      obtain ⟨⟨q10, q11, q12⟩, _, _, _⟩ := XB1.out.threeA
      rw [hy26] at q00 q01 q02 q10 q11 q12
      go_wp2_with fail
      rw [← hy26]
      clear hy26 q00 q01 q02 q10 q11 q12
      refine (HI.out _ _ _ F31.out.at XP1.out.at).mono ?_
      rintro e w34 ⟨rfl, hq35⟩
      have F36 := Lib.hid (F29.out.since hq35)
      clear F29
      have F37 := Lib.hid (F30.out.since hq35)
      clear F30
      have F38 := Lib.hid (F31.out.since hq35)
      clear F31
      have F39 := Lib.hid (F32.out.since hq35)
      clear F32
      have F40 := Lib.hid (XP1.out.since hq35)
      clear XP1
      have F41 := Lib.hid (XB1.out.since hq35)
      clear XB1
      have hs42 := hs33.trans hq35
      have zhs42 := hq35.size
      go_wp2_with fail
      have HKC : Hid (∀ w', Since w34 w' → w'.cell? ⟨w.heap.size, 0, none⟩ = some (.int .i64 x.st) ∧ w'.cell? ⟨w.heap.size, 1, none⟩ = some (.slice so0 pa0 sc0) ∧ w'.cell? ⟨w.heap.size, 2, none⟩ = some (.slice uo0 qa0 uc0) ∧ w'.cell? ⟨w.heap.size + 1, 0, none⟩ = some (.int .i64 z.st) ∧ w'.cell? ⟨w.heap.size + 1, 1, none⟩ = some (.slice so1 pa1 sc1) ∧ w'.cell? ⟨w.heap.size + 1, 2, none⟩ = some (.slice uo1 qa1 uc1) ∧ w'.cell? ⟨w16.heap.size, 0, none⟩ = some (.int .i64 x.st) ∧ w'.cell? ⟨w16.heap.size, 1, none⟩ = some (.slice xso0 x.ac.length xsc0) ∧ w'.cell? ⟨w16.heap.size, 2, none⟩ = some (.slice xuo0 x.nx.length xuc0) ∧ w'.cell? ⟨w24.heap.size, 0, none⟩ = some (.int .i64 z.st) ∧ w'.cell? ⟨w24.heap.size, 1, none⟩ = some (.slice xso1 z.ac.length xsc1) ∧ w'.cell? ⟨w24.heap.size, 2, none⟩ = some (.slice xuo1 z.nx.length xuc1)) := by
        intro w' hs
        obtain ⟨⟨r00, r01, r02⟩, _, _, _⟩ := (F36.out.since hs).threeA
        obtain ⟨⟨r10, r11, r12⟩, _, _, _⟩ := (F37.out.since hs).threeA
        obtain ⟨⟨r20, r21, r22⟩, _, _, _⟩ := (F39.out.since hs).threeA
        obtain ⟨⟨r30, r31, r32⟩, _, _, _⟩ := (F41.out.since hs).threeA
        exact ⟨r00, r01, r02, r10, r11, r12, r20, r21, r22, r30, r31, r32⟩
      refine wp_region_held_drew (S := (fun w' => w'.cell? ⟨w.heap.size, 0, none⟩ = some (.int .i64 x.st) ∧ w'.cell? ⟨w.heap.size, 1, none⟩ = some (.slice so0 pa0 sc0) ∧ w'.cell? ⟨w.heap.size, 2, none⟩ = some (.slice uo0 qa0 uc0) ∧ w'.cell? ⟨w.heap.size + 1, 0, none⟩ = some (.int .i64 z.st) ∧ w'.cell? ⟨w.heap.size + 1, 1, none⟩ = some (.slice so1 pa1 sc1) ∧ w'.cell? ⟨w.heap.size + 1, 2, none⟩ = some (.slice uo1 qa1 uc1) ∧ w'.cell? ⟨w16.heap.size, 0, none⟩ = some (.int .i64 x.st) ∧ w'.cell? ⟨w16.heap.size, 1, none⟩ = some (.slice xso0 x.ac.length xsc0) ∧ w'.cell? ⟨w16.heap.size, 2, none⟩ = some (.slice xuo0 x.nx.length xuc0) ∧ w'.cell? ⟨w24.heap.size, 0, none⟩ = some (.int .i64 z.st) ∧ w'.cell? ⟨w24.heap.size, 1, none⟩ = some (.slice xso1 z.ac.length xsc1) ∧ w'.cell? ⟨w24.heap.size, 2, none⟩ = some (.slice xuo1 z.nx.length xuc1))) (by kernel_rfl) (HKC.out _ (Since.refl _).drew) (fun hHeld => ?_)
      refine take_yes 0 (some 35) (v := ?_) rfl (by kernel_rfl) (by kernel_rfl) (by kernel_rfl) (by kernel_rfl) (fun _ _ _ h => h) (by rfl) (by assumption) ?_ ?_
      rotate_left
      · (intro w' hSw; (try dsimp only at hSw); go_simp; try with_reducible rfl)
      try simp only [Act.put, List.setIfInBounds_toArray, List.set_cons_zero, List.set_cons_succ]
      refine take_yes 1 (some 36) (v := ?_) rfl (by kernel_rfl) (by kernel_rfl) (by kernel_rfl) (by kernel_rfl) (fun _ _ _ h => h) (by rfl) (by assumption) ?_ ?_
      rotate_left
      · (intro w' hSw; (try dsimp only at hSw); go_simp; try with_reducible rfl)
      try simp only [Act.put, List.setIfInBounds_toArray, List.set_cons_zero, List.set_cons_succ]
      refine take_run 2 rfl (by kernel_rfl) (by rfl) (fun K hK => ?_)
      go_simp
      refine (toAutomaton_any _ x _ (H0.out.since hs42.drew) g10).mono ?_
      rintro e w43 ⟨va, rfl, hoa, hq44⟩
      have hc45 := Since.of_drew hq44
      refine hK.out _ _ (HKC.out _ hc45) (fun hHeld2 => ?_)
      clear hK K hHeld
      try simp only [Act.put, List.setIfInBounds_toArray, List.set_cons_zero, List.set_cons_succ]
      refine take_run 3 rfl (by kernel_rfl) (by rfl) (fun K hK => ?_)
      go_simp
      refine (eqAutomaton_any _ _ x x _ (F38.out.at.since hc45) hoa.at g40 g40).mono ?_
      rintro e w46 ⟨rfl, hq47⟩
      have hc48 := hc45.trans hq47
      refine hK.out _ _ (HKC.out _ hc48) (fun hHeld3 => ?_)
      clear hK K hHeld2
      try simp only [Act.put, List.setIfInBounds_toArray, List.set_cons_zero, List.set_cons_succ]
      refine take_yes 4 (some 39) (v := ?_) rfl (by kernel_rfl) (by kernel_rfl) (by kernel_rfl) (by kernel_rfl) (fun _ _ _ h => h) (by rfl) (by assumption) ?_ ?_
      rotate_left
      · (intro w' hSw; (try dsimp only at hSw); go_simp; try with_reducible rfl)
      try simp only [Act.put, List.setIfInBounds_toArray, List.set_cons_zero, List.set_cons_succ]
      refine wpAnyH_done (by kernel_rfl) ?_ _
      clear hHeld3 HKC hoa
      have F49 := Lib.hid (F36.out.since hc48)
      clear F36
      have F50 := Lib.hid (F37.out.since hc48)
      clear F37
      have F51 := Lib.hid (F38.out.since hc48)
      clear F38
      have F52 := Lib.hid (F39.out.since hc48)
      clear F39
      have F53 := Lib.hid (F40.out.since hc48)
      clear F40
      have F54 := Lib.hid (F41.out.since hc48)
      clear F41
      have hs55 := hs42.trans hc48
      have zhs55 := hc48.size
      go_wp2_with fail
      have HKC : Hid (∀ w', Since w46 w' → w'.cell? ⟨w.heap.size, 0, none⟩ = some (.int .i64 x.st) ∧ w'.cell? ⟨w.heap.size, 1, none⟩ = some (.slice so0 pa0 sc0) ∧ w'.cell? ⟨w.heap.size, 2, none⟩ = some (.slice uo0 qa0 uc0) ∧ w'.cell? ⟨w.heap.size + 1, 0, none⟩ = some (.int .i64 z.st) ∧ w'.cell? ⟨w.heap.size + 1, 1, none⟩ = some (.slice so1 pa1 sc1) ∧ w'.cell? ⟨w.heap.size + 1, 2, none⟩ = some (.slice uo1 qa1 uc1) ∧ w'.cell? ⟨w16.heap.size, 0, none⟩ = some (.int .i64 x.st) ∧ w'.cell? ⟨w16.heap.size, 1, none⟩ = some (.slice xso0 x.ac.length xsc0) ∧ w'.cell? ⟨w16.heap.size, 2, none⟩ = some (.slice xuo0 x.nx.length xuc0) ∧ w'.cell? ⟨w24.heap.size, 0, none⟩ = some (.int .i64 z.st) ∧ w'.cell? ⟨w24.heap.size, 1, none⟩ = some (.slice xso1 z.ac.length xsc1) ∧ w'.cell? ⟨w24.heap.size, 2, none⟩ = some (.slice xuo1 z.nx.length xuc1)) := by
        intro w' hs
        obtain ⟨⟨r00, r01, r02⟩, _, _, _⟩ := (F49.out.since hs).threeA
        obtain ⟨⟨r10, r11, r12⟩, _, _, _⟩ := (F50.out.since hs).threeA
        obtain ⟨⟨r20, r21, r22⟩, _, _, _⟩ := (F52.out.since hs).threeA
        obtain ⟨⟨r30, r31, r32⟩, _, _, _⟩ := (F54.out.since hs).threeA
        exact ⟨r00, r01, r02, r10, r11, r12, r20, r21, r22, r30, r31, r32⟩
      refine wp_region_held_drew (S := (fun w' => w'.cell? ⟨w.heap.size, 0, none⟩ = some (.int .i64 x.st) ∧ w'.cell? ⟨w.heap.size, 1, none⟩ = some (.slice so0 pa0 sc0) ∧ w'.cell? ⟨w.heap.size, 2, none⟩ = some (.slice uo0 qa0 uc0) ∧ w'.cell? ⟨w.heap.size + 1, 0, none⟩ = some (.int .i64 z.st) ∧ w'.cell? ⟨w.heap.size + 1, 1, none⟩ = some (.slice so1 pa1 sc1) ∧ w'.cell? ⟨w.heap.size + 1, 2, none⟩ = some (.slice uo1 qa1 uc1) ∧ w'.cell? ⟨w16.heap.size, 0, none⟩ = some (.int .i64 x.st) ∧ w'.cell? ⟨w16.heap.size, 1, none⟩ = some (.slice xso0 x.ac.length xsc0) ∧ w'.cell? ⟨w16.heap.size, 2, none⟩ = some (.slice xuo0 x.nx.length xuc0) ∧ w'.cell? ⟨w24.heap.size, 0, none⟩ = some (.int .i64 z.st) ∧ w'.cell? ⟨w24.heap.size, 1, none⟩ = some (.slice xso1 z.ac.length xsc1) ∧ w'.cell? ⟨w24.heap.size, 2, none⟩ = some (.slice xuo1 z.nx.length xuc1))) (by kernel_rfl) (HKC.out _ (Since.refl _).drew) (fun hHeld => ?_)
      refine take_yes 0 (some 40) (v := ?_) rfl (by kernel_rfl) (by kernel_rfl) (by kernel_rfl) (by kernel_rfl) (fun _ _ _ h => h) (by rfl) (by assumption) ?_ ?_
      rotate_left
      · (intro w' hSw; (try dsimp only at hSw); go_simp; try with_reducible rfl)
      try simp only [Act.put, List.setIfInBounds_toArray, List.set_cons_zero, List.set_cons_succ]
      refine take_yes 1 (some 41) (v := ?_) rfl (by kernel_rfl) (by kernel_rfl) (by kernel_rfl) (by kernel_rfl) (fun _ _ _ h => h) (by rfl) (by assumption) ?_ ?_
      rotate_left
      · (intro w' hSw; (try dsimp only at hSw); go_simp; try with_reducible rfl)
      try simp only [Act.put, List.setIfInBounds_toArray, List.set_cons_zero, List.set_cons_succ]
      refine take_run 2 rfl (by kernel_rfl) (by rfl) (fun K hK => ?_)
      go_simp
      refine (toAutomaton_any _ z _ (H1.out.since hs55.drew) g11).mono ?_
      rintro e w56 ⟨va, rfl, hoa, hq57⟩
      have hc58 := Since.of_drew hq57
      refine hK.out _ _ (HKC.out _ hc58) (fun hHeld2 => ?_)
      clear hK K hHeld
      try simp only [Act.put, List.setIfInBounds_toArray, List.set_cons_zero, List.set_cons_succ]
      refine take_run 3 rfl (by kernel_rfl) (by rfl) (fun K hK => ?_)
      go_simp
      refine (eqAutomaton_any _ _ z z _ (F53.out.at.since hc58) hoa.at g41 g41).mono ?_
      rintro e w59 ⟨rfl, hq60⟩
      have hc61 := hc58.trans hq60
      refine hK.out _ _ (HKC.out _ hc61) (fun hHeld3 => ?_)
      clear hK K hHeld2
      try simp only [Act.put, List.setIfInBounds_toArray, List.set_cons_zero, List.set_cons_succ]
      refine take_yes 4 (some 44) (v := ?_) rfl (by kernel_rfl) (by kernel_rfl) (by kernel_rfl) (by kernel_rfl) (fun _ _ _ h => h) (by rfl) (by assumption) ?_ ?_
      rotate_left
      · (intro w' hSw; (try dsimp only at hSw); go_simp; try with_reducible rfl)
      try simp only [Act.put, List.setIfInBounds_toArray, List.set_cons_zero, List.set_cons_succ]
      refine wpAnyH_done (by kernel_rfl) ?_ _
      clear hHeld3 HKC hoa
      have F62 := Lib.hid (F49.out.since hc61)
      clear F49
      have F63 := Lib.hid (F50.out.since hc61)
      clear F50
      have F64 := Lib.hid (F51.out.since hc61)
      clear F51
      have F65 := Lib.hid (F52.out.since hc61)
      clear F52
      have F66 := Lib.hid (F53.out.since hc61)
      clear F53
      have F67 := Lib.hid (F54.out.since hc61)
      clear F54
      have hs68 := hs55.trans hc61
      have zhs68 := hc61.size
      go_wp2
      go_ret
      exact ⟨rfl, hs68⟩
end Go.Proofs.Ytmaagihfjldgeaa
