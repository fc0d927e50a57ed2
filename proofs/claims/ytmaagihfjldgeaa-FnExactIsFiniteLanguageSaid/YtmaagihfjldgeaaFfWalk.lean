/- The law of IsFiniteLanguage, walked. -/
import Derived.Test.YtmaagihfjldgeaaA1
import Derived.Test.YtmaagihfjldgeaaFnJ
import Derived.Test.YtmaagihfjldgeaaOpenI
import Derived.Test.YtmaagihfjldgeaaK1
namespace Go.Proofs.Ytmaagihfjldgeaa
set_option maxRecDepth 100000
open Go.ChangeShapes Go.WideShapes Go.ChangeAt Go.RowKit
set_option linter.unusedVariables false
set_option linter.unusedSimpArgs false

set_option maxHeartbeats 4000000 in
set_option maxRecDepth 100000 in
theorem fnExactIsFiniteLanguage_walk (v0 : Value) (x : Aut) (w : World) (h0 : AutAt w v0 x) (hl0 : MxA x) :
    Calls Try.prog 18 #[v0] w fun e w' => e = .returned (.bool true) ∧ Since w w' := by
  have H0 := Lib.hid h0
  have HL0 := Lib.hid hl0
  obtain ⟨sa0, sb0, rfl, _, ha0, hb0⟩ := h0
  obtain ⟨so0, sc0, rfl⟩ := ha0.len
  obtain ⟨uo0, uc0, rfl⟩ := hb0.len
  clear ha0 hb0
  obtain ⟨pa0, hp0⟩ : ∃ n, n = x.ac.length := ⟨_, rfl⟩
  obtain ⟨qa0, hq0⟩ : ∃ m, m = x.nx.length := ⟨_, rfl⟩
  rw [← hp0, ← hq0] at H0 ⊢
  clear hp0 hq0 hl0
  obtain ⟨y0, hy0⟩ : ∃ y, y = (w.alloc (.cells #[.int .i64 x.st, .slice so0 pa0 sc0, .slice uo0 qa0 uc0] 58)) := ⟨_, rfl⟩
  have hs0 : Since w y0 := by rw [hy0]; exact (Since.refl w).alloc _
  have hz0 : w.heap.size + 1 = y0.heap.size := by rw [hy0]; simp
  have bx0 : Hid (Blk y0 (w.heap.size) 58 #[.int .i64 x.st, .slice so0 pa0 sc0, .slice uo0 qa0 uc0]) := by rw [hy0]; exact Blk.new (by simp) _ _
  obtain ⟨x0, hx0⟩ : ∃ zz, zz = szA x 1048576 := ⟨_, rfl⟩
  by_cases hz0 : x0 < 0
  · have HX0 := Lib.hid hx0
    clear hx0
    go_enter Try.func18, Try.ntmps18
    go_wp2_with fail
    rw [← hy0]
    clear hy0
    refine (szAu_is _ x 1048576 x0 _ (H0.out.since hs0) HL0.out (by decide) (by decide) HX0.out.symm).mono ?_
    rintro e wz0 ⟨rfl, hsz0⟩
    have hz00 := hs0.trans hsz0
    have hzz0 := hsz0.size
    have bz0_0 := Lib.hid (bx0.out.since hsz0)
    clear bx0
    clear hs0 hsz0
    go_wp2
    go_ret
    exact ⟨rfl, hz00⟩
  · have lx0 : 0 ≤ x0 ∧ x0 ≤ 1048576 := by rw [hx0]; rw [hx0] at hz0; exact (szA_smallB (A := x) (left := 1048576) (by decide) hz0).1
    have g10 : SmA x := by rw [hx0] at hz0; exact (szA_smallB (A := x) (left := 1048576) (by decide) hz0).2
    have HX0 := Lib.hid hx0
    clear hx0
    obtain ⟨f, hf⟩ := pred_bool (LiveP x); obtain ⟨g, hg⟩ := pred_bool (RchP x)
    have HS : Hid (∀ V0 W, AutAt W V0 x → Calls Try.prog 69 #[V0] W (fun e w' => e = .returned (.bool (finB x f g)) ∧ Since W w')) := fun V0 W k0 => specFI_any V0 x f g W k0 HL0.out hf hg
    have HI : Hid (∀ V0 W, AutAt W V0 x → Calls Try.prog 70 #[V0] W (fun e w' => e = .returned (.bool (finB x f g)) ∧ Since W w')) := fun V0 W k0 => implFI_any V0 x f g W k0 HL0.out hf hg
    generalize finB x f g = R at HS HI
    have hv : (R != R) = false := by simp
    have dgg0 : decide (x = x) = true := by simp
    have g40 := g10.bg
    have g60 := g10.bg
    go_enter Try.func18, Try.ntmps18
    go_wp2_with fail
    rw [← hy0]
    clear hy0
    refine (szAu_is _ x 1048576 x0 _ (H0.out.since hs0) HL0.out (by decide) (by decide) HX0.out.symm).mono ?_
    rintro e wz0 ⟨rfl, hsz0⟩
    have hz00 := hs0.trans hsz0
    have hzz0 := hsz0.size
    have bz0_0 := Lib.hid (bx0.out.since hsz0)
    clear bx0
    clear hs0 hsz0
    obtain ⟨⟨p0, p1, p2⟩, _, _, _⟩ := bz0_0.out.threeA
    go_wp2_with fail
    clear p0 p1 p2
    refine (toAutomaton_any _ x _ (H0.out.since hz00) g10).mono ?_
    rintro e w1 ⟨va, rfl, hoa, hq2⟩
    have F3 := Lib.hid (bz0_0.out.since hq2)
    clear bz0_0
    have hs4 := hz00.trans hq2
    have zhs4 := hq2.size
    go_wp2_with fail
    refine (HS.out _ _ hoa.at).mono ?_
    rintro e w5 ⟨rfl, hq6⟩
    clear hoa
    have F7 := Lib.hid (F3.out.since hq6)
    clear F3
    have hs8 := hs4.trans hq6
    have zhs8 := hq6.size
    obtain ⟨⟨p0, p1, p2⟩, _, _, _⟩ := F7.out.threeA
    go_wp2_with fail
    clear p0 p1 p2
    refine (toAutomaton_any _ x _ (H0.out.since hs8) g10).mono ?_
    rintro e w9 ⟨vx0, rfl, hox0, hq10⟩
    have XO0 := Lib.hid hox0
    obtain ⟨xa0, xb0, rfl, _, ka, _, kb⟩ := hox0
    obtain ⟨xso0, xsc0, rfl⟩ := ka.len
    obtain ⟨xuo0, xuc0, rfl⟩ := kb.len
    clear ka kb
    obtain ⟨y11, hy11⟩ : ∃ y, y = w9.alloc (.cells #[.int .i64 x.st, .slice xso0 x.ac.length xsc0, .slice xuo0 x.nx.length xuc0] 39) := ⟨_, rfl⟩
    have ha12 : Since w9 y11 := by rw [hy11]; exact (Since.refl w9).alloc _
    have zy0 : w9.heap.size + 1 = y11.heap.size := by rw [hy11]; simp
    have XB0 : Hid (Blk y11 w9.heap.size 39 #[.int .i64 x.st, .slice xso0 x.ac.length xsc0, .slice xuo0 x.nx.length xuc0]) := by rw [hy11]; exact Blk.new rfl _ _
    have XP0 := Lib.hid (XO0.out.since ha12)
    clear XO0
    have hc13 := hq10.trans ha12
    have zq0 := hq10.size
    have F14 := Lib.hid (F7.out.since hc13)
    clear F7
    have hs15 := hs8.trans hc13
    have zhs15 := hc13.size
    obtain ⟨⟨q00, q01, q02⟩, _, _, _⟩ := XB0.out.threeA
    rw [hy11] at q00 q01 q02
    go_wp2_with fail
    rw [← hy11]
    clear hy11 q00 q01 q02
    refine (HI.out _ _ XP0.out.at).mono ?_
    rintro e w16 ⟨rfl, hq17⟩
    have F18 := Lib.hid (F14.out.since hq17)
    clear F14
    have F19 := Lib.hid (XP0.out.since hq17)
    clear XP0
    have F20 := Lib.hid (XB0.out.since hq17)
    clear XB0
    have hs21 := hs15.trans hq17
    have zhs21 := hq17.size
    go_wp2_with fail
    have HKC : Hid (∀ w', Since w16 w' → w'.cell? ⟨w.heap.size, 0, none⟩ = some (.int .i64 x.st) ∧ w'.cell? ⟨w.heap.size, 1, none⟩ = some (.slice so0 pa0 sc0) ∧ w'.cell? ⟨w.heap.size, 2, none⟩ = some (.slice uo0 qa0 uc0) ∧ w'.cell? ⟨w9.heap.size, 0, none⟩ = some (.int .i64 x.st) ∧ w'.cell? ⟨w9.heap.size, 1, none⟩ = some (.slice xso0 x.ac.length xsc0) ∧ w'.cell? ⟨w9.heap.size, 2, none⟩ = some (.slice xuo0 x.nx.length xuc0)) := by
      intro w' hs
      obtain ⟨⟨r00, r01, r02⟩, _, _, _⟩ := (F18.out.since hs).threeA
      obtain ⟨⟨r10, r11, r12⟩, _, _, _⟩ := (F20.out.since hs).threeA
      exact ⟨r00, r01, r02, r10, r11, r12⟩
    refine wp_region_held_drew (S := (fun w' => w'.cell? ⟨w.heap.size, 0, none⟩ = some (.int .i64 x.st) ∧ w'.cell? ⟨w.heap.size, 1, none⟩ = some (.slice so0 pa0 sc0) ∧ w'.cell? ⟨w.heap.size, 2, none⟩ = some (.slice uo0 qa0 uc0) ∧ w'.cell? ⟨w9.heap.size, 0, none⟩ = some (.int .i64 x.st) ∧ w'.cell? ⟨w9.heap.size, 1, none⟩ = some (.slice xso0 x.ac.length xsc0) ∧ w'.cell? ⟨w9.heap.size, 2, none⟩ = some (.slice xuo0 x.nx.length xuc0))) (by kernel_rfl) (HKC.out _ (Since.refl _).drew) (fun hHeld => ?_)
    refine take_yes 0 (some 22) (v := ?_) rfl (by kernel_rfl) (by kernel_rfl) (by kernel_rfl) (by kernel_rfl) (fun _ _ _ h => h) (by rfl) (by assumption) ?_ ?_
    rotate_left
    · (intro w' hSw; (try dsimp only at hSw); go_simp; try with_reducible rfl)
    try simp only [Act.put, List.setIfInBounds_toArray, List.set_cons_zero, List.set_cons_succ]
    refine take_yes 1 (some 23) (v := ?_) rfl (by kernel_rfl) (by kernel_rfl) (by kernel_rfl) (by kernel_rfl) (fun _ _ _ h => h) (by rfl) (by assumption) ?_ ?_
    rotate_left
    · (intro w' hSw; (try dsimp only at hSw); go_simp; try with_reducible rfl)
    try simp only [Act.put, List.setIfInBounds_toArray, List.set_cons_zero, List.set_cons_succ]
    refine take_run 2 rfl (by kernel_rfl) (by rfl) (fun K hK => ?_)
    go_simp
    refine (toAutomaton_any _ x _ (H0.out.since hs21.drew) g10).mono ?_
    rintro e w22 ⟨va, rfl, hoa, hq23⟩
    have hc24 := Since.of_drew hq23
    refine hK.out _ _ (HKC.out _ hc24) (fun hHeld2 => ?_)
    clear hK K hHeld
    try simp only [Act.put, List.setIfInBounds_toArray, List.set_cons_zero, List.set_cons_succ]
    refine take_run 3 rfl (by kernel_rfl) (by rfl) (fun K hK => ?_)
    go_simp
    refine (eqAutomaton_any _ _ x x _ (F19.out.at.since hc24) hoa.at g40 g40).mono ?_
    rintro e w25 ⟨rfl, hq26⟩
    have hc27 := hc24.trans hq26
    refine hK.out _ _ (HKC.out _ hc27) (fun hHeld3 => ?_)
    clear hK K hHeld2
    try simp only [Act.put, List.setIfInBounds_toArray, List.set_cons_zero, List.set_cons_succ]
    refine take_yes 4 (some 26) (v := ?_) rfl (by kernel_rfl) (by kernel_rfl) (by kernel_rfl) (by kernel_rfl) (fun _ _ _ h => h) (by rfl) (by assumption) ?_ ?_
    rotate_left
    · (intro w' hSw; (try dsimp only at hSw); go_simp; try with_reducible rfl)
    try simp only [Act.put, List.setIfInBounds_toArray, List.set_cons_zero, List.set_cons_succ]
    refine wpAnyH_done (by kernel_rfl) ?_ _
    clear hHeld3 HKC hoa
    have F28 := Lib.hid (F18.out.since hc27)
    clear F18
    have F29 := Lib.hid (F19.out.since hc27)
    clear F19
    have F30 := Lib.hid (F20.out.since hc27)
    clear F20
    have hs31 := hs21.trans hc27
    have zhs31 := hc27.size
    go_wp2
    go_ret
    exact ⟨rfl, hs31⟩
end Go.Proofs.Ytmaagihfjldgeaa
