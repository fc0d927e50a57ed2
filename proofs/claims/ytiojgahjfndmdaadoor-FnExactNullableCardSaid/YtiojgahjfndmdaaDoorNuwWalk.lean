/- The law of Nullable, walked. -/
import Derived.Test.YtiojgahjfndmdaaDoorTokL
import Derived.Test.YtiojgahjfndmdaaDoorOpenX
import Derived.Test.YtiojgahjfndmdaaDoorNul
import Derived.Test.YtiojgahjfndmdaaDoorK1
namespace Go.Proofs.YtiojgahjfndmdaaDoor
set_option maxRecDepth 100000
open Go.ChangeShapes Go.WideShapes Go.ChangeAt Go.RowKit
set_option linter.unusedVariables false
set_option linter.unusedSimpArgs false

set_option maxHeartbeats 4000000 in
set_option maxRecDepth 100000 in
theorem fnExactNullable_walk (v0 : Value) (x : List Tok) (w : World) (hfr : Forms w) (h0 : ExAt w v0 x) (hl0 : x.length ≤ maxLen) :
    Calls Tryd.prog 6 #[v0] w fun e w' => e = .returned (.bool true) ∧ Since w w' := by
  have HFRM := Lib.hid hfr
  clear hfr
  have H0 := Lib.hid h0
  have HL0 := Lib.hid hl0
  obtain ⟨s0, rfl, hss0⟩ := h0
  obtain ⟨so0, sc0, rfl⟩ := hss0.len
  obtain ⟨p0, hp0⟩ : ∃ p, p = x.length := ⟨_, rfl⟩
  rw [← hp0] at H0 ⊢
  clear hp0 hl0
  obtain ⟨y0, hy0⟩ : ∃ y, y = (w.alloc (.cells #[.slice so0 p0 sc0] 52)) := ⟨_, rfl⟩
  have hs0 : Since w y0 := by rw [hy0]; exact (Since.refl w).alloc _
  have hz0 : w.heap.size + 1 = y0.heap.size := by rw [hy0]; simp
  have bx0 : Hid (Blk y0 (w.heap.size) 52 #[.slice so0 p0 sc0]) := by rw [hy0]; exact Blk.new (by simp) _ _
  obtain ⟨x0, hx0⟩ : ∃ zz, zz = szLeft x.length 1048576 := ⟨_, rfl⟩
  by_cases hz0 : x0 < 0
  · have HX0 := Lib.hid hx0
    clear hx0
    go_enter Tryd.func6, Tryd.ntmps6
    go_wp2_with fail
    rw [← hy0]
    clear hy0
    refine (szExpr_any _ x 1048576 x0 _ (H0.out.since hs0) HL0.out (by decide) (by decide) HX0.out.symm).mono ?_
    rintro e wz0 ⟨rfl, hsz0⟩
    have hz00 := hs0.trans hsz0
    have hzz0 := hsz0.size
    have bz0_0 := Lib.hid (bx0.out.since hsz0)
    clear bx0
    clear hs0 hsz0
    go_wp2
    go_ret
    exact ⟨rfl, hz00⟩
  · have lx0 : 0 ≤ x0 ∧ x0 ≤ 1048576 := by rw [hx0]; rw [hx0] at hz0; exact (szX_small (x := x) (left := 1048576) (by decide) hz0).1
    have g10 : x.length ≤ 1048577 := by rw [hx0] at hz0; exact (szX_small (x := x) (left := 1048576) (by decide) hz0).2
    have HX0 := Lib.hid hx0
    clear hx0
    have HS : Hid (∀ V0 W, ExC W V0 x → Calls Tryd.prog 24 #[V0] W (fun e w' => e = .returned (.bool (nulX x)) ∧ Since W w')) := fun V0 W k0 => specNU_any V0 x W k0 g10
    have HI : Hid (∀ V0 W, Since w W → ExC W V0 x → Calls Tryd.prog 23 #[V0] W (fun e w' => e = .returned (.bool (nulX x)) ∧ Since W w')) := fun V0 W hW k0 => implNU_any V0 x W (HFRM.out.since hW) k0 g10
    generalize nulX x = R at HS HI
    have hv : (R != R) = false := by simp
    have dgg0 : decide (x = x) = true := by simp
    have g40 : x.length ≤ 1152921504606846976 := by omega
    have g60 : x.length ≤ 288230376151711744 := by omega
    go_enter Tryd.func6, Tryd.ntmps6
    go_wp2_with fail
    rw [← hy0]
    clear hy0
    refine (szExpr_any _ x 1048576 x0 _ (H0.out.since hs0) HL0.out (by decide) (by decide) HX0.out.symm).mono ?_
    rintro e wz0 ⟨rfl, hsz0⟩
    have hz00 := hs0.trans hsz0
    have hzz0 := hsz0.size
    have bz0_0 := Lib.hid (bx0.out.since hsz0)
    clear bx0
    clear hs0 hsz0
    obtain ⟨p0, _⟩ := bz0_0.out.one
    go_wp2_with fail
    clear p0
    refine (toExpr_any _ x _ (H0.out.since hz00) g10).mono ?_
    rintro e w1 ⟨va, rfl, hoa, hq2⟩
    have F3 := Lib.hid (bz0_0.out.since hq2)
    clear bz0_0
    have hs4 := hz00.trans hq2
    have zhs4 := hq2.size
    go_wp2_with fail
    refine (HS.out _ _ hoa.atC).mono ?_
    rintro e w5 ⟨rfl, hq6⟩
    clear hoa
    have F7 := Lib.hid (F3.out.since hq6)
    clear F3
    have hs8 := hs4.trans hq6
    have zhs8 := hq6.size
    obtain ⟨p0, _⟩ := F7.out.one
    go_wp2_with fail
    clear p0
    refine (toExpr_any _ x _ (H0.out.since hs8) g10).mono ?_
    rintro e w9 ⟨vx0, rfl, hox0, hq10⟩
    have XO0 := Lib.hid hox0
    obtain ⟨xa0, rfl, ka, _⟩ := hox0
    obtain ⟨xso0, xsc0, rfl⟩ := ka.len
    clear ka
    obtain ⟨y11, hy11⟩ : ∃ y, y = w9.alloc (.cells #[.slice xso0 x.length xsc0] 26) := ⟨_, rfl⟩
    have ha12 : Since w9 y11 := by rw [hy11]; exact (Since.refl w9).alloc _
    have zy0 : w9.heap.size + 1 = y11.heap.size := by rw [hy11]; simp
    have XB0 : Hid (Blk y11 w9.heap.size 26 #[.slice xso0 x.length xsc0]) := by rw [hy11]; exact Blk.new rfl _ _
    have XP0 := Lib.hid (XO0.out.since ha12)
    clear XO0
    have hc13 := hq10.trans ha12
    have zq0 := hq10.size
    have F14 := Lib.hid (F7.out.since hc13)
    clear F7
    have hs15 := hs8.trans hc13
    have zhs15 := hc13.size
    obtain ⟨q00, _⟩ := XB0.out.one
    rw [hy11] at q00
    go_wp2_with fail
    rw [← hy11]
    clear hy11 q00
    refine (HI.out _ _ hs15 XP0.out.atC).mono ?_
    rintro e w16 ⟨rfl, hq17⟩
    have F18 := Lib.hid (F14.out.since hq17)
    clear F14
    have F19 := Lib.hid (XP0.out.since hq17)
    clear XP0
    have F20 := Lib.hid (XB0.out.since hq17)
    clear XB0
    have hs21 := hs15.trans hq17
    have zhs21 := hq17.size
    go_wp2_with fail
    have HKC : Hid (∀ w', Since w16 w' → w'.cell? ⟨w.heap.size, 0, none⟩ = some (.slice so0 p0 sc0) ∧ w'.cell? ⟨w9.heap.size, 0, none⟩ = some (.slice xso0 x.length xsc0)) := by
      intro w' hs
      obtain ⟨r00, _⟩ := (F18.out.since hs).one
      obtain ⟨r10, _⟩ := (F20.out.since hs).one
      exact ⟨r00, r10⟩
    refine wp_region_held_drew (S := (fun w' => w'.cell? ⟨w.heap.size, 0, none⟩ = some (.slice so0 p0 sc0) ∧ w'.cell? ⟨w9.heap.size, 0, none⟩ = some (.slice xso0 x.length xsc0))) (by kernel_rfl) (HKC.out _ (Since.refl _).drew) (fun hHeld => ?_)
    refine take_yes 0 (some 22) (v := ?_) rfl (by kernel_rfl) (by kernel_rfl) (by kernel_rfl) (by kernel_rfl) (fun _ _ _ h => h) (by rfl) (by assumption) ?_ ?_
    rotate_left
    · (intro w' hSw; (try dsimp only at hSw); go_simp; try with_reducible rfl)
    try simp only [Act.put, List.setIfInBounds_toArray, List.set_cons_zero, List.set_cons_succ]
    refine take_yes 1 (some 23) (v := ?_) rfl (by kernel_rfl) (by kernel_rfl) (by kernel_rfl) (by kernel_rfl) (fun _ _ _ h => h) (by rfl) (by assumption) ?_ ?_
    rotate_left
    · (intro w' hSw; (try dsimp only at hSw); go_simp; try with_reducible rfl)
    try simp only [Act.put, List.setIfInBounds_toArray, List.set_cons_zero, List.set_cons_succ]
    refine take_run 2 rfl (by kernel_rfl) (by rfl) (fun K hK => ?_)
    go_simp
    refine (toExpr_any _ x _ (H0.out.since hs21.drew) g10).mono ?_
    rintro e w22 ⟨va, rfl, hoa, hq23⟩
    have hc24 := Since.of_drew hq23
    refine hK.out _ _ (HKC.out _ hc24) (fun hHeld2 => ?_)
    clear hK K hHeld
    try simp only [Act.put, List.setIfInBounds_toArray, List.set_cons_zero, List.set_cons_succ]
    refine take_run 3 rfl (by kernel_rfl) (by rfl) (fun K hK => ?_)
    go_simp
    refine (eqExpr_any _ _ x x _ (F19.out.at.since hc24) hoa.at g40 g40).mono ?_
    rintro e w25 ⟨rfl, hq26⟩
    have hc27 := hc24.trans hq26
    refine hK.out _ _ (HKC.out _ hc27) (fun hHeld3 => ?_)
    clear hK K hHeld2
    try simp only [Act.put, List.setIfInBounds_toArray, List.set_cons_zero, List.set_cons_succ]
    refine take_yes 4 (some 26) (v := ?_) rfl (by kernel_rfl) (by kernel_rfl) (by kernel_rfl) (by kernel_rfl) (fun _ _ _ h => h) (by rfl) (by assumption) ?_ ?_
    rotate_left
    · (intro w' hSw; (try dsimp only at hSw); go_simp; try with_reducible rfl)
    try simp only [Act.put, List.setIfInBounds_toArray, List.set_cons_zero, List.set_cons_succ]
    refine wpAnyH_done (by kernel_rfl) ?_ _
    clear hHeld3 HKC hoa
    have F28 := Lib.hid (F18.out.since hc27)
    clear F18
    have F29 := Lib.hid (F19.out.since hc27)
    clear F19
    have F30 := Lib.hid (F20.out.since hc27)
    clear F20
    have hs31 := hs21.trans hc27
    have zhs31 := hc27.size
    go_wp2
    go_ret
    exact ⟨rfl, hs31⟩
end Go.Proofs.YtiojgahjfndmdaaDoor
