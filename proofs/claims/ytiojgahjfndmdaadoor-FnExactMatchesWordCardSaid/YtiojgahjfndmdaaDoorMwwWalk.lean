/- The law of MatchesWord, walked. -/
import Derived.Test.YtiojgahjfndmdaaDoorTokL
import Derived.Test.YtiojgahjfndmdaaDoorOpenX
import Derived.Test.YtiojgahjfndmdaaDoorTbX
import Derived.Test.YtiojgahjfndmdaaDoorK1
namespace Go.Proofs.YtiojgahjfndmdaaDoor
set_option maxRecDepth 100000
open Go.ChangeShapes Go.WideShapes Go.ChangeAt Go.RowKit
set_option linter.unusedVariables false
set_option linter.unusedSimpArgs false

set_option maxHeartbeats 4000000 in
set_option maxRecDepth 100000 in
theorem fnExactMatchesWord_walk (v0 v1 : Value) (x : List Tok) (z : List Int) (w : World) (hfr : Forms w) (h0 : ExAt w v0 x) (h1 : IntsAt w v1 z) (hl0 : x.length ≤ maxLen) (hl1 : z.length ≤ maxLen) :
    Calls Tryd.prog 9 #[v0, v1] w fun e w' => e = .returned (.bool true) ∧ Since w w' := by
  have HFRM := Lib.hid hfr
  clear hfr
  have H0 := Lib.hid h0
  have HL0 := Lib.hid hl0
  obtain ⟨s0, rfl, hss0⟩ := h0
  obtain ⟨so0, sc0, rfl⟩ := hss0.len
  obtain ⟨p0, hp0⟩ : ∃ p, p = x.length := ⟨_, rfl⟩
  rw [← hp0] at H0 ⊢
  clear hp0 hl0
  have HZ := Lib.hid h1
  obtain ⟨zo, zc, rfl, _⟩ := h1.row
  clear h1
  obtain ⟨zn, hzn⟩ : ∃ zn, zn = z.length := ⟨_, rfl⟩
  rw [← hzn] at HZ hl1 ⊢
  have HZN := Lib.hid hzn
  clear hzn
  unfold maxLen at hl1
  obtain ⟨y0, hy0⟩ : ∃ y, y = (w.alloc (.cells #[.slice so0 p0 sc0] 52)) := ⟨_, rfl⟩
  have hs0 : Since w y0 := by rw [hy0]; exact (Since.refl w).alloc _
  have hz0 : w.heap.size + 1 = y0.heap.size := by rw [hy0]; simp
  have bx0 : Hid (Blk y0 (w.heap.size) 52 #[.slice so0 p0 sc0]) := by rw [hy0]; exact Blk.new (by simp) _ _
  by_cases hbig : 1048576 < zn
  · have hbi : (1048576 : Int) < (zn : Int) := by omega
    clear hbig
    go_enter Tryd.func9, Tryd.ntmps9
    go_wp2
    go_ret
    exact ⟨rfl, by first | exact hs0 | exact (hy0 ▸ hs0)⟩
  have hbi : ¬ ((1048576 : Int) < (zn : Int)) := by omega
  have gz : z.length ≤ 1048577 := by have := HZN.out; omega
  clear hbig
  obtain ⟨x0, hx0⟩ : ∃ zz, zz = szLeft x.length 1048576 := ⟨_, rfl⟩
  by_cases hz0 : x0 < 0
  · have HX0 := Lib.hid hx0
    clear hx0
    go_enter Tryd.func9, Tryd.ntmps9
    go_wp2_with fail
    rw [← hy0]
    clear hy0
    refine (szExpr_any _ x 1048576 x0 _ (H0.out.since hs0) HL0.out (by decide) (by decide) HX0.out.symm).mono ?_
    rintro e wz0 ⟨rfl, hsz0⟩
    have hz00 := hs0.trans hsz0
    go_wp2
    go_ret
    exact ⟨rfl, hz00⟩
  have lx0 : 0 ≤ x0 ∧ x0 ≤ 1048576 := by rw [hx0]; rw [hx0] at hz0; exact (szX_small (x := x) (left := 1048576) (by decide) hz0).1
  have g10 : x.length ≤ 1048577 := by rw [hx0] at hz0; exact (szX_small (x := x) (left := 1048576) (by decide) hz0).2
  have HX0 := Lib.hid hx0
  clear hx0
  have HS : Hid (∀ V U W, ExC W V x → IntsAt W U z → Calls Tryd.prog 28 #[V, U] W (fun e w' => e = .returned (.bool (mtX x z)) ∧ Since W w')) := fun V U W ka kb => specMW_any V U x z W ka g10 kb gz
  have HI : Hid (∀ V U W, Since w W → ExC W V x → IntsAt W U z → Calls Tryd.prog 27 #[V, U] W (fun e w' => e = .returned (.bool (mtX x z)) ∧ Since W w')) := fun V U W hW ka kb => implMW_any V U x z W (HFRM.out.since hW) ka g10 kb gz
  generalize mtX x z = R at HS HI
  have hv : (R != R) = false := by simp
  have dgg0 : decide (x = x) = true := by simp
  have dggz : decide (z = z) = true := by simp
  have g40 : x.length ≤ 1152921504606846976 := by omega
  have g60 : x.length ≤ 288230376151711744 := by omega
  have g4z : z.length ≤ 4611686018427387904 := by omega
  have g6z : z.length ≤ 2305843009213693952 := by omega
  go_enter Tryd.func9, Tryd.ntmps9
  go_wp2_with fail
  rw [← hy0]
  clear hy0
  refine (szExpr_any _ x 1048576 x0 _ (H0.out.since hs0) HL0.out (by decide) (by decide) HX0.out.symm).mono ?_
  rintro e wz0 ⟨rfl, hsz0⟩
  have F1 := Lib.hid (bx0.out.since hsz0)
  clear bx0
  have hs2 := hs0.trans hsz0
  have zhs2 := hsz0.size
  obtain ⟨p0, _⟩ := F1.out.one
  go_wp2_with fail
  clear p0
  refine (toExpr_any _ x _ (H0.out.since hs2) g10).mono ?_
  rintro e w3 ⟨va, rfl, hoa, hq4⟩
  have F5 := Lib.hid (F1.out.since hq4)
  clear F1
  have hs6 := hs2.trans hq4
  have zhs6 := hq4.size
  have F7 := Lib.hid hoa
  clear hoa
  go_wp2_with fail
  refine (toIntS_any _ z _ (HZ.out.since hs6) gz).mono ?_
  rintro e w8 ⟨vn, rfl, hon, hq9⟩
  have F10 := Lib.hid (F5.out.since hq9)
  clear F5
  have F11 := Lib.hid (F7.out.since hq9)
  clear F7
  have hs12 := hs6.trans hq9
  have zhs12 := hq9.size
  have F13 := Lib.hid hon
  clear hon
  go_wp2_with fail
  refine (HS.out _ _ _ F11.out.atC F13.out.at).mono ?_
  rintro e w14 ⟨rfl, hq15⟩
  clear F11 F13
  have F16 := Lib.hid (F10.out.since hq15)
  clear F10
  have hs17 := hs12.trans hq15
  have zhs17 := hq15.size
  obtain ⟨p0, _⟩ := F16.out.one
  go_wp2_with fail
  clear p0
  refine (toExpr_any _ x _ (H0.out.since hs17) g10).mono ?_
  rintro e w18 ⟨vx, rfl, hox, hq19⟩
  have F20 := Lib.hid (F16.out.since hq19)
  clear F16
  have hs21 := hs17.trans hq19
  have zhs21 := hq19.size
  have F22 := Lib.hid hox
  obtain ⟨xs, rfl, xk, _⟩ := hox
  obtain ⟨xo, xc, rfl⟩ := xk.len
  clear xk
  obtain ⟨y23, hy23⟩ : ∃ y, y = w18.alloc (.cells #[.slice xo x.length xc] 26) := ⟨_, rfl⟩
  have ha24 : Since w18 y23 := by rw [hy23]; exact (Since.refl w18).alloc _
  have zby23 : w18.heap.size + 1 = y23.heap.size := by rw [hy23]; simp
  have B25 : Hid (Blk y23 w18.heap.size 26 #[.slice xo x.length xc]) := by rw [hy23]; exact Blk.new rfl _ _
  have F26 := Lib.hid (F20.out.since ha24)
  clear F20
  have F27 := Lib.hid (F22.out.since ha24)
  clear F22
  have hs28 := hs21.trans ha24
  have zhs28 := ha24.size
  go_wp2_with fail
  rw [← hy23]
  clear hy23 
  refine (toIntS_any _ z _ (HZ.out.since hs28) gz).mono ?_
  rintro e w29 ⟨vz, rfl, hoz, hq30⟩
  have F31 := Lib.hid (F26.out.since hq30)
  clear F26
  have F32 := Lib.hid (F27.out.since hq30)
  clear F27
  have F33 := Lib.hid (B25.out.since hq30)
  clear B25
  have hs34 := hs28.trans hq30
  have zhs34 := hq30.size
  have F35 := Lib.hid hoz
  have RZ : InR y23.heap.size w29.heap.size vz := hoz.inR
  clear hoz
  obtain ⟨p0, _⟩ := F33.out.one
  go_wp2_with fail
  clear p0
  refine (HI.out _ _ _ hs34 F32.out.atC F35.out.at).mono ?_
  rintro e w36 ⟨rfl, hq37⟩
  have F38 := Lib.hid (F31.out.since hq37)
  clear F31
  have F39 := Lib.hid (F32.out.since hq37)
  clear F32
  have F40 := Lib.hid (F33.out.since hq37)
  clear F33
  have F41 := Lib.hid (F35.out.since hq37)
  clear F35
  have hs42 := hs34.trans hq37
  have zhs42 := hq37.size
  go_wp2_with fail
  have HKC : Hid (∀ w', Since w36 w' → w'.cell? ⟨w.heap.size, 0, none⟩ = some (.slice so0 p0 sc0) ∧ w'.cell? ⟨w18.heap.size, 0, none⟩ = some (.slice xo x.length xc)) := fun w' hs => ⟨(F38.out.since hs).one.1, (F40.out.since hs).one.1⟩
  refine wp_region_held_drew (S := (fun w' => w'.cell? ⟨w.heap.size, 0, none⟩ = some (.slice so0 p0 sc0) ∧ w'.cell? ⟨w18.heap.size, 0, none⟩ = some (.slice xo x.length xc))) (by kernel_rfl) (HKC.out _ (Since.refl _).drew) (fun hHeld => ?_)
  refine take_yes 0 (some 33) (v := ?_) rfl (by kernel_rfl) (by kernel_rfl) (by kernel_rfl) (by kernel_rfl) (fun _ _ _ h => h) (by rfl) (by assumption) ?_ ?_
  rotate_left
  · (intro w' hSw; (try dsimp only at hSw); go_simp; try with_reducible rfl)
  try simp only [Act.put, List.setIfInBounds_toArray, List.set_cons_zero, List.set_cons_succ]
  refine take_yes 1 (some 34) (v := ?_) rfl (by kernel_rfl) (by kernel_rfl) (by kernel_rfl) (by kernel_rfl) (fun _ _ _ h => h) (by rfl) (by assumption) ?_ ?_
  rotate_left
  · (intro w' hSw; (try dsimp only at hSw); go_simp; try with_reducible rfl)
  try simp only [Act.put, List.setIfInBounds_toArray, List.set_cons_zero, List.set_cons_succ]
  refine take_run 2 rfl (by kernel_rfl) (by rfl) (fun K hK => ?_)
  go_simp
  refine (toExpr_any _ x _ (H0.out.since hs42.drew) g10).mono ?_
  rintro e w43 ⟨va, rfl, hoa, hq44⟩
  have hc45 := Since.of_drew hq44
  refine hK.out _ _ (HKC.out _ hc45) (fun hHeld2 => ?_)
  clear hK K hHeld
  try simp only [Act.put, List.setIfInBounds_toArray, List.set_cons_zero, List.set_cons_succ]
  refine take_run 3 rfl (by kernel_rfl) (by rfl) (fun K hK => ?_)
  go_simp
  refine (eqExpr_any _ _ x x _ (F39.out.at.since hc45) hoa.at g40 g40).mono ?_
  rintro e w46 ⟨rfl, hq47⟩
  have hc48 := hc45.trans hq47
  refine hK.out _ _ (HKC.out _ hc48) (fun hHeld3 => ?_)
  clear hK K hHeld2
  try simp only [Act.put, List.setIfInBounds_toArray, List.set_cons_zero, List.set_cons_succ]
  refine take_yes 4 (some 37) (v := ?_) rfl (by kernel_rfl) (by kernel_rfl) (by kernel_rfl) (by kernel_rfl) (fun _ _ _ h => h) (by rfl) (by assumption) ?_ ?_
  rotate_left
  · (intro w' hSw; (try dsimp only at hSw); go_simp; try with_reducible rfl)
  try simp only [Act.put, List.setIfInBounds_toArray, List.set_cons_zero, List.set_cons_succ]
  refine wpAnyH_done (by kernel_rfl) ?_ _
  clear hHeld3 HKC hoa
  have F49 := Lib.hid (F38.out.since hc48)
  clear F38
  have F50 := Lib.hid (F39.out.since hc48)
  clear F39
  have F51 := Lib.hid (F40.out.since hc48)
  clear F40
  have F52 := Lib.hid (F41.out.since hc48)
  clear F41
  have hs53 := hs42.trans hc48
  have zhs53 := hc48.size
  go_wp2_with fail
  refine (toIntS_any _ z _ (HZ.out.since hs53) gz).mono ?_
  rintro e w54 ⟨vq, rfl, hoq, hq55⟩
  have F56 := Lib.hid (F49.out.since hq55)
  clear F49
  have F57 := Lib.hid (F50.out.since hq55)
  clear F50
  have F58 := Lib.hid (F51.out.since hq55)
  clear F51
  have F59 := Lib.hid (F52.out.since hq55)
  clear F52
  have hs60 := hs53.trans hq55
  have zhs60 := hq55.size
  have F61 := Lib.hid hoq
  clear hoq
  go_wp2_with fail
  refine (eqIntS_any _ _ z z _ F59.out.at F61.out.at g4z g4z).mono ?_
  rintro e w62 ⟨rfl, hq63⟩
  clear F61
  have F64 := Lib.hid (F56.out.since hq63)
  clear F56
  have F65 := Lib.hid (F57.out.since hq63)
  clear F57
  have F66 := Lib.hid (F58.out.since hq63)
  clear F58
  have F67 := Lib.hid (F59.out.since hq63)
  clear F59
  have hs68 := hs60.trans hq63
  have zhs68 := hq63.size
  go_wp2
  go_ret
  exact ⟨rfl, hs68⟩
end Go.Proofs.YtiojgahjfndmdaaDoor
