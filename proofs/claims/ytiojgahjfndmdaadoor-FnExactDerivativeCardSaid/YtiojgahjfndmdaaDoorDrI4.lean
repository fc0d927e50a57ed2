/- Derivatives of trees, the program's: concatenations. -/
import Derived.Test.YtiojgahjfndmdaaDoorDrI0
namespace Go.Proofs.YtiojgahjfndmdaaDoor
set_option maxRecDepth 100000
open Go.ChangeShapes Go.WideShapes Go.ChangeAt Go.RowKit
set_option linter.unusedVariables false
set_option linter.unusedSimpArgs false


set_option maxHeartbeats 4000000 in
set_option maxRecDepth 100000 in
theorem derI_cat (c lr lo hi : Int) (l r : Tr) (hl : DerI c l) (hr : DerI c r) : DerI c (.node ⟨4, lr, lo, hi⟩ l r) := by
    intro a0 b0 v w hv hok hlen
    obtain ⟨htok, hcase⟩ := hok
    have HT0 := Lib.hid hv
    obtain ⟨htin, g, lv, rv, a, b, c0, d, rfl, hg, hB, _, _, _, _, hL, hR⟩ := hv
    have hll : l.len + r.len + 1 ≤ 400 := hlen
    have HL := Lib.hid hL
    have HR := Lib.hid hR
    obtain ⟨pl, rfl⟩ := hL.isPtr
    obtain ⟨pr, rfl⟩ := hR.isPtr
    have BX := Lib.hid hB
    rw [opN_of] at hcase
    unfold ncells at BX
    dsimp only at BX
    obtain ⟨y, hy⟩ : ∃ y, y = w.alloc (.cells #[.slice none 0 0] 26) := ⟨_, rfl⟩
    have hsy : Since w y := by rw [hy]; exact (Since.refl w).alloc _
    have BR : Hid (Blk y w.heap.size 26 #[.slice none 0 0]) := by rw [hy]; exact Blk.new rfl _ _
    have hgl : g < w.heap.size := hB.lt
    obtain ⟨⟨x0, x1, x2, x3, x4, x5⟩, _⟩ := (BX.out.since hsy).all6
    rw [hy] at x0 x1 x2 x3 x4 x5
    have HY := Lib.hid hy
    clear htin hB hL hR hlen hy
    obtain ⟨hlo, hro⟩ : l.ok ∧ r.ok := by
      rcases hcase with ⟨h0, _⟩ | ⟨h1, _⟩ | ⟨_, a, b⟩
      · simp at h0
      · simp at h1
      · exact ⟨a, b⟩
    have hdl : (derT c l).length ≤ 160000 := derT_400 c hlo (by omega)
    have hdr : (derT c r).length ≤ 160000 := derT_400 c hro (by omega)
    have hpr : r.post.length ≤ 400 := by rw [post_len]; omega
    clear hcase
    go_enter Tryd.func80, Tryd.ntmps80
    go_upto_region 1 with fail
    go_region
    go_wp2_with fail
    try rw [← HY.out]
    have hyd : Since w y.drew := hsy.drew
    clear x0 x1 x2 x3 x4 x5
    first
    | (refine (hl a b _ _ (HL.out.since hyd) hlo (by omega)).mono ?_)
    | (refine (hl a b _ _ (HL.out.since hsy) hlo (by omega)).mono ?_)
    rintro e w3 ⟨v3, rfl, ⟨b3, rfl, ho3, _⟩, hs3⟩
    obtain ⟨uo, un, uc, huN, rfl⟩ := ho3.lenN
    have hs3y : Since y w3 := by first | exact Since.of_drew hs3 | exact hs3
    have HO3 := Lib.hid ho3
    have hyw3 := hsy.trans hs3y
    have BR3 := Lib.hid (BR.out.since hs3y)
    clear ho3 hs3
    go_wp2_with fail
    refine (nodeExpr_any _ c0 d _ _ (HR.out.since hyw3) (by omega)).mono ?_
    rintro e w4 ⟨v4, rfl, ⟨b4, rfl, ho4, _⟩, hs4⟩
    obtain ⟨qo, qn, qc, hqN, rfl⟩ := ho4.lenN
    have HO4 := Lib.hid ho4
    have HO34 := Lib.hid (HO3.out.since hs4)
    have BR4 := Lib.hid (BR3.out.since hs4)
    have hyw4 := hyw3.trans hs4
    clear ho4
    go_wp2_with fail
    refine (implCE_any _ _ (derT c l) r.post _ ⟨_, rfl, HO34.out.at⟩ ⟨_, rfl, HO4.out.at⟩ (by omega) (by omega)).mono ?_
    rintro e w5 ⟨v, rfl, ⟨b9, rfl, ho, _⟩, hs5⟩
    obtain ⟨xo, xn, xc, hxN, rfl⟩ := ho.lenN
    have HO5 : Hid (OwnK w.heap.size w5 (.slice xo xn xc) (catX (derT c l) r.post)) := ho.mono hyw4.size
    have hyw5 := hyw4.trans hs5
    have BR5 := Lib.hid (BR4.out.since hs5)
    clear ho
    obtain ⟨A, hA⟩ : ∃ A, A = w5.heap.size := ⟨_, rfl⟩
    have hA2 : w.heap.size < A := by rw [hA]; exact BR5.out.lt
    obtain ⟨y6, hy6⟩ : ∃ y6, y6 = w5.alloc (.cells #[.slice xo xn xc] 26) := ⟨_, rfl⟩
    have al6 : Since w5 y6 := by rw [hy6]; exact (Since.refl w5).alloc _
    have BX6 : Hid (Blk y6 A 26 #[.slice xo xn xc]) := by rw [hy6, hA]; exact Blk.new rfl _ _
    have BR6 := Lib.hid (BR5.out.since al6)
    have HO6 := Lib.hid (HO5.out.since al6)
    have hyw6 := hyw5.trans al6
    have HY6 := Lib.hid hy6
    have HAA := Lib.hid hA
    clear hy6 hA HO5 BR5
    go_wp2_with fail
    rw [← HY6.out]
    try rw [← HAA.out]
    refine (isNullable_any l a b _ _ (HL.out.since hyw6) hlo).mono ?_
    rintro e w7 ⟨rfl, hs7⟩
    have BX7 := Lib.hid (BX6.out.since hs7)
    have BR7 := Lib.hid (BR6.out.since hs7)
    have HO7 := Lib.hid (HO6.out.since hs7)
    have c7 := hyw6.trans hs7
    obtain ⟨nl, hnl⟩ : ∃ nl, nl = nulT l := ⟨_, rfl⟩
    rw [← hnl]
    have HNL := Lib.hid hnl
    clear hnl
    cases nl with
    | false =>
      have HD : Hid (derT c (Tr.node ⟨4, lr, lo, hi⟩ l r) = catX (derT c l) r.post) := by unfold Hid; simp [derT, ← HNL.out]
      obtain ⟨p0, p1⟩ := BX7.out.one
      obtain ⟨r0, r1⟩ := BR7.out.one
      go_wp2
      refine bodyPost_ret (v := .agg #[.slice xo xn xc]) (by simp [results, Tryd.results80, go_sem, *]) rfl ?_
      rw [HD.out]
      exact xout_boxT HO7.out c7 BR7.out (by decide) (Nat.le_refl _) _
    | true =>
      have HD : Hid (derT c (Tr.node ⟨4, lr, lo, hi⟩ l r) = uniX (catX (derT c l) r.post) (derT c r)) := by unfold Hid; simp [derT, ← HNL.out]
      go_upto_region 10 with fail
      have HKC : Hid (∀ w', Blk w' A 26 #[.slice xo xn xc] → w'.cell? ⟨A, 0, none⟩ = some (.slice xo xn xc)) := by
        intro w' hb0
        obtain ⟨r00, _⟩ := hb0.one
        exact r00
      refine wp_region_held_drew (S := (fun w' => w'.cell? ⟨A, 0, none⟩ = some (.slice xo xn xc))) (by kernel_rfl) (HKC.out _ (BX7.out.drew)) (fun hHeld => ?_)
      refine take_yes 0 (some 45) (v := ?_) rfl (by kernel_rfl) (by kernel_rfl) (by kernel_rfl) (by kernel_rfl) (fun _ _ _ h => h) (by rfl) (by assumption) ?_ ?_
      rotate_left
      · (intro w' hSw; (try dsimp only at hSw); go_simp; try with_reducible rfl)
      try simp only [Act.put, List.setIfInBounds_toArray, List.set_cons_zero, List.set_cons_succ]
      refine take_yes 1 (some 46) (v := ?_) rfl (by kernel_rfl) (by kernel_rfl) (by kernel_rfl) (by kernel_rfl) (fun _ _ _ h => h) (by rfl) (by assumption) ?_ ?_
      rotate_left
      · (intro w' hSw; (try dsimp only at hSw); go_simp; try with_reducible rfl)
      try simp only [Act.put, List.setIfInBounds_toArray, List.set_cons_zero, List.set_cons_succ]
      refine take_yes 2 (some 47) (v := ?_) rfl (by kernel_rfl) (by kernel_rfl) (by kernel_rfl) (by kernel_rfl) (fun _ _ _ h => h) (by rfl) (by assumption) ?_ ?_
      rotate_left
      · (intro w' hSw; (try dsimp only at hSw); go_simp; try with_reducible rfl)
      try simp only [Act.put, List.setIfInBounds_toArray, List.set_cons_zero, List.set_cons_succ]
      refine take_run 3 rfl (by kernel_rfl) (by rfl) (fun K hK => ?_)
      have dr_6 : Since w7 w7.drew := (Since.refl _).drew
      have c_7 := Since.trans c7 dr_6
      have M_8 := Lib.hid (BX7.out.since dr_6)
      clear BX7
      have M_9 := Lib.hid (BR7.out.since dr_6)
      clear BR7
      have M_10 := Lib.hid (HO7.out.since dr_6)
      clear HO7
      clear dr_6
      go_simp
      refine (hr c0 d _ _ (HR.out.since c_7) hro (by omega)).mono ?_
      rintro en q_1 ⟨v_2, rfl, ⟨v_2b, rfl, ho_3, _⟩, hs_4⟩
      obtain ⟨x_5o, x_5n, x_5c, x_5N, rfl⟩ := ho_3.lenN
      have O_11 := Lib.hid (ho_3.mono (base' := w.heap.size) c_7.size)
      clear ho_3
      have c_12 := Since.trans c_7 hs_4
      have M_13 := Lib.hid (M_8.out.since hs_4)
      clear M_8
      have M_14 := Lib.hid (M_9.out.since hs_4)
      clear M_9
      have M_15 := Lib.hid (M_10.out.since hs_4)
      clear M_10
      clear hs_4
      refine hK.out _ _ (HKC.out _ M_13.out) (fun hHeld_16 => ?_)
      clear hK K hHeld
      try simp only [Act.put, List.setIfInBounds_toArray, List.set_cons_zero, List.set_cons_succ]
      refine take_run 4 rfl (by kernel_rfl) (by rfl) (fun K hK => ?_)
      go_simp
      refine (implUE_any _ _ (catX (derT c l) r.post) (derT c r) _ ⟨_, rfl, M_15.out.at⟩ ⟨_, rfl, O_11.out.at⟩ (by have := catX_len (derT c l) r.post; omega) (by omega)).mono ?_
      rintro en q_17 ⟨v_18, rfl, ⟨v_18b, rfl, ho_19, _⟩, hs_20⟩
      obtain ⟨Z_21o, Z_21n, Z_21c, Z_21N, rfl⟩ := ho_19.lenN
      have O_22 := Lib.hid (ho_19.mono (base' := w.heap.size) c_12.size)
      clear ho_19
      have c_23 := Since.trans c_12 hs_20
      have M_24 := Lib.hid (M_13.out.since hs_20)
      clear M_13
      have M_25 := Lib.hid (M_14.out.since hs_20)
      clear M_14
      have M_26 := Lib.hid (M_15.out.since hs_20)
      clear M_15
      have M_27 := Lib.hid (O_11.out.since hs_20)
      clear O_11
      clear hs_20
      refine hK.out _ _ (HKC.out _ M_24.out) (fun hHeld_28 => ?_)
      clear hK K hHeld_16
      try simp only [Act.put, List.setIfInBounds_toArray, List.set_cons_zero, List.set_cons_succ]
      refine take_run 5 rfl (by kernel_rfl) (by rfl) (fun K hK => ?_)
      obtain ⟨q0, q1⟩ := M_25.out.one
      go_simp
      clear q0 q1
      have c_29 := Since.setCell c_23 (a := ⟨w.heap.size, 0, none⟩) (by show w.heap.size ≤ w.heap.size; omega) (.slice Z_21o Z_21n Z_21c)
      have M_31 := Lib.hid (M_26.out.farT M_25.out (by decide) 0 (.slice Z_21o Z_21n Z_21c))
      clear M_26
      have M_32 := Lib.hid (M_27.out.farT M_25.out (by decide) 0 (.slice Z_21o Z_21n Z_21c))
      clear M_27
      have M_33 := Lib.hid (O_22.out.farT M_25.out (by decide) 0 (.slice Z_21o Z_21n Z_21c))
      clear O_22
      have M_34 := Lib.hid (M_24.out.far (p := ⟨w.heap.size, 0, none⟩) (by show A ≠ w.heap.size; omega) (.slice Z_21o Z_21n Z_21c))
      clear M_24
      have B_35 := Lib.hid (M_25.out.set 0 (.slice Z_21o Z_21n Z_21c))
      clear M_25
      refine hK.out _ _ (HKC.out _ M_34.out) (fun hHeld_36 => ?_)
      clear hK K hHeld_28
      try simp only [Act.put, List.setIfInBounds_toArray, List.set_cons_zero, List.set_cons_succ]
      generalize q_17.setCell ⟨w.heap.size, 0, none⟩ (.slice Z_21o Z_21n Z_21c) = wS_30 at M_34 B_35 M_31 M_32 M_33 c_29 hHeld_36 ⊢
      refine wpAnyH_done (by kernel_rfl) ?_ _
      clear hHeld_36
      obtain ⟨r0, r1⟩ := B_35.out.one
      go_wp2
      refine bodyPost_ret (v := .agg #[.slice Z_21o Z_21n Z_21c]) (by simp [results, Tryd.results80, go_sem, *]) rfl ?_
      rw [HD.out]
      exact xout_mk M_33.out c_29
end Go.Proofs.YtiojgahjfndmdaaDoor
