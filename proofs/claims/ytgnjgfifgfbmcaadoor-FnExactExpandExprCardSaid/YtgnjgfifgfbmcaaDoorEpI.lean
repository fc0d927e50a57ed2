/- The bound on an expansion's size, the program's. -/
import Derived.Test.YtgnjgfifgfbmcaaDoorEpZ
import Derived.Test.YtgnjgfifgfbmcaaDoorTap
namespace Go.Proofs.YtgnjgfifgfbmcaaDoor
set_option maxRecDepth 100000
open Go.ChangeShapes Go.WideShapes Go.ChangeAt Go.RowKit
set_option linter.unusedVariables false
set_option linter.unusedSimpArgs false

theorem min_ifG (a : Nat) : ((min 100000 a : Nat) : Int) = if 100000 < (a : Int) then 100000 else (a : Int) := by
  split <;> omega

set_option maxHeartbeats 4000000 in
set_option maxRecDepth 100000 in
theorem sizeBound_any (T : Tr) : ∀ (a0 b0 : Nat) (v : Value) (w : World), TreeAt w T a0 b0 v → (T = .nil ∨ T.ok) → Calls Tryd.prog 60 #[v] w (IOut w (szT T)) := by
  induction T with
  | nil =>
    intro a0 b0 v w hv _
    obtain rfl : v = .pointer none := hv
    go_enter Tryd.func60, Tryd.ntmps60
    go_wp2
    go_ret
    exact ⟨rfl, Since.refl w⟩
  | node t l r hl hr =>
    intro a0 b0 v w hv hok
    obtain ⟨htin, g, lv, rv, a, b, c0, d, rfl, hg, hB, _, _, _, _, hL, hR⟩ := hv
    have hok : (Tr.node t l r).ok := by rcases hok with e | e; (cases e); exact e
    obtain ⟨htok, hcase⟩ := hok
    have hlo : l = .nil ∨ l.ok := by rcases hcase with ⟨_, a, _⟩ | ⟨_, a, _⟩ | ⟨_, a, _⟩ <;> simp [a]
    have hro : r = .nil ∨ r.ok := by rcases hcase with ⟨_, _, a⟩ | ⟨_, _, a⟩ | ⟨_, _, a⟩ <;> simp [a]
    have HL := Lib.hid hL
    have HR := Lib.hid hR
    obtain ⟨pl, rfl⟩ := hL.isPtr
    obtain ⟨pr, rfl⟩ := hR.isPtr
    have BX := Lib.hid hB
    unfold ncells at BX
    obtain ⟨A, hA⟩ : ∃ A, A = szT l := ⟨_, rfl⟩
    obtain ⟨B, hB'⟩ : ∃ B, B = szT r := ⟨_, rfl⟩
    have hA9 : A ≤ 100000 := by rw [hA]; exact szT_le l
    have hB9 : B ≤ 100000 := by rw [hB']; exact szT_le r
    have HLC : Hid (∀ W, TreeAt W l a b (.pointer pl) → Calls Tryd.prog 60 #[.pointer pl] W (IOut W A)) := fun W k => by rw [hA]; exact hl a b _ W k hlo
    have HRC : Hid (∀ W, TreeAt W r c0 d (.pointer pr) → Calls Tryd.prog 60 #[.pointer pr] W (IOut W B)) := fun W k => by rw [hB']; exact hr c0 d _ W k hro
    have HDZ : Hid (szT (.node t l r) = min 100000 (if t.kd = 7 then (A + 3) * t.hi.toNat + 1 else A + B + 1)) := by unfold Hid; rw [hA, hB']; rfl
    obtain ⟨Z, hZ⟩ : ∃ Z, Z = szT (Tr.node t l r) := ⟨_, rfl⟩
    rw [← hZ] at HDZ ⊢
    clear hZ hA hB' hl hr hL hR hB htin hcase hlo hro
    have hgl : g < w.heap.size := BX.out.lt
    obtain ⟨U, hU⟩ : ∃ U : Int, U = (A : Int) + (B : Int) := ⟨_, rfl⟩
    obtain ⟨V, hV⟩ : ∃ V : Int, V = U + 1 := ⟨_, rfl⟩
    have E1 : Hid ((A : Int) + (B : Int) = U) := hU.symm
    have E2 : Hid (wrap64 U = U) := by unfold Hid wrap64; omega
    have E3 : Hid (U + 1 = V) := hV.symm
    have E4 : Hid (wrap64 V = V) := by unfold Hid wrap64; omega
    by_cases h7 : t.kd = 7
    · obtain ⟨_, _, k2, k3⟩ := okT_hi htok h7
      obtain ⟨H, hH, hH9⟩ : ∃ H : Nat, t.hi = (H : Int) ∧ H ≤ 3 := ⟨t.hi.toNat, by omega, by omega⟩
      obtain ⟨M, hM⟩ : ∃ M, M = (A + 3) * H := ⟨_, rfl⟩
      have hM9 : M ≤ 300009 := by rw [hM]; exact Nat.le_trans (Nat.mul_le_mul (show A + 3 ≤ 100003 by omega) hH9) (by decide)
      have hMI : ((A : Int) + 3) * t.hi = (M : Int) := by rw [hH, hM]; simp
      obtain ⟨U3, hU3⟩ : ∃ U : Int, U = (A : Int) + 3 := ⟨_, rfl⟩
      obtain ⟨X, hX⟩ : ∃ X : Int, X = (M : Int) + 1 := ⟨_, rfl⟩
      have E5 : Hid ((A : Int) + 3 = U3) := hU3.symm
      have E6 : Hid (wrap64 U3 = U3) := by unfold Hid wrap64; omega
      have E7 : Hid (U3 * t.hi = (M : Int)) := by unfold Hid; rw [hU3]; exact hMI
      have E8 : Hid (wrap64 (M : Int) = (M : Int)) := by unfold Hid wrap64; omega
      have E9 : Hid ((M : Int) + 1 = X) := hX.symm
      have E10 : Hid (wrap64 X = X) := by unfold Hid wrap64; omega
      have HZ : Hid ((Z : Int) = if 100000 < X then 100000 else X) := by
        unfold Hid; rw [HDZ.out, if_pos h7, min_ifG, hX, hH]; simp [hM]
      have e7 : (t.kd == 7) = true := by simp [h7]
      clear hH hM hM9 hMI hU3 hX hU hV hA9 hB9 HDZ h7 k2 k3 hH9 htok
      go_enter Tryd.func60, Tryd.ntmps60
      go_upto_region 3 with fail
      have HKC : Hid (∀ w', Blk w' g 114 #[.int .i64 t.kd, .int .i64 t.lr, .int .i64 t.lo, .int .i64 t.hi, .pointer pl, .pointer pr] → w'.cell? ⟨g, 0, none⟩ = some (.int .i64 t.kd) ∧ w'.cell? ⟨g, 1, none⟩ = some (.int .i64 t.lr) ∧ w'.cell? ⟨g, 2, none⟩ = some (.int .i64 t.lo) ∧ w'.cell? ⟨g, 3, none⟩ = some (.int .i64 t.hi) ∧ w'.cell? ⟨g, 4, none⟩ = some (.pointer pl) ∧ w'.cell? ⟨g, 5, none⟩ = some (.pointer pr)) := by
        intro w' hb0
        obtain ⟨⟨r00, r01, r02, r03, r04, r05⟩, _⟩ := hb0.all6
        exact ⟨r00, r01, r02, r03, r04, r05⟩
      refine wp_region_held_drew (S := (fun w' => w'.cell? ⟨g, 0, none⟩ = some (.int .i64 t.kd) ∧ w'.cell? ⟨g, 1, none⟩ = some (.int .i64 t.lr) ∧ w'.cell? ⟨g, 2, none⟩ = some (.int .i64 t.lo) ∧ w'.cell? ⟨g, 3, none⟩ = some (.int .i64 t.hi) ∧ w'.cell? ⟨g, 4, none⟩ = some (.pointer pl) ∧ w'.cell? ⟨g, 5, none⟩ = some (.pointer pr))) (by kernel_rfl) (HKC.out _ (BX.out.drew)) (fun hHeld => ?_)
      refine take_yes 0 (some 8) (v := ?_) rfl (by kernel_rfl) (by kernel_rfl) (by kernel_rfl) (by kernel_rfl) (fun _ _ _ h => h) (by rfl) (by assumption) ?_ ?_
      rotate_left
      · (intro w' hSw; (try dsimp only at hSw); go_simp; try with_reducible rfl)
      try simp only [Act.put, List.setIfInBounds_toArray, List.set_cons_zero, List.set_cons_succ]
      refine take_yes 1 (some 9) (v := ?_) rfl (by kernel_rfl) (by kernel_rfl) (by kernel_rfl) (by kernel_rfl) (fun _ _ _ h => h) (by rfl) (by assumption) ?_ ?_
      rotate_left
      · (intro w' hSw; (try dsimp only at hSw); go_simp; try with_reducible rfl)
      try simp only [Act.put, List.setIfInBounds_toArray, List.set_cons_zero, List.set_cons_succ]
      refine take_yes 2 (some 10) (v := ?_) rfl (by kernel_rfl) (by kernel_rfl) (by kernel_rfl) (by kernel_rfl) (fun _ _ _ h => h) (by rfl) (by assumption) ?_ ?_
      rotate_left
      · (intro w' hSw; (try dsimp only at hSw); go_simp; try with_reducible rfl)
      try simp only [Act.put, List.setIfInBounds_toArray, List.set_cons_zero, List.set_cons_succ]
      refine take_yes 3 (some 11) (v := ?_) rfl (by kernel_rfl) (by kernel_rfl) (by kernel_rfl) (by kernel_rfl) (fun _ _ _ h => h) (by rfl) (by assumption) ?_ ?_
      rotate_left
      · (intro w' hSw; (try dsimp only at hSw); go_simp; try with_reducible rfl)
      try simp only [Act.put, List.setIfInBounds_toArray, List.set_cons_zero, List.set_cons_succ]
      refine take_yes 5 (some 13) (v := ?_) rfl (by kernel_rfl) (by kernel_rfl) (by kernel_rfl) (by kernel_rfl) (fun _ _ _ h => h) (by rfl) (by assumption) ?_ ?_
      rotate_left
      · (intro w' hSw; (try dsimp only at hSw); go_simp; try with_reducible rfl)
      try simp only [Act.put, List.setIfInBounds_toArray, List.set_cons_zero, List.set_cons_succ]
      refine take_yes 6 (some 14) (v := ?_) rfl (by kernel_rfl) (by kernel_rfl) (by kernel_rfl) (by kernel_rfl) (fun _ _ _ h => h) (by rfl) (by assumption) ?_ ?_
      rotate_left
      · (intro w' hSw; (try dsimp only at hSw); go_simp; try with_reducible rfl)
      try simp only [Act.put, List.setIfInBounds_toArray, List.set_cons_zero, List.set_cons_succ]
      refine take_yes 7 (some 15) (v := ?_) rfl (by kernel_rfl) (by kernel_rfl) (by kernel_rfl) (by kernel_rfl) (fun _ _ _ h => h) (by rfl) (by assumption) ?_ ?_
      rotate_left
      · (intro w' hSw; (try dsimp only at hSw); go_simp; try with_reducible rfl)
      try simp only [Act.put, List.setIfInBounds_toArray, List.set_cons_zero, List.set_cons_succ]
      refine take_yes 8 (some 16) (v := ?_) rfl (by kernel_rfl) (by kernel_rfl) (by kernel_rfl) (by kernel_rfl) (fun _ _ _ h => h) (by rfl) (by assumption) ?_ ?_
      rotate_left
      · (intro w' hSw; (try dsimp only at hSw); go_simp; try with_reducible rfl)
      try simp only [Act.put, List.setIfInBounds_toArray, List.set_cons_zero, List.set_cons_succ]
      refine take_run 4 rfl (by kernel_rfl) (by rfl) (fun K hK => ?_)
      have dr_3 : Since w w.drew := (Since.refl _).drew
      have c_4 := Since.trans ((Since.refl w)) dr_3
      have M_5 := Lib.hid (BX.out.since dr_3)
      clear BX
      clear dr_3
      go_simp
      refine (HLC.out _ (HL.out.since c_4)).mono ?_
      rintro en q_1 ⟨rfl, hs_2⟩
      have c_6 := Since.trans c_4 hs_2
      have M_7 := Lib.hid (M_5.out.since hs_2)
      clear M_5
      clear hs_2
      refine hK.out _ _ (HKC.out _ M_7.out) (fun hHeld_8 => ?_)
      clear hK K hHeld
      try simp only [Act.put, List.setIfInBounds_toArray, List.set_cons_zero, List.set_cons_succ]
      refine take_run 9 rfl (by kernel_rfl) (by rfl) (fun K hK => ?_)
      go_simp
      refine (HRC.out _ (HR.out.since c_6)).mono ?_
      rintro en q_9 ⟨rfl, hs_10⟩
      have c_11 := Since.trans c_6 hs_10
      have M_12 := Lib.hid (M_7.out.since hs_10)
      clear M_7
      clear hs_10
      refine hK.out _ _ (HKC.out _ M_12.out) (fun hHeld_13 => ?_)
      clear hK K hHeld_8
      try simp only [Act.put, List.setIfInBounds_toArray, List.set_cons_zero, List.set_cons_succ]
      refine take_yes 10 (some 3) (v := ?_) rfl (by kernel_rfl) (by kernel_rfl) (by kernel_rfl) (by kernel_rfl) (fun _ _ _ h => h) (by rfl) (by assumption) ?_ ?_
      rotate_left
      · (intro w' hSw; (try dsimp only at hSw); go_simp; try with_reducible rfl)
      try simp only [Act.put, List.setIfInBounds_toArray, List.set_cons_zero, List.set_cons_succ]
      refine take_yes 11 (some 4) (v := ?_) rfl (by kernel_rfl) (by kernel_rfl) (by kernel_rfl) (by kernel_rfl) (fun _ _ _ h => h) (by rfl) (by assumption) ?_ ?_
      rotate_left
      · (intro w' hSw; (try dsimp only at hSw); go_simp; try with_reducible rfl)
      try simp only [Act.put, List.setIfInBounds_toArray, List.set_cons_zero, List.set_cons_succ]
      refine wpAnyH_done (by kernel_rfl) ?_ _
      clear hHeld_13
      obtain ⟨⟨x0, x1, x2, x3, x4, x5⟩, _⟩ := M_12.out.all6
      have e_1 := E1.out
      have e_2 := E2.out
      have e_3 := E3.out
      have e_4 := E4.out
      have e_5 := E5.out
      have e_6 := E6.out
      have e_7 := E7.out
      have e_8 := E8.out
      have e_9 := E9.out
      have e_10 := E10.out
      go_wp2_with fail
      all_goals (clear e_1 e_2 e_3 e_4 e_5 e_6 e_7 e_8 e_9 e_10)
      all_goals (go_ret; refine ⟨ret_int ?_, c_11⟩; rw [HZ.out]; split <;> omega)
    · have HZ : Hid ((Z : Int) = if 100000 < V then 100000 else V) := by
        unfold Hid; rw [HDZ.out, if_neg h7, min_ifG, hV, hU]; simp
      have e7 : (t.kd == 7) = false := by simp [h7]
      clear hU hV hA9 hB9 HDZ h7 htok
      go_enter Tryd.func60, Tryd.ntmps60
      go_upto_region 3 with fail
      have HKC : Hid (∀ w', Blk w' g 114 #[.int .i64 t.kd, .int .i64 t.lr, .int .i64 t.lo, .int .i64 t.hi, .pointer pl, .pointer pr] → w'.cell? ⟨g, 0, none⟩ = some (.int .i64 t.kd) ∧ w'.cell? ⟨g, 1, none⟩ = some (.int .i64 t.lr) ∧ w'.cell? ⟨g, 2, none⟩ = some (.int .i64 t.lo) ∧ w'.cell? ⟨g, 3, none⟩ = some (.int .i64 t.hi) ∧ w'.cell? ⟨g, 4, none⟩ = some (.pointer pl) ∧ w'.cell? ⟨g, 5, none⟩ = some (.pointer pr)) := by
        intro w' hb0
        obtain ⟨⟨r00, r01, r02, r03, r04, r05⟩, _⟩ := hb0.all6
        exact ⟨r00, r01, r02, r03, r04, r05⟩
      refine wp_region_held_drew (S := (fun w' => w'.cell? ⟨g, 0, none⟩ = some (.int .i64 t.kd) ∧ w'.cell? ⟨g, 1, none⟩ = some (.int .i64 t.lr) ∧ w'.cell? ⟨g, 2, none⟩ = some (.int .i64 t.lo) ∧ w'.cell? ⟨g, 3, none⟩ = some (.int .i64 t.hi) ∧ w'.cell? ⟨g, 4, none⟩ = some (.pointer pl) ∧ w'.cell? ⟨g, 5, none⟩ = some (.pointer pr))) (by kernel_rfl) (HKC.out _ (BX.out.drew)) (fun hHeld => ?_)
      refine take_yes 0 (some 8) (v := ?_) rfl (by kernel_rfl) (by kernel_rfl) (by kernel_rfl) (by kernel_rfl) (fun _ _ _ h => h) (by rfl) (by assumption) ?_ ?_
      rotate_left
      · (intro w' hSw; (try dsimp only at hSw); go_simp; try with_reducible rfl)
      try simp only [Act.put, List.setIfInBounds_toArray, List.set_cons_zero, List.set_cons_succ]
      refine take_yes 1 (some 9) (v := ?_) rfl (by kernel_rfl) (by kernel_rfl) (by kernel_rfl) (by kernel_rfl) (fun _ _ _ h => h) (by rfl) (by assumption) ?_ ?_
      rotate_left
      · (intro w' hSw; (try dsimp only at hSw); go_simp; try with_reducible rfl)
      try simp only [Act.put, List.setIfInBounds_toArray, List.set_cons_zero, List.set_cons_succ]
      refine take_yes 2 (some 10) (v := ?_) rfl (by kernel_rfl) (by kernel_rfl) (by kernel_rfl) (by kernel_rfl) (fun _ _ _ h => h) (by rfl) (by assumption) ?_ ?_
      rotate_left
      · (intro w' hSw; (try dsimp only at hSw); go_simp; try with_reducible rfl)
      try simp only [Act.put, List.setIfInBounds_toArray, List.set_cons_zero, List.set_cons_succ]
      refine take_yes 3 (some 11) (v := ?_) rfl (by kernel_rfl) (by kernel_rfl) (by kernel_rfl) (by kernel_rfl) (fun _ _ _ h => h) (by rfl) (by assumption) ?_ ?_
      rotate_left
      · (intro w' hSw; (try dsimp only at hSw); go_simp; try with_reducible rfl)
      try simp only [Act.put, List.setIfInBounds_toArray, List.set_cons_zero, List.set_cons_succ]
      refine take_yes 5 (some 13) (v := ?_) rfl (by kernel_rfl) (by kernel_rfl) (by kernel_rfl) (by kernel_rfl) (fun _ _ _ h => h) (by rfl) (by assumption) ?_ ?_
      rotate_left
      · (intro w' hSw; (try dsimp only at hSw); go_simp; try with_reducible rfl)
      try simp only [Act.put, List.setIfInBounds_toArray, List.set_cons_zero, List.set_cons_succ]
      refine take_yes 6 (some 14) (v := ?_) rfl (by kernel_rfl) (by kernel_rfl) (by kernel_rfl) (by kernel_rfl) (fun _ _ _ h => h) (by rfl) (by assumption) ?_ ?_
      rotate_left
      · (intro w' hSw; (try dsimp only at hSw); go_simp; try with_reducible rfl)
      try simp only [Act.put, List.setIfInBounds_toArray, List.set_cons_zero, List.set_cons_succ]
      refine take_yes 7 (some 15) (v := ?_) rfl (by kernel_rfl) (by kernel_rfl) (by kernel_rfl) (by kernel_rfl) (fun _ _ _ h => h) (by rfl) (by assumption) ?_ ?_
      rotate_left
      · (intro w' hSw; (try dsimp only at hSw); go_simp; try with_reducible rfl)
      try simp only [Act.put, List.setIfInBounds_toArray, List.set_cons_zero, List.set_cons_succ]
      refine take_yes 8 (some 16) (v := ?_) rfl (by kernel_rfl) (by kernel_rfl) (by kernel_rfl) (by kernel_rfl) (fun _ _ _ h => h) (by rfl) (by assumption) ?_ ?_
      rotate_left
      · (intro w' hSw; (try dsimp only at hSw); go_simp; try with_reducible rfl)
      try simp only [Act.put, List.setIfInBounds_toArray, List.set_cons_zero, List.set_cons_succ]
      refine take_run 4 rfl (by kernel_rfl) (by rfl) (fun K hK => ?_)
      have dr_16 : Since w w.drew := (Since.refl _).drew
      have c_17 := Since.trans ((Since.refl w)) dr_16
      have M_18 := Lib.hid (BX.out.since dr_16)
      clear BX
      clear dr_16
      go_simp
      refine (HLC.out _ (HL.out.since c_17)).mono ?_
      rintro en q_14 ⟨rfl, hs_15⟩
      have c_19 := Since.trans c_17 hs_15
      have M_20 := Lib.hid (M_18.out.since hs_15)
      clear M_18
      clear hs_15
      refine hK.out _ _ (HKC.out _ M_20.out) (fun hHeld_21 => ?_)
      clear hK K hHeld
      try simp only [Act.put, List.setIfInBounds_toArray, List.set_cons_zero, List.set_cons_succ]
      refine take_run 9 rfl (by kernel_rfl) (by rfl) (fun K hK => ?_)
      go_simp
      refine (HRC.out _ (HR.out.since c_19)).mono ?_
      rintro en q_22 ⟨rfl, hs_23⟩
      have c_24 := Since.trans c_19 hs_23
      have M_25 := Lib.hid (M_20.out.since hs_23)
      clear M_20
      clear hs_23
      refine hK.out _ _ (HKC.out _ M_25.out) (fun hHeld_26 => ?_)
      clear hK K hHeld_21
      try simp only [Act.put, List.setIfInBounds_toArray, List.set_cons_zero, List.set_cons_succ]
      refine take_yes 10 (some 3) (v := ?_) rfl (by kernel_rfl) (by kernel_rfl) (by kernel_rfl) (by kernel_rfl) (fun _ _ _ h => h) (by rfl) (by assumption) ?_ ?_
      rotate_left
      · (intro w' hSw; (try dsimp only at hSw); go_simp; try with_reducible rfl)
      try simp only [Act.put, List.setIfInBounds_toArray, List.set_cons_zero, List.set_cons_succ]
      refine take_yes 11 (some 4) (v := ?_) rfl (by kernel_rfl) (by kernel_rfl) (by kernel_rfl) (by kernel_rfl) (fun _ _ _ h => h) (by rfl) (by assumption) ?_ ?_
      rotate_left
      · (intro w' hSw; (try dsimp only at hSw); go_simp; try with_reducible rfl)
      try simp only [Act.put, List.setIfInBounds_toArray, List.set_cons_zero, List.set_cons_succ]
      refine wpAnyH_done (by kernel_rfl) ?_ _
      clear hHeld_26
      obtain ⟨⟨x0, x1, x2, x3, x4, x5⟩, _⟩ := M_25.out.all6
      have e_1 := E1.out
      have e_2 := E2.out
      have e_3 := E3.out
      have e_4 := E4.out
      go_wp2_with fail
      all_goals (clear e_1 e_2 e_3 e_4)
      all_goals (go_ret; refine ⟨ret_int ?_, c_24⟩; rw [HZ.out]; split <;> omega)
end Go.Proofs.YtgnjgfifgfbmcaaDoor
