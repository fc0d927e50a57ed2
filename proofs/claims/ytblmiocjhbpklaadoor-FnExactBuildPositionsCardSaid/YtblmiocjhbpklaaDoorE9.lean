/- EpI, EpJ, EpK, EpX: small words and contracts that the other texts use. -/
import Derived.Test.YtblmiocjhbpklaaDoorEpZ
import Derived.Test.YtblmiocjhbpklaaDoorTap
import Derived.Test.YtblmiocjhbpklaaDoorEpT
import Derived.Test.YtblmiocjhbpklaaDoorEpS
import Derived.Test.YtblmiocjhbpklaaDoorIx
import Derived.Test.YtblmiocjhbpklaaDoorL1
/- The bound on an expansion's size, the program's. -/
namespace Go.Proofs.YtblmiocjhbpklaaDoor
set_option maxRecDepth 100000
open Go.ChangeShapes Go.WideShapes Go.ChangeAt Go.RowKit
set_option linter.unusedVariables false
set_option linter.unusedSimpArgs false

theorem min_ifG (a : Nat) : ((min 100000 a : Nat) : Int) = if 100000 < (a : Int) then 100000 else (a : Int) := by
  split <;> omega

set_option maxHeartbeats 4000000 in
set_option maxRecDepth 100000 in
theorem sizeBound_any (T : Tr) : ∀ (a0 b0 : Nat) (v : Value) (w : World), TreeAt w T a0 b0 v → (T = .nil ∨ T.ok) → Calls Tryd.prog 64 #[v] w (IOut w (szT T)) := by
  induction T with
  | nil =>
    intro a0 b0 v w hv _
    obtain rfl : v = .pointer none := hv
    go_enter Tryd.func64, Tryd.ntmps64
    go_wp2
    go_ret
    exact ⟨rfl, Since.refl w⟩
  | node t l r hl hr =>
    intro a0 b0 v w hv hok
    obtain ⟨htin, g, lv, rv, a, b, c0, d, rfl, hg, hB, _, _, _, _, hL, hR⟩ := hv
    have hok : (Tr.node t l r).ok := by rcases hok with e | e; (cases e); exact e
    obtain ⟨htok, hcase⟩ := hok
    have hlo : l = .nil ∨ l.ok := by rcases hcase with ⟨_, a, _⟩ | ⟨_, a, _⟩ | ⟨_, a, _⟩ <;> simp [a]
    have hro : r = .nil ∨ r.ok := by rcases hcase with ⟨_, _, a⟩ | ⟨_, _, a⟩ | ⟨_, _, a⟩ <;> simp [a]
    have HL := Lib.hid hL
    have HR := Lib.hid hR
    obtain ⟨pl, rfl⟩ := hL.isPtr
    obtain ⟨pr, rfl⟩ := hR.isPtr
    have BX := Lib.hid hB
    unfold ncells at BX
    obtain ⟨A, hA⟩ : ∃ A, A = szT l := ⟨_, rfl⟩
    obtain ⟨B, hB'⟩ : ∃ B, B = szT r := ⟨_, rfl⟩
    have hA9 : A ≤ 100000 := by rw [hA]; exact szT_le l
    have hB9 : B ≤ 100000 := by rw [hB']; exact szT_le r
    have HLC : Hid (∀ W, TreeAt W l a b (.pointer pl) → Calls Tryd.prog 64 #[.pointer pl] W (IOut W A)) := fun W k => by rw [hA]; exact hl a b _ W k hlo
    have HRC : Hid (∀ W, TreeAt W r c0 d (.pointer pr) → Calls Tryd.prog 64 #[.pointer pr] W (IOut W B)) := fun W k => by rw [hB']; exact hr c0 d _ W k hro
    have HDZ : Hid (szT (.node t l r) = min 100000 (if t.kd = 7 then (A + 3) * t.hi.toNat + 1 else A + B + 1)) := by unfold Hid; rw [hA, hB']; rfl
    obtain ⟨Z, hZ⟩ : ∃ Z, Z = szT (Tr.node t l r) := ⟨_, rfl⟩
    rw [← hZ] at HDZ ⊢
    clear hZ hA hB' hl hr hL hR hB htin hcase hlo hro
    have hgl : g < w.heap.size := BX.out.lt
    obtain ⟨U, hU⟩ : ∃ U : Int, U = (A : Int) + (B : Int) := ⟨_, rfl⟩
    obtain ⟨V, hV⟩ : ∃ V : Int, V = U + 1 := ⟨_, rfl⟩
    have E1 : Hid ((A : Int) + (B : Int) = U) := hU.symm
    have E2 : Hid (wrap64 U = U) := by unfold Hid wrap64; omega
    have E3 : Hid (U + 1 = V) := hV.symm
    have E4 : Hid (wrap64 V = V) := by unfold Hid wrap64; omega
    by_cases h7 : t.kd = 7
    · obtain ⟨_, _, k2, k3⟩ := okT_hi htok h7
      obtain ⟨H, hH, hH9⟩ : ∃ H : Nat, t.hi = (H : Int) ∧ H ≤ 3 := ⟨t.hi.toNat, by omega, by omega⟩
      obtain ⟨M, hM⟩ : ∃ M, M = (A + 3) * H := ⟨_, rfl⟩
      have hM9 : M ≤ 300009 := by rw [hM]; exact Nat.le_trans (Nat.mul_le_mul (show A + 3 ≤ 100003 by omega) hH9) (by decide)
      have hMI : ((A : Int) + 3) * t.hi = (M : Int) := by rw [hH, hM]; simp
      obtain ⟨U3, hU3⟩ : ∃ U : Int, U = (A : Int) + 3 := ⟨_, rfl⟩
      obtain ⟨X, hX⟩ : ∃ X : Int, X = (M : Int) + 1 := ⟨_, rfl⟩
      have E5 : Hid ((A : Int) + 3 = U3) := hU3.symm
      have E6 : Hid (wrap64 U3 = U3) := by unfold Hid wrap64; omega
      have E7 : Hid (U3 * t.hi = (M : Int)) := by unfold Hid; rw [hU3]; exact hMI
      have E8 : Hid (wrap64 (M : Int) = (M : Int)) := by unfold Hid wrap64; omega
      have E9 : Hid ((M : Int) + 1 = X) := hX.symm
      have E10 : Hid (wrap64 X = X) := by unfold Hid wrap64; omega
      have HZ : Hid ((Z : Int) = if 100000 < X then 100000 else X) := by
        unfold Hid; rw [HDZ.out, if_pos h7, min_ifG, hX, hH]; simp [hM]
      have e7 : (t.kd == 7) = true := by simp [h7]
      clear hH hM hM9 hMI hU3 hX hU hV hA9 hB9 HDZ h7 k2 k3 hH9 htok
      go_enter Tryd.func64, Tryd.ntmps64
      go_upto_region 3 with fail
      have HKC : Hid (∀ w', Blk w' g 131 #[.int .i64 t.kd, .int .i64 t.lr, .int .i64 t.lo, .int .i64 t.hi, .pointer pl, .pointer pr] → w'.cell? ⟨g, 0, none⟩ = some (.int .i64 t.kd) ∧ w'.cell? ⟨g, 1, none⟩ = some (.int .i64 t.lr) ∧ w'.cell? ⟨g, 2, none⟩ = some (.int .i64 t.lo) ∧ w'.cell? ⟨g, 3, none⟩ = some (.int .i64 t.hi) ∧ w'.cell? ⟨g, 4, none⟩ = some (.pointer pl) ∧ w'.cell? ⟨g, 5, none⟩ = some (.pointer pr)) := by
        intro w' hb0
        obtain ⟨⟨r00, r01, r02, r03, r04, r05⟩, _⟩ := hb0.all6
        exact ⟨r00, r01, r02, r03, r04, r05⟩
      refine wp_region_held_drew (S := (fun w' => w'.cell? ⟨g, 0, none⟩ = some (.int .i64 t.kd) ∧ w'.cell? ⟨g, 1, none⟩ = some (.int .i64 t.lr) ∧ w'.cell? ⟨g, 2, none⟩ = some (.int .i64 t.lo) ∧ w'.cell? ⟨g, 3, none⟩ = some (.int .i64 t.hi) ∧ w'.cell? ⟨g, 4, none⟩ = some (.pointer pl) ∧ w'.cell? ⟨g, 5, none⟩ = some (.pointer pr))) (by kernel_rfl) (HKC.out _ (BX.out.drew)) (fun hHeld => ?_)
      refine take_yes 0 (some 8) (v := ?_) rfl (by kernel_rfl) (by kernel_rfl) (by kernel_rfl) (by kernel_rfl) (fun _ _ _ h => h) (by rfl) (by assumption) ?_ ?_
      rotate_left
      · (intro w' hSw; (try dsimp only at hSw); go_simp; try with_reducible rfl)
      try simp only [Act.put, List.setIfInBounds_toArray, List.set_cons_zero, List.set_cons_succ]
      refine take_yes 1 (some 9) (v := ?_) rfl (by kernel_rfl) (by kernel_rfl) (by kernel_rfl) (by kernel_rfl) (fun _ _ _ h => h) (by rfl) (by assumption) ?_ ?_
      rotate_left
      · (intro w' hSw; (try dsimp only at hSw); go_simp; try with_reducible rfl)
      try simp only [Act.put, List.setIfInBounds_toArray, List.set_cons_zero, List.set_cons_succ]
      refine take_yes 2 (some 10) (v := ?_) rfl (by kernel_rfl) (by kernel_rfl) (by kernel_rfl) (by kernel_rfl) (fun _ _ _ h => h) (by rfl) (by assumption) ?_ ?_
      rotate_left
      · (intro w' hSw; (try dsimp only at hSw); go_simp; try with_reducible rfl)
      try simp only [Act.put, List.setIfInBounds_toArray, List.set_cons_zero, List.set_cons_succ]
      refine take_yes 3 (some 11) (v := ?_) rfl (by kernel_rfl) (by kernel_rfl) (by kernel_rfl) (by kernel_rfl) (fun _ _ _ h => h) (by rfl) (by assumption) ?_ ?_
      rotate_left
      · (intro w' hSw; (try dsimp only at hSw); go_simp; try with_reducible rfl)
      try simp only [Act.put, List.setIfInBounds_toArray, List.set_cons_zero, List.set_cons_succ]
      refine take_yes 5 (some 13) (v := ?_) rfl (by kernel_rfl) (by kernel_rfl) (by kernel_rfl) (by kernel_rfl) (fun _ _ _ h => h) (by rfl) (by assumption) ?_ ?_
      rotate_left
      · (intro w' hSw; (try dsimp only at hSw); go_simp; try with_reducible rfl)
      try simp only [Act.put, List.setIfInBounds_toArray, List.set_cons_zero, List.set_cons_succ]
      refine take_yes 6 (some 14) (v := ?_) rfl (by kernel_rfl) (by kernel_rfl) (by kernel_rfl) (by kernel_rfl) (fun _ _ _ h => h) (by rfl) (by assumption) ?_ ?_
      rotate_left
      · (intro w' hSw; (try dsimp only at hSw); go_simp; try with_reducible rfl)
      try simp only [Act.put, List.setIfInBounds_toArray, List.set_cons_zero, List.set_cons_succ]
      refine take_yes 7 (some 15) (v := ?_) rfl (by kernel_rfl) (by kernel_rfl) (by kernel_rfl) (by kernel_rfl) (fun _ _ _ h => h) (by rfl) (by assumption) ?_ ?_
      rotate_left
      · (intro w' hSw; (try dsimp only at hSw); go_simp; try with_reducible rfl)
      try simp only [Act.put, List.setIfInBounds_toArray, List.set_cons_zero, List.set_cons_succ]
      refine take_yes 8 (some 16) (v := ?_) rfl (by kernel_rfl) (by kernel_rfl) (by kernel_rfl) (by kernel_rfl) (fun _ _ _ h => h) (by rfl) (by assumption) ?_ ?_
      rotate_left
      · (intro w' hSw; (try dsimp only at hSw); go_simp; try with_reducible rfl)
      try simp only [Act.put, List.setIfInBounds_toArray, List.set_cons_zero, List.set_cons_succ]
      refine take_run 4 rfl (by kernel_rfl) (by rfl) (fun K hK => ?_)
      have dr_3 : Since w w.drew := (Since.refl _).drew
      have c_4 := Since.trans ((Since.refl w)) dr_3
      have M_5 := Lib.hid (BX.out.since dr_3)
      clear BX
      clear dr_3
      go_simp
      refine (HLC.out _ (HL.out.since c_4)).mono ?_
      rintro en q_1 ⟨rfl, hs_2⟩
      have c_6 := Since.trans c_4 hs_2
      have M_7 := Lib.hid (M_5.out.since hs_2)
      clear M_5
      clear hs_2
      refine hK.out _ _ (HKC.out _ M_7.out) (fun hHeld_8 => ?_)
      clear hK K hHeld
      try simp only [Act.put, List.setIfInBounds_toArray, List.set_cons_zero, List.set_cons_succ]
      refine take_run 9 rfl (by kernel_rfl) (by rfl) (fun K hK => ?_)
      go_simp
      refine (HRC.out _ (HR.out.since c_6)).mono ?_
      rintro en q_9 ⟨rfl, hs_10⟩
      have c_11 := Since.trans c_6 hs_10
      have M_12 := Lib.hid (M_7.out.since hs_10)
      clear M_7
      clear hs_10
      refine hK.out _ _ (HKC.out _ M_12.out) (fun hHeld_13 => ?_)
      clear hK K hHeld_8
      try simp only [Act.put, List.setIfInBounds_toArray, List.set_cons_zero, List.set_cons_succ]
      refine take_yes 10 (some 3) (v := ?_) rfl (by kernel_rfl) (by kernel_rfl) (by kernel_rfl) (by kernel_rfl) (fun _ _ _ h => h) (by rfl) (by assumption) ?_ ?_
      rotate_left
      · (intro w' hSw; (try dsimp only at hSw); go_simp; try with_reducible rfl)
      try simp only [Act.put, List.setIfInBounds_toArray, List.set_cons_zero, List.set_cons_succ]
      refine take_yes 11 (some 4) (v := ?_) rfl (by kernel_rfl) (by kernel_rfl) (by kernel_rfl) (by kernel_rfl) (fun _ _ _ h => h) (by rfl) (by assumption) ?_ ?_
      rotate_left
      · (intro w' hSw; (try dsimp only at hSw); go_simp; try with_reducible rfl)
      try simp only [Act.put, List.setIfInBounds_toArray, List.set_cons_zero, List.set_cons_succ]
      refine wpAnyH_done (by kernel_rfl) ?_ _
      clear hHeld_13
      obtain ⟨⟨x0, x1, x2, x3, x4, x5⟩, _⟩ := M_12.out.all6
      have e_1 := E1.out
      have e_2 := E2.out
      have e_3 := E3.out
      have e_4 := E4.out
      have e_5 := E5.out
      have e_6 := E6.out
      have e_7 := E7.out
      have e_8 := E8.out
      have e_9 := E9.out
      have e_10 := E10.out
      go_wp2_with fail
      all_goals (clear e_1 e_2 e_3 e_4 e_5 e_6 e_7 e_8 e_9 e_10)
      all_goals (go_ret; refine ⟨ret_int ?_, c_11⟩; rw [HZ.out]; split <;> omega)
    · have HZ : Hid ((Z : Int) = if 100000 < V then 100000 else V) := by
        unfold Hid; rw [HDZ.out, if_neg h7, min_ifG, hV, hU]; simp
      have e7 : (t.kd == 7) = false := by simp [h7]
      clear hU hV hA9 hB9 HDZ h7 htok
      go_enter Tryd.func64, Tryd.ntmps64
      go_upto_region 3 with fail
      have HKC : Hid (∀ w', Blk w' g 131 #[.int .i64 t.kd, .int .i64 t.lr, .int .i64 t.lo, .int .i64 t.hi, .pointer pl, .pointer pr] → w'.cell? ⟨g, 0, none⟩ = some (.int .i64 t.kd) ∧ w'.cell? ⟨g, 1, none⟩ = some (.int .i64 t.lr) ∧ w'.cell? ⟨g, 2, none⟩ = some (.int .i64 t.lo) ∧ w'.cell? ⟨g, 3, none⟩ = some (.int .i64 t.hi) ∧ w'.cell? ⟨g, 4, none⟩ = some (.pointer pl) ∧ w'.cell? ⟨g, 5, none⟩ = some (.pointer pr)) := by
        intro w' hb0
        obtain ⟨⟨r00, r01, r02, r03, r04, r05⟩, _⟩ := hb0.all6
        exact ⟨r00, r01, r02, r03, r04, r05⟩
      refine wp_region_held_drew (S := (fun w' => w'.cell? ⟨g, 0, none⟩ = some (.int .i64 t.kd) ∧ w'.cell? ⟨g, 1, none⟩ = some (.int .i64 t.lr) ∧ w'.cell? ⟨g, 2, none⟩ = some (.int .i64 t.lo) ∧ w'.cell? ⟨g, 3, none⟩ = some (.int .i64 t.hi) ∧ w'.cell? ⟨g, 4, none⟩ = some (.pointer pl) ∧ w'.cell? ⟨g, 5, none⟩ = some (.pointer pr))) (by kernel_rfl) (HKC.out _ (BX.out.drew)) (fun hHeld => ?_)
      refine take_yes 0 (some 8) (v := ?_) rfl (by kernel_rfl) (by kernel_rfl) (by kernel_rfl) (by kernel_rfl) (fun _ _ _ h => h) (by rfl) (by assumption) ?_ ?_
      rotate_left
      · (intro w' hSw; (try dsimp only at hSw); go_simp; try with_reducible rfl)
      try simp only [Act.put, List.setIfInBounds_toArray, List.set_cons_zero, List.set_cons_succ]
      refine take_yes 1 (some 9) (v := ?_) rfl (by kernel_rfl) (by kernel_rfl) (by kernel_rfl) (by kernel_rfl) (fun _ _ _ h => h) (by rfl) (by assumption) ?_ ?_
      rotate_left
      · (intro w' hSw; (try dsimp only at hSw); go_simp; try with_reducible rfl)
      try simp only [Act.put, List.setIfInBounds_toArray, List.set_cons_zero, List.set_cons_succ]
      refine take_yes 2 (some 10) (v := ?_) rfl (by kernel_rfl) (by kernel_rfl) (by kernel_rfl) (by kernel_rfl) (fun _ _ _ h => h) (by rfl) (by assumption) ?_ ?_
      rotate_left
      · (intro w' hSw; (try dsimp only at hSw); go_simp; try with_reducible rfl)
      try simp only [Act.put, List.setIfInBounds_toArray, List.set_cons_zero, List.set_cons_succ]
      refine take_yes 3 (some 11) (v := ?_) rfl (by kernel_rfl) (by kernel_rfl) (by kernel_rfl) (by kernel_rfl) (fun _ _ _ h => h) (by rfl) (by assumption) ?_ ?_
      rotate_left
      · (intro w' hSw; (try dsimp only at hSw); go_simp; try with_reducible rfl)
      try simp only [Act.put, List.setIfInBounds_toArray, List.set_cons_zero, List.set_cons_succ]
      refine take_yes 5 (some 13) (v := ?_) rfl (by kernel_rfl) (by kernel_rfl) (by kernel_rfl) (by kernel_rfl) (fun _ _ _ h => h) (by rfl) (by assumption) ?_ ?_
      rotate_left
      · (intro w' hSw; (try dsimp only at hSw); go_simp; try with_reducible rfl)
      try simp only [Act.put, List.setIfInBounds_toArray, List.set_cons_zero, List.set_cons_succ]
      refine take_yes 6 (some 14) (v := ?_) rfl (by kernel_rfl) (by kernel_rfl) (by kernel_rfl) (by kernel_rfl) (fun _ _ _ h => h) (by rfl) (by assumption) ?_ ?_
      rotate_left
      · (intro w' hSw; (try dsimp only at hSw); go_simp; try with_reducible rfl)
      try simp only [Act.put, List.setIfInBounds_toArray, List.set_cons_zero, List.set_cons_succ]
      refine take_yes 7 (some 15) (v := ?_) rfl (by kernel_rfl) (by kernel_rfl) (by kernel_rfl) (by kernel_rfl) (fun _ _ _ h => h) (by rfl) (by assumption) ?_ ?_
      rotate_left
      · (intro w' hSw; (try dsimp only at hSw); go_simp; try with_reducible rfl)
      try simp only [Act.put, List.setIfInBounds_toArray, List.set_cons_zero, List.set_cons_succ]
      refine take_yes 8 (some 16) (v := ?_) rfl (by kernel_rfl) (by kernel_rfl) (by kernel_rfl) (by kernel_rfl) (fun _ _ _ h => h) (by rfl) (by assumption) ?_ ?_
      rotate_left
      · (intro w' hSw; (try dsimp only at hSw); go_simp; try with_reducible rfl)
      try simp only [Act.put, List.setIfInBounds_toArray, List.set_cons_zero, List.set_cons_succ]
      refine take_run 4 rfl (by kernel_rfl) (by rfl) (fun K hK => ?_)
      have dr_16 : Since w w.drew := (Since.refl _).drew
      have c_17 := Since.trans ((Since.refl w)) dr_16
      have M_18 := Lib.hid (BX.out.since dr_16)
      clear BX
      clear dr_16
      go_simp
      refine (HLC.out _ (HL.out.since c_17)).mono ?_
      rintro en q_14 ⟨rfl, hs_15⟩
      have c_19 := Since.trans c_17 hs_15
      have M_20 := Lib.hid (M_18.out.since hs_15)
      clear M_18
      clear hs_15
      refine hK.out _ _ (HKC.out _ M_20.out) (fun hHeld_21 => ?_)
      clear hK K hHeld
      try simp only [Act.put, List.setIfInBounds_toArray, List.set_cons_zero, List.set_cons_succ]
      refine take_run 9 rfl (by kernel_rfl) (by rfl) (fun K hK => ?_)
      go_simp
      refine (HRC.out _ (HR.out.since c_19)).mono ?_
      rintro en q_22 ⟨rfl, hs_23⟩
      have c_24 := Since.trans c_19 hs_23
      have M_25 := Lib.hid (M_20.out.since hs_23)
      clear M_20
      clear hs_23
      refine hK.out _ _ (HKC.out _ M_25.out) (fun hHeld_26 => ?_)
      clear hK K hHeld_21
      try simp only [Act.put, List.setIfInBounds_toArray, List.set_cons_zero, List.set_cons_succ]
      refine take_yes 10 (some 3) (v := ?_) rfl (by kernel_rfl) (by kernel_rfl) (by kernel_rfl) (by kernel_rfl) (fun _ _ _ h => h) (by rfl) (by assumption) ?_ ?_
      rotate_left
      · (intro w' hSw; (try dsimp only at hSw); go_simp; try with_reducible rfl)
      try simp only [Act.put, List.setIfInBounds_toArray, List.set_cons_zero, List.set_cons_succ]
      refine take_yes 11 (some 4) (v := ?_) rfl (by kernel_rfl) (by kernel_rfl) (by kernel_rfl) (by kernel_rfl) (fun _ _ _ h => h) (by rfl) (by assumption) ?_ ?_
      rotate_left
      · (intro w' hSw; (try dsimp only at hSw); go_simp; try with_reducible rfl)
      try simp only [Act.put, List.setIfInBounds_toArray, List.set_cons_zero, List.set_cons_succ]
      refine wpAnyH_done (by kernel_rfl) ?_ _
      clear hHeld_26
      obtain ⟨⟨x0, x1, x2, x3, x4, x5⟩, _⟩ := M_25.out.all6
      have e_1 := E1.out
      have e_2 := E2.out
      have e_3 := E3.out
      have e_4 := E4.out
      go_wp2_with fail
      all_goals (clear e_1 e_2 e_3 e_4)
      all_goals (go_ret; refine ⟨ret_int ?_, c_24⟩; rw [HZ.out]; split <;> omega)
end Go.Proofs.YtblmiocjhbpklaaDoor

/- A tree taken several times, the program's. -/
namespace Go.Proofs.YtblmiocjhbpklaaDoor
set_option maxRecDepth 100000
open Go.ChangeShapes Go.WideShapes Go.ChangeAt Go.RowKit
set_option linter.unusedVariables false
set_option linter.unusedSimpArgs false

theorem ownK_two (w w1 : World) (h : Since w w1) (e f : Tok) (he : e.In) (hf : f.In) (b : Nat) (hb : b = w1.heap.size) :
    OwnK w.heap.size (w1.alloc (.cells #[.int .i64 e.kd, .int .i64 e.lr, .int .i64 e.lo, .int .i64 e.hi, .int .i64 f.kd, .int .i64 f.lr, .int .i64 f.lo, .int .i64 f.hi] 90)) (.slice (some ⟨b, 0, none⟩) 2 2) [e, f] := by
  subst hb
  refine ⟨fun x hx => ?_, World.ownsRow_lit w1 #[.int .i64 e.kd, .int .i64 e.lr, .int .i64 e.lo, .int .i64 e.hi, .int .i64 f.kd, .int .i64 f.lr, .int .i64 f.lo, .int .i64 f.hi] 2 h.size (by unfold maxLen; omega) rfl⟩
  simp at hx
  rcases hx with rfl | rfl
  · exact he
  · exact hf

set_option maxHeartbeats 2000000 in
set_option maxRecDepth 100000 in
theorem expRep_any (X : Tr) (hX : X.len ≤ 5000) : ∀ (h : Nat) (lo hi : Int) (v : Value) (w : World), h ≤ 3 → hi = (h : Int) → 0 ≤ lo → lo ≤ 3 → ToksAt w v X.post →
    Calls Tryd.prog 117 #[v, .int .i64 lo, .int .i64 hi] w (TokOut w (timT X h lo.toNat).post) := by
  intro h
  induction h with
  | zero =>
    intro lo hi v w _ hh0 hlo0 hlo3 ha
    obtain ⟨ao, ac, rfl⟩ := ha.len
    clear ha
    obtain ⟨n, hn⟩ : ∃ n, n = X.post.length := ⟨_, rfl⟩
    rw [← hn]
    clear hn
    obtain rfl : hi = 0 := hh0
    have HD : Hid ((timT X 0 lo.toNat).post = [leafK 2]) := rfl
    have HO := Lib.hid (ownK_one w w (Since.refl w) (leafK 2) (leafK_in 2 (by decide)) w.heap.size rfl)
    have HS : Hid (Since w (w.alloc (.cells #[.int .i64 2, .int .i64 0, .int .i64 0, .int .i64 0] 90))) := (Since.refl w).alloc _
    go_enter Tryd.func117, Tryd.ntmps117
    go_wp2
    go_ret
    exact ⟨_, rfl, by rw [HD.out]; exact HO.out, HS.out⟩
  | succ h ih =>
    intro lo hi v w hh3 hhi hlo0 hlo3 ha
    have HA := Lib.hid ha
    obtain ⟨ao, ac, rfl⟩ := ha.len
    clear ha
    obtain ⟨n, hn⟩ : ∃ n, n = X.post.length := ⟨_, rfl⟩
    rw [← hn] at HA ⊢
    have hn9 : n ≤ 5000 := by rw [hn, post_len]; exact hX
    have HN := Lib.hid hn
    clear hn
    obtain ⟨lo2, hlo2⟩ : ∃ lo2 : Int, lo2 = if 1 < lo then lo - 1 else 0 := ⟨_, rfl⟩
    have hl20 : 0 ≤ lo2 ∧ lo2 ≤ 3 ∧ lo2.toNat = lo.toNat - 1 := by rw [hlo2]; split <;> omega
    have HMX : Hid ((if 1 < lo then lo - 1 else 0) = lo2) := hlo2.symm
    obtain ⟨T2, hT2⟩ : ∃ T2, T2 = timT X h (lo.toNat - 1) := ⟨_, rfl⟩
    have hT9 : T2.post.length ≤ 20000 := by rw [hT2]; exact timT_small hX (by omega)
    have HRC : Hid (∀ W, Since w W → Calls Tryd.prog 117 #[.slice ao n ac, .int .i64 lo2, .int .i64 (hi - 1)] W (TokOut W T2.post)) := fun W k => by
      have := ih lo2 (hi - 1) (.slice ao n ac) W (by omega) (by omega) hl20.1 hl20.2.1 (HA.out.since k)
      rw [hl20.2.2, ← hT2] at this
      exact this
    have HDT : Hid ((timT X (h + 1) lo.toNat).post = if lo = 0 then X.post ++ T2.post ++ [leafK 4] ++ [leafK 2, leafK 5] else X.post ++ T2.post ++ [leafK 4]) := by
      unfold Hid
      rw [hT2]
      conv => lhs; unfold timT
      by_cases e : lo = 0
      · rw [if_pos e, if_pos (by omega)]; simp [Tr.post, leafT]
      · rw [if_neg e, if_neg (by omega)]; simp [Tr.post]
    have hne : (hi == 0) = false := by simp; omega
    have EW1 : Hid (wrap64 (lo - 1) = lo - 1) := by unfold Hid wrap64; omega
    have EW2 : Hid (wrap64 (hi - 1) = hi - 1) := by unfold Hid wrap64; omega
    clear hl20 hT2 hhi ih EW1 HMX
    rcases (by omega : lo = 0 ∨ lo = 1 ∨ lo = 2 ∨ lo = 3) with rfl | rfl | rfl | rfl
    · obtain rfl : lo2 = 0 := by rw [hlo2]; rfl
      clear hlo2 hlo0 hlo3
      have HD : Hid ((timT X (h + 1) (Int.toNat 0)).post = X.post ++ T2.post ++ [leafK 4] ++ [leafK 2, leafK 5]) := by unfold Hid; rw [HDT.out]; rfl
      clear HDT
      have ew2 := EW2.out
      go_enter Tryd.func117, Tryd.ntmps117
      go_wp2_with fail
      clear ew2
      with_reducible refine (HRC.out _ (Since.refl w)).mono ?_
      rintro e w1 ⟨v1, rfl, ho1, hs1⟩
      obtain ⟨uo, un, uc, hun, rfl⟩ := ho1.lenN
      have HO1 := Lib.hid ho1
      clear ho1
      have hal : Since w1 ((w1.alloc (.cells #[.int .i64 4, .int .i64 0, .int .i64 0, .int .i64 0] 90)).alloc (.cells #[.slice ao n ac, .slice uo un uc, .slice (some ⟨w1.heap.size, 0, none⟩) 1 1] 24)) := ((Since.refl _).alloc _).alloc _
      have s1 := hs1.trans hal
      go_wp2_with fail
      refine (concat3 _ _ _ _ X.post T2.post [leafK 4] _ _ (Blk.new (by simp) _ _) (HA.out.since s1) (HO1.out.since hal).at ((tok_lit w1 (leafK 4) (leafK_in 4 (by decide))).since ((Since.refl _).alloc _)) rfl (by have := HN.out; simp; omega)).mono ?_
      rintro e w2 ⟨v2, rfl, ho2, hs2⟩
      obtain ⟨ro, N, rc, hN, rfl⟩ := ho2.lenN
      have s2 := s1.trans hs2
      have HO2 := Lib.hid (ho2.mono s1.size)
      clear ho2
      have hal2 : Since w2 (w2.alloc (.cells #[.int .i64 2, .int .i64 0, .int .i64 0, .int .i64 0, .int .i64 5, .int .i64 0, .int .i64 0, .int .i64 0] 90)) := (Since.refl _).alloc _
      have HL2 := Lib.hid (ownK_two w2 w2 (Since.refl w2) (leafK 2) (leafK 5) (leafK_in 2 (by decide)) (leafK_in 5 (by decide)) w2.heap.size rfl).at
      go_wp2_with (at_builtin; go_must (refine wpList_app rfl (.tmp 26) (.tmp 29) rfl w.heap.size ro N rc (X.post ++ T2.post ++ [leafK 4]) rfl (HO2.out.since hal2) _ _ _ rfl [leafK 2, leafK 5] HL2.out (by have := HN.out; simp; omega) (s2.trans hal2).size ?_); intro do4 N4 dc4 v4 hN4 ho4 hk4; have hf4 := (s2.trans hal2).keepK hk4; clear hk4)
      go_ret
      exact ⟨_, rfl, by rw [HD.out]; exact ho4, hf4⟩
    · obtain rfl : lo2 = 0 := by rw [hlo2]; rfl
      clear hlo2 hlo0 hlo3
      have HD : Hid ((timT X (h + 1) (Int.toNat 1)).post = X.post ++ T2.post ++ [leafK 4]) := by unfold Hid; rw [HDT.out]; rfl
      clear HDT
      have ew2 := EW2.out
      go_enter Tryd.func117, Tryd.ntmps117
      go_wp2_with fail
      clear ew2
      with_reducible refine (HRC.out _ (Since.refl w)).mono ?_
      rintro e w1 ⟨v1, rfl, ho1, hs1⟩
      obtain ⟨uo, un, uc, hun, rfl⟩ := ho1.lenN
      have HO1 := Lib.hid ho1
      clear ho1
      have hal : Since w1 ((w1.alloc (.cells #[.int .i64 4, .int .i64 0, .int .i64 0, .int .i64 0] 90)).alloc (.cells #[.slice ao n ac, .slice uo un uc, .slice (some ⟨w1.heap.size, 0, none⟩) 1 1] 24)) := ((Since.refl _).alloc _).alloc _
      have s1 := hs1.trans hal
      go_wp2_with fail
      refine (concat3 _ _ _ _ X.post T2.post [leafK 4] _ _ (Blk.new (by simp) _ _) (HA.out.since s1) (HO1.out.since hal).at ((tok_lit w1 (leafK 4) (leafK_in 4 (by decide))).since ((Since.refl _).alloc _)) rfl (by have := HN.out; simp; omega)).mono ?_
      rintro e w2 ⟨v2, rfl, ho2, hs2⟩
      obtain ⟨ro, N, rc, hN, rfl⟩ := ho2.lenN
      have s2 := s1.trans hs2
      have HO2 := Lib.hid (ho2.mono s1.size)
      clear ho2
      go_wp2_with fail
      go_ret
      exact ⟨_, rfl, by rw [HD.out]; exact HO2.out, s2⟩
    · obtain rfl : lo2 = 1 := by rw [hlo2]; rfl
      clear hlo2 hlo0 hlo3
      have HD : Hid ((timT X (h + 1) (Int.toNat 2)).post = X.post ++ T2.post ++ [leafK 4]) := by unfold Hid; rw [HDT.out]; rfl
      clear HDT
      have ew2 := EW2.out
      go_enter Tryd.func117, Tryd.ntmps117
      go_wp2_with fail
      clear ew2
      with_reducible refine (HRC.out _ (Since.refl w)).mono ?_
      rintro e w1 ⟨v1, rfl, ho1, hs1⟩
      obtain ⟨uo, un, uc, hun, rfl⟩ := ho1.lenN
      have HO1 := Lib.hid ho1
      clear ho1
      have hal : Since w1 ((w1.alloc (.cells #[.int .i64 4, .int .i64 0, .int .i64 0, .int .i64 0] 90)).alloc (.cells #[.slice ao n ac, .slice uo un uc, .slice (some ⟨w1.heap.size, 0, none⟩) 1 1] 24)) := ((Since.refl _).alloc _).alloc _
      have s1 := hs1.trans hal
      go_wp2_with fail
      refine (concat3 _ _ _ _ X.post T2.post [leafK 4] _ _ (Blk.new (by simp) _ _) (HA.out.since s1) (HO1.out.since hal).at ((tok_lit w1 (leafK 4) (leafK_in 4 (by decide))).since ((Since.refl _).alloc _)) rfl (by have := HN.out; simp; omega)).mono ?_
      rintro e w2 ⟨v2, rfl, ho2, hs2⟩
      obtain ⟨ro, N, rc, hN, rfl⟩ := ho2.lenN
      have s2 := s1.trans hs2
      have HO2 := Lib.hid (ho2.mono s1.size)
      clear ho2
      go_wp2_with fail
      go_ret
      exact ⟨_, rfl, by rw [HD.out]; exact HO2.out, s2⟩
    · obtain rfl : lo2 = 2 := by rw [hlo2]; rfl
      clear hlo2 hlo0 hlo3
      have HD : Hid ((timT X (h + 1) (Int.toNat 3)).post = X.post ++ T2.post ++ [leafK 4]) := by unfold Hid; rw [HDT.out]; rfl
      clear HDT
      have ew2 := EW2.out
      go_enter Tryd.func117, Tryd.ntmps117
      go_wp2_with fail
      clear ew2
      with_reducible refine (HRC.out _ (Since.refl w)).mono ?_
      rintro e w1 ⟨v1, rfl, ho1, hs1⟩
      obtain ⟨uo, un, uc, hun, rfl⟩ := ho1.lenN
      have HO1 := Lib.hid ho1
      clear ho1
      have hal : Since w1 ((w1.alloc (.cells #[.int .i64 4, .int .i64 0, .int .i64 0, .int .i64 0] 90)).alloc (.cells #[.slice ao n ac, .slice uo un uc, .slice (some ⟨w1.heap.size, 0, none⟩) 1 1] 24)) := ((Since.refl _).alloc _).alloc _
      have s1 := hs1.trans hal
      go_wp2_with fail
      refine (concat3 _ _ _ _ X.post T2.post [leafK 4] _ _ (Blk.new (by simp) _ _) (HA.out.since s1) (HO1.out.since hal).at ((tok_lit w1 (leafK 4) (leafK_in 4 (by decide))).since ((Since.refl _).alloc _)) rfl (by have := HN.out; simp; omega)).mono ?_
      rintro e w2 ⟨v2, rfl, ho2, hs2⟩
      obtain ⟨ro, N, rc, hN, rfl⟩ := ho2.lenN
      have s2 := s1.trans hs2
      have HO2 := Lib.hid (ho2.mono s1.size)
      clear ho2
      go_wp2_with fail
      go_ret
      exact ⟨_, rfl, by rw [HD.out]; exact HO2.out, s2⟩
end Go.Proofs.YtblmiocjhbpklaaDoor

/- The expansion, the program's. -/
namespace Go.Proofs.YtblmiocjhbpklaaDoor
set_option maxRecDepth 100000
open Go.ChangeShapes Go.WideShapes Go.ChangeAt Go.RowKit
set_option linter.unusedVariables false
set_option linter.unusedSimpArgs false


set_option maxHeartbeats 4000000 in
set_option maxRecDepth 100000 in
theorem expanded_any (T : Tr) : ∀ (a0 b0 : Nat) (v : Value) (w : World), TreeAt w T a0 b0 v → (T = .nil ∨ T.ok) → szT T ≤ 5000 → Calls Tryd.prog 65 #[v] w (TokOut w (exT T).post) := by
  induction T with
  | nil =>
    intro a0 b0 v w hv _ _
    obtain rfl : v = .pointer none := hv
    go_enter Tryd.func65, Tryd.ntmps65
    go_wp2
    go_ret
    exact ⟨_, rfl, ⟨fun x hx => by simp [exT, Tr.post] at hx, World.ownsRow_nil _ _ _ _⟩, Since.refl w⟩
  | node t l r hl hr =>
    intro a0 b0 v w hv hok hsz
    obtain ⟨htin, g, lv, rv, a, b, c0, d, rfl, hg, hB, _, _, _, _, hL, hR⟩ := hv
    have hok : (Tr.node t l r).ok := by rcases hok with e | e; (cases e); exact e
    obtain ⟨htok, hcase⟩ := hok
    have hlo : l = .nil ∨ l.ok := by rcases hcase with ⟨_, a, _⟩ | ⟨_, a, _⟩ | ⟨_, a, _⟩ <;> simp [a]
    have hro : r = .nil ∨ r.ok := by rcases hcase with ⟨_, _, a⟩ | ⟨_, _, a⟩ | ⟨_, _, a⟩ <;> simp [a]
    have hr7 : t.kd = 7 → r = .nil := by
      intro e
      rcases hcase with ⟨_, _, a⟩ | ⟨_, _, a⟩ | ⟨h2, _⟩
      · exact a
      · exact a
      · unfold opN at h2; rw [if_neg (by omega), if_pos (by omega)] at h2; omega
    obtain ⟨z1, z2⟩ := szT_parts htok hsz
    have z3 : szT r ≤ 5000 := by
      by_cases e : t.kd = 7
      · rw [hr7 e]; exact Nat.zero_le _
      · exact z2 e
    have small : ∀ S : Tr, (S = .nil ∨ S.ok) → szT S ≤ 5000 → (exT S).post.length ≤ 5000 := by
      intro S hS hz
      rcases hS with rfl | hS
      · exact Nat.zero_le _
      · exact exT_small hS hz
    have hdl := small l hlo z1
    have hdr := small r hro z3
    have HTI := Lib.hid htin
    have HL := Lib.hid hL
    have HR := Lib.hid hR
    obtain ⟨pl, rfl⟩ := hL.isPtr
    obtain ⟨pr, rfl⟩ := hR.isPtr
    have BX := Lib.hid hB
    unfold ncells at BX
    have HLC : Hid (∀ W, TreeAt W l a b (.pointer pl) → Calls Tryd.prog 65 #[.pointer pl] W (TokOut W (exT l).post)) := fun W k => hl a b _ W k hlo z1
    have HRC : Hid (∀ W, TreeAt W r c0 d (.pointer pr) → Calls Tryd.prog 65 #[.pointer pr] W (TokOut W (exT r).post)) := fun W k => hr c0 d _ W k hro z3
    have hgl : g < w.heap.size := BX.out.lt
    by_cases h7 : t.kd = 7
    · obtain ⟨k0, k1, k2, k3⟩ := okT_hi htok h7
      have HD : Hid ((exT (Tr.node t l r)).post = (timT (exT l) t.hi.toNat t.lo.toNat).post) := by unfold Hid; rw [exT, if_pos h7]
      have HTM : Hid (∀ V W, ToksAt W V (exT l).post → Calls Tryd.prog 117 #[V, .int .i64 t.lo, .int .i64 t.hi] W (TokOut W (timT (exT l) t.hi.toNat t.lo.toNat).post)) := fun V W k => expRep_any (exT l) (by rw [← post_len]; exact hdl) t.hi.toNat t.lo t.hi V W (by omega) (by omega) k0 (by omega) k
      have e7 : (t.kd == 7) = true := by simp [h7]
      clear hl hr hL hR hB htin hcase hlo hro hr7 z1 z2 z3 small k0 k1 k2 k3 h7 htok hsz
      go_enter Tryd.func65, Tryd.ntmps65
      go_upto_region 3 with fail
      have HKC : Hid (∀ w', Blk w' g 131 #[.int .i64 t.kd, .int .i64 t.lr, .int .i64 t.lo, .int .i64 t.hi, .pointer pl, .pointer pr] → w'.cell? ⟨g, 0, none⟩ = some (.int .i64 t.kd) ∧ w'.cell? ⟨g, 1, none⟩ = some (.int .i64 t.lr) ∧ w'.cell? ⟨g, 2, none⟩ = some (.int .i64 t.lo) ∧ w'.cell? ⟨g, 3, none⟩ = some (.int .i64 t.hi) ∧ w'.cell? ⟨g, 4, none⟩ = some (.pointer pl) ∧ w'.cell? ⟨g, 5, none⟩ = some (.pointer pr)) := by
        intro w' hb0
        obtain ⟨⟨r00, r01, r02, r03, r04, r05⟩, _⟩ := hb0.all6
        exact ⟨r00, r01, r02, r03, r04, r05⟩
      refine wp_region_held_drew (S := (fun w' => w'.cell? ⟨g, 0, none⟩ = some (.int .i64 t.kd) ∧ w'.cell? ⟨g, 1, none⟩ = some (.int .i64 t.lr) ∧ w'.cell? ⟨g, 2, none⟩ = some (.int .i64 t.lo) ∧ w'.cell? ⟨g, 3, none⟩ = some (.int .i64 t.hi) ∧ w'.cell? ⟨g, 4, none⟩ = some (.pointer pl) ∧ w'.cell? ⟨g, 5, none⟩ = some (.pointer pr))) (by kernel_rfl) (HKC.out _ (BX.out.drew)) (fun hHeld => ?_)
      refine take_yes 0 (some 7) (v := ?_) rfl (by kernel_rfl) (by kernel_rfl) (by kernel_rfl) (by kernel_rfl) (fun _ _ _ h => h) (by rfl) (by assumption) ?_ ?_
      rotate_left
      · (intro w' hSw; (try dsimp only at hSw); go_simp; try with_reducible rfl)
      try simp only [Act.put, List.setIfInBounds_toArray, List.set_cons_zero, List.set_cons_succ]
      refine take_yes 1 (some 8) (v := ?_) rfl (by kernel_rfl) (by kernel_rfl) (by kernel_rfl) (by kernel_rfl) (fun _ _ _ h => h) (by rfl) (by assumption) ?_ ?_
      rotate_left
      · (intro w' hSw; (try dsimp only at hSw); go_simp; try with_reducible rfl)
      try simp only [Act.put, List.setIfInBounds_toArray, List.set_cons_zero, List.set_cons_succ]
      refine take_yes 2 (some 9) (v := ?_) rfl (by kernel_rfl) (by kernel_rfl) (by kernel_rfl) (by kernel_rfl) (fun _ _ _ h => h) (by rfl) (by assumption) ?_ ?_
      rotate_left
      · (intro w' hSw; (try dsimp only at hSw); go_simp; try with_reducible rfl)
      try simp only [Act.put, List.setIfInBounds_toArray, List.set_cons_zero, List.set_cons_succ]
      refine take_yes 3 (some 10) (v := ?_) rfl (by kernel_rfl) (by kernel_rfl) (by kernel_rfl) (by kernel_rfl) (fun _ _ _ h => h) (by rfl) (by assumption) ?_ ?_
      rotate_left
      · (intro w' hSw; (try dsimp only at hSw); go_simp; try with_reducible rfl)
      try simp only [Act.put, List.setIfInBounds_toArray, List.set_cons_zero, List.set_cons_succ]
      refine take_yes 5 (some 12) (v := ?_) rfl (by kernel_rfl) (by kernel_rfl) (by kernel_rfl) (by kernel_rfl) (fun _ _ _ h => h) (by rfl) (by assumption) ?_ ?_
      rotate_left
      · (intro w' hSw; (try dsimp only at hSw); go_simp; try with_reducible rfl)
      try simp only [Act.put, List.setIfInBounds_toArray, List.set_cons_zero, List.set_cons_succ]
      refine take_yes 6 (some 13) (v := ?_) rfl (by kernel_rfl) (by kernel_rfl) (by kernel_rfl) (by kernel_rfl) (fun _ _ _ h => h) (by rfl) (by assumption) ?_ ?_
      rotate_left
      · (intro w' hSw; (try dsimp only at hSw); go_simp; try with_reducible rfl)
      try simp only [Act.put, List.setIfInBounds_toArray, List.set_cons_zero, List.set_cons_succ]
      refine take_yes 7 (some 14) (v := ?_) rfl (by kernel_rfl) (by kernel_rfl) (by kernel_rfl) (by kernel_rfl) (fun _ _ _ h => h) (by rfl) (by assumption) ?_ ?_
      rotate_left
      · (intro w' hSw; (try dsimp only at hSw); go_simp; try with_reducible rfl)
      try simp only [Act.put, List.setIfInBounds_toArray, List.set_cons_zero, List.set_cons_succ]
      refine take_yes 8 (some 15) (v := ?_) rfl (by kernel_rfl) (by kernel_rfl) (by kernel_rfl) (by kernel_rfl) (fun _ _ _ h => h) (by rfl) (by assumption) ?_ ?_
      rotate_left
      · (intro w' hSw; (try dsimp only at hSw); go_simp; try with_reducible rfl)
      try simp only [Act.put, List.setIfInBounds_toArray, List.set_cons_zero, List.set_cons_succ]
      refine take_run 4 rfl (by kernel_rfl) (by rfl) (fun K hK => ?_)
      have dr_32 : Since w w.drew := (Since.refl _).drew
      have c_33 := Since.trans ((Since.refl w)) dr_32
      have M_34 := Lib.hid (BX.out.since dr_32)
      clear BX
      clear dr_32
      go_simp
      refine (HLC.out _ (HL.out.since c_33)).mono ?_
      rintro en q_27 ⟨v_28, rfl, ho_29, hs_30⟩
      obtain ⟨u_31o, u_31n, u_31c, u_31N, rfl⟩ := ho_29.lenN
      have O_35 := Lib.hid (ho_29.mono (base' := w.heap.size) c_33.size)
      clear ho_29
      have c_36 := Since.trans c_33 hs_30
      have M_37 := Lib.hid (M_34.out.since hs_30)
      clear M_34
      clear hs_30
      refine hK.out _ _ (HKC.out _ M_37.out) (fun hHeld_38 => ?_)
      clear hK K hHeld
      try simp only [Act.put, List.setIfInBounds_toArray, List.set_cons_zero, List.set_cons_succ]
      refine take_run 9 rfl (by kernel_rfl) (by rfl) (fun K hK => ?_)
      go_simp
      refine (HRC.out _ (HR.out.since c_36)).mono ?_
      rintro en q_39 ⟨v_40, rfl, ho_41, hs_42⟩
      obtain ⟨x_43o, x_43n, x_43c, x_43N, rfl⟩ := ho_41.lenN
      have O_44 := Lib.hid (ho_41.mono (base' := w.heap.size) c_36.size)
      clear ho_41
      have c_45 := Since.trans c_36 hs_42
      have M_46 := Lib.hid (M_37.out.since hs_42)
      clear M_37
      have M_47 := Lib.hid (O_35.out.since hs_42)
      clear O_35
      clear hs_42
      refine hK.out _ _ (HKC.out _ M_46.out) (fun hHeld_48 => ?_)
      clear hK K hHeld_38
      try simp only [Act.put, List.setIfInBounds_toArray, List.set_cons_zero, List.set_cons_succ]
      refine take_yes 10 (some 3) (v := ?_) rfl (by kernel_rfl) (by kernel_rfl) (by kernel_rfl) (by kernel_rfl) (fun _ _ _ h => h) (by rfl) (by assumption) ?_ ?_
      rotate_left
      · (intro w' hSw; (try dsimp only at hSw); go_simp; try with_reducible rfl)
      try simp only [Act.put, List.setIfInBounds_toArray, List.set_cons_zero, List.set_cons_succ]
      refine take_yes 11 (some 4) (v := ?_) rfl (by kernel_rfl) (by kernel_rfl) (by kernel_rfl) (by kernel_rfl) (fun _ _ _ h => h) (by rfl) (by assumption) ?_ ?_
      rotate_left
      · (intro w' hSw; (try dsimp only at hSw); go_simp; try with_reducible rfl)
      try simp only [Act.put, List.setIfInBounds_toArray, List.set_cons_zero, List.set_cons_succ]
      refine wpAnyH_done (by kernel_rfl) ?_ _
      clear hHeld_48
      clear HKC
      have B6 := M_46
      have O6 := M_47
      have c6 := c_45
      obtain ⟨⟨x0, x1, x2, x3, x4, x5⟩, _⟩ := B6.out.all6
      go_upto_region 5 with fail
      clear x0 x1 x2 x3 x4 x5
      have HKC : Hid (∀ w', Blk w' g 131 #[.int .i64 t.kd, .int .i64 t.lr, .int .i64 t.lo, .int .i64 t.hi, .pointer pl, .pointer pr] → w'.cell? ⟨g, 0, none⟩ = some (.int .i64 t.kd) ∧ w'.cell? ⟨g, 1, none⟩ = some (.int .i64 t.lr) ∧ w'.cell? ⟨g, 2, none⟩ = some (.int .i64 t.lo) ∧ w'.cell? ⟨g, 3, none⟩ = some (.int .i64 t.hi) ∧ w'.cell? ⟨g, 4, none⟩ = some (.pointer pl) ∧ w'.cell? ⟨g, 5, none⟩ = some (.pointer pr)) := by
        intro w' hb0
        obtain ⟨⟨r00, r01, r02, r03, r04, r05⟩, _⟩ := hb0.all6
        exact ⟨r00, r01, r02, r03, r04, r05⟩
      refine wp_region_held_drew (S := (fun w' => w'.cell? ⟨g, 0, none⟩ = some (.int .i64 t.kd) ∧ w'.cell? ⟨g, 1, none⟩ = some (.int .i64 t.lr) ∧ w'.cell? ⟨g, 2, none⟩ = some (.int .i64 t.lo) ∧ w'.cell? ⟨g, 3, none⟩ = some (.int .i64 t.hi) ∧ w'.cell? ⟨g, 4, none⟩ = some (.pointer pl) ∧ w'.cell? ⟨g, 5, none⟩ = some (.pointer pr))) (by kernel_rfl) (HKC.out _ (B6.out.drew)) (fun hHeld => ?_)
      refine take_yes 0 (some 23) (v := ?_) rfl (by kernel_rfl) (by kernel_rfl) (by kernel_rfl) (by kernel_rfl) (fun _ _ _ h => h) (by rfl) (by assumption) ?_ ?_
      rotate_left
      · (intro w' hSw; (try dsimp only at hSw); go_simp; try with_reducible rfl)
      try simp only [Act.put, List.setIfInBounds_toArray, List.set_cons_zero, List.set_cons_succ]
      refine take_yes 1 (some 24) (v := ?_) rfl (by kernel_rfl) (by kernel_rfl) (by kernel_rfl) (by kernel_rfl) (fun _ _ _ h => h) (by rfl) (by assumption) ?_ ?_
      rotate_left
      · (intro w' hSw; (try dsimp only at hSw); go_simp; try with_reducible rfl)
      try simp only [Act.put, List.setIfInBounds_toArray, List.set_cons_zero, List.set_cons_succ]
      refine take_yes 2 (some 25) (v := ?_) rfl (by kernel_rfl) (by kernel_rfl) (by kernel_rfl) (by kernel_rfl) (fun _ _ _ h => h) (by rfl) (by assumption) ?_ ?_
      rotate_left
      · (intro w' hSw; (try dsimp only at hSw); go_simp; try with_reducible rfl)
      try simp only [Act.put, List.setIfInBounds_toArray, List.set_cons_zero, List.set_cons_succ]
      refine take_yes 3 (some 26) (v := ?_) rfl (by kernel_rfl) (by kernel_rfl) (by kernel_rfl) (by kernel_rfl) (fun _ _ _ h => h) (by rfl) (by assumption) ?_ ?_
      rotate_left
      · (intro w' hSw; (try dsimp only at hSw); go_simp; try with_reducible rfl)
      try simp only [Act.put, List.setIfInBounds_toArray, List.set_cons_zero, List.set_cons_succ]
      refine take_yes 4 (some 27) (v := ?_) rfl (by kernel_rfl) (by kernel_rfl) (by kernel_rfl) (by kernel_rfl) (fun _ _ _ h => h) (by rfl) (by assumption) ?_ ?_
      rotate_left
      · (intro w' hSw; (try dsimp only at hSw); go_simp; try with_reducible rfl)
      try simp only [Act.put, List.setIfInBounds_toArray, List.set_cons_zero, List.set_cons_succ]
      refine take_yes 5 (some 28) (v := ?_) rfl (by kernel_rfl) (by kernel_rfl) (by kernel_rfl) (by kernel_rfl) (fun _ _ _ h => h) (by rfl) (by assumption) ?_ ?_
      rotate_left
      · (intro w' hSw; (try dsimp only at hSw); go_simp; try with_reducible rfl)
      try simp only [Act.put, List.setIfInBounds_toArray, List.set_cons_zero, List.set_cons_succ]
      refine take_yes 6 (some 29) (v := ?_) rfl (by kernel_rfl) (by kernel_rfl) (by kernel_rfl) (by kernel_rfl) (fun _ _ _ h => h) (by rfl) (by assumption) ?_ ?_
      rotate_left
      · (intro w' hSw; (try dsimp only at hSw); go_simp; try with_reducible rfl)
      try simp only [Act.put, List.setIfInBounds_toArray, List.set_cons_zero, List.set_cons_succ]
      refine take_yes 7 (some 30) (v := ?_) rfl (by kernel_rfl) (by kernel_rfl) (by kernel_rfl) (by kernel_rfl) (fun _ _ _ h => h) (by rfl) (by assumption) ?_ ?_
      rotate_left
      · (intro w' hSw; (try dsimp only at hSw); go_simp; try with_reducible rfl)
      try simp only [Act.put, List.setIfInBounds_toArray, List.set_cons_zero, List.set_cons_succ]
      refine take_yes 8 (some 31) (v := ?_) rfl (by kernel_rfl) (by kernel_rfl) (by kernel_rfl) (by kernel_rfl) (fun _ _ _ h => h) (by rfl) (by assumption) ?_ ?_
      rotate_left
      · (intro w' hSw; (try dsimp only at hSw); go_simp; try with_reducible rfl)
      try simp only [Act.put, List.setIfInBounds_toArray, List.set_cons_zero, List.set_cons_succ]
      refine take_yes 9 (some 32) (v := ?_) rfl (by kernel_rfl) (by kernel_rfl) (by kernel_rfl) (by kernel_rfl) (fun _ _ _ h => h) (by rfl) (by assumption) ?_ ?_
      rotate_left
      · (intro w' hSw; (try dsimp only at hSw); go_simp; try with_reducible rfl)
      try simp only [Act.put, List.setIfInBounds_toArray, List.set_cons_zero, List.set_cons_succ]
      refine take_yes 10 (some 33) (v := ?_) rfl (by kernel_rfl) (by kernel_rfl) (by kernel_rfl) (by kernel_rfl) (fun _ _ _ h => h) (by rfl) (by assumption) ?_ ?_
      rotate_left
      · (intro w' hSw; (try dsimp only at hSw); go_simp; try with_reducible rfl)
      try simp only [Act.put, List.setIfInBounds_toArray, List.set_cons_zero, List.set_cons_succ]
      refine take_run 11 rfl (by kernel_rfl) (by rfl) (fun K hK => ?_)
      have dr_54 : Since q_39 q_39.drew := (Since.refl _).drew
      have c_55 := Since.trans c6 dr_54
      have M_56 := Lib.hid (B6.out.since dr_54)
      clear B6
      have M_57 := Lib.hid (O6.out.since dr_54)
      clear O6
      clear dr_54
      go_simp
      refine (HTM.out _ _ M_57.out.at).mono ?_
      rintro en q_49 ⟨v_50, rfl, ho_51, hs_52⟩
      obtain ⟨Z_53o, Z_53n, Z_53c, Z_53N, rfl⟩ := ho_51.lenN
      have O_58 := Lib.hid (ho_51.mono (base' := w.heap.size) c_55.size)
      clear ho_51
      have c_59 := Since.trans c_55 hs_52
      have M_60 := Lib.hid (M_56.out.since hs_52)
      clear M_56
      have M_61 := Lib.hid (M_57.out.since hs_52)
      clear M_57
      clear hs_52
      refine hK.out _ _ (HKC.out _ M_60.out) (fun hHeld_62 => ?_)
      clear hK K hHeld
      try simp only [Act.put, List.setIfInBounds_toArray, List.set_cons_zero, List.set_cons_succ]
      refine take_yes 12 (some 2) (v := ?_) rfl (by kernel_rfl) (by kernel_rfl) (by kernel_rfl) (by kernel_rfl) (fun _ _ _ h => h) (by rfl) (by assumption) ?_ ?_
      rotate_left
      · (intro w' hSw; (try dsimp only at hSw); go_simp; try with_reducible rfl)
      try simp only [Act.put, List.setIfInBounds_toArray, List.set_cons_zero, List.set_cons_succ]
      refine wpAnyH_done (by kernel_rfl) ?_ _
      clear hHeld_62
      go_wp2_with fail
      go_ret
      exact ⟨_, rfl, by rw [HD.out]; exact O_58.out, c_59⟩
    · have HD : Hid ((exT (Tr.node t l r)).post = (exT l).post ++ (exT r).post ++ [t]) := by unfold Hid; rw [exT, if_neg h7]; rfl
      have e7 : (t.kd == 7) = false := by simp [h7]
      clear hl hr hL hR hB htin hcase hlo hro hr7 z1 z2 z3 small h7 htok hsz
      go_enter Tryd.func65, Tryd.ntmps65
      go_upto_region 3 with fail
      have HKC : Hid (∀ w', Blk w' g 131 #[.int .i64 t.kd, .int .i64 t.lr, .int .i64 t.lo, .int .i64 t.hi, .pointer pl, .pointer pr] → w'.cell? ⟨g, 0, none⟩ = some (.int .i64 t.kd) ∧ w'.cell? ⟨g, 1, none⟩ = some (.int .i64 t.lr) ∧ w'.cell? ⟨g, 2, none⟩ = some (.int .i64 t.lo) ∧ w'.cell? ⟨g, 3, none⟩ = some (.int .i64 t.hi) ∧ w'.cell? ⟨g, 4, none⟩ = some (.pointer pl) ∧ w'.cell? ⟨g, 5, none⟩ = some (.pointer pr)) := by
        intro w' hb0
        obtain ⟨⟨r00, r01, r02, r03, r04, r05⟩, _⟩ := hb0.all6
        exact ⟨r00, r01, r02, r03, r04, r05⟩
      refine wp_region_held_drew (S := (fun w' => w'.cell? ⟨g, 0, none⟩ = some (.int .i64 t.kd) ∧ w'.cell? ⟨g, 1, none⟩ = some (.int .i64 t.lr) ∧ w'.cell? ⟨g, 2, none⟩ = some (.int .i64 t.lo) ∧ w'.cell? ⟨g, 3, none⟩ = some (.int .i64 t.hi) ∧ w'.cell? ⟨g, 4, none⟩ = some (.pointer pl) ∧ w'.cell? ⟨g, 5, none⟩ = some (.pointer pr))) (by kernel_rfl) (HKC.out _ (BX.out.drew)) (fun hHeld => ?_)
      refine take_yes 0 (some 7) (v := ?_) rfl (by kernel_rfl) (by kernel_rfl) (by kernel_rfl) (by kernel_rfl) (fun _ _ _ h => h) (by rfl) (by assumption) ?_ ?_
      rotate_left
      · (intro w' hSw; (try dsimp only at hSw); go_simp; try with_reducible rfl)
      try simp only [Act.put, List.setIfInBounds_toArray, List.set_cons_zero, List.set_cons_succ]
      refine take_yes 1 (some 8) (v := ?_) rfl (by kernel_rfl) (by kernel_rfl) (by kernel_rfl) (by kernel_rfl) (fun _ _ _ h => h) (by rfl) (by assumption) ?_ ?_
      rotate_left
      · (intro w' hSw; (try dsimp only at hSw); go_simp; try with_reducible rfl)
      try simp only [Act.put, List.setIfInBounds_toArray, List.set_cons_zero, List.set_cons_succ]
      refine take_yes 2 (some 9) (v := ?_) rfl (by kernel_rfl) (by kernel_rfl) (by kernel_rfl) (by kernel_rfl) (fun _ _ _ h => h) (by rfl) (by assumption) ?_ ?_
      rotate_left
      · (intro w' hSw; (try dsimp only at hSw); go_simp; try with_reducible rfl)
      try simp only [Act.put, List.setIfInBounds_toArray, List.set_cons_zero, List.set_cons_succ]
      refine take_yes 3 (some 10) (v := ?_) rfl (by kernel_rfl) (by kernel_rfl) (by kernel_rfl) (by kernel_rfl) (fun _ _ _ h => h) (by rfl) (by assumption) ?_ ?_
      rotate_left
      · (intro w' hSw; (try dsimp only at hSw); go_simp; try with_reducible rfl)
      try simp only [Act.put, List.setIfInBounds_toArray, List.set_cons_zero, List.set_cons_succ]
      refine take_yes 5 (some 12) (v := ?_) rfl (by kernel_rfl) (by kernel_rfl) (by kernel_rfl) (by kernel_rfl) (fun _ _ _ h => h) (by rfl) (by assumption) ?_ ?_
      rotate_left
      · (intro w' hSw; (try dsimp only at hSw); go_simp; try with_reducible rfl)
      try simp only [Act.put, List.setIfInBounds_toArray, List.set_cons_zero, List.set_cons_succ]
      refine take_yes 6 (some 13) (v := ?_) rfl (by kernel_rfl) (by kernel_rfl) (by kernel_rfl) (by kernel_rfl) (fun _ _ _ h => h) (by rfl) (by assumption) ?_ ?_
      rotate_left
      · (intro w' hSw; (try dsimp only at hSw); go_simp; try with_reducible rfl)
      try simp only [Act.put, List.setIfInBounds_toArray, List.set_cons_zero, List.set_cons_succ]
      refine take_yes 7 (some 14) (v := ?_) rfl (by kernel_rfl) (by kernel_rfl) (by kernel_rfl) (by kernel_rfl) (fun _ _ _ h => h) (by rfl) (by assumption) ?_ ?_
      rotate_left
      · (intro w' hSw; (try dsimp only at hSw); go_simp; try with_reducible rfl)
      try simp only [Act.put, List.setIfInBounds_toArray, List.set_cons_zero, List.set_cons_succ]
      refine take_yes 8 (some 15) (v := ?_) rfl (by kernel_rfl) (by kernel_rfl) (by kernel_rfl) (by kernel_rfl) (fun _ _ _ h => h) (by rfl) (by assumption) ?_ ?_
      rotate_left
      · (intro w' hSw; (try dsimp only at hSw); go_simp; try with_reducible rfl)
      try simp only [Act.put, List.setIfInBounds_toArray, List.set_cons_zero, List.set_cons_succ]
      refine take_run 4 rfl (by kernel_rfl) (by rfl) (fun K hK => ?_)
      have dr_68 : Since w w.drew := (Since.refl _).drew
      have c_69 := Since.trans ((Since.refl w)) dr_68
      have M_70 := Lib.hid (BX.out.since dr_68)
      clear BX
      clear dr_68
      go_simp
      refine (HLC.out _ (HL.out.since c_69)).mono ?_
      rintro en q_63 ⟨v_64, rfl, ho_65, hs_66⟩
      obtain ⟨u_67o, u_67n, u_67c, u_67N, rfl⟩ := ho_65.lenN
      have O_71 := Lib.hid (ho_65.mono (base' := w.heap.size) c_69.size)
      clear ho_65
      have c_72 := Since.trans c_69 hs_66
      have M_73 := Lib.hid (M_70.out.since hs_66)
      clear M_70
      clear hs_66
      refine hK.out _ _ (HKC.out _ M_73.out) (fun hHeld_74 => ?_)
      clear hK K hHeld
      try simp only [Act.put, List.setIfInBounds_toArray, List.set_cons_zero, List.set_cons_succ]
      refine take_run 9 rfl (by kernel_rfl) (by rfl) (fun K hK => ?_)
      go_simp
      refine (HRC.out _ (HR.out.since c_72)).mono ?_
      rintro en q_75 ⟨v_76, rfl, ho_77, hs_78⟩
      obtain ⟨x_79o, x_79n, x_79c, x_79N, rfl⟩ := ho_77.lenN
      have O_80 := Lib.hid (ho_77.mono (base' := w.heap.size) c_72.size)
      clear ho_77
      have c_81 := Since.trans c_72 hs_78
      have M_82 := Lib.hid (M_73.out.since hs_78)
      clear M_73
      have M_83 := Lib.hid (O_71.out.since hs_78)
      clear O_71
      clear hs_78
      refine hK.out _ _ (HKC.out _ M_82.out) (fun hHeld_84 => ?_)
      clear hK K hHeld_74
      try simp only [Act.put, List.setIfInBounds_toArray, List.set_cons_zero, List.set_cons_succ]
      refine take_yes 10 (some 3) (v := ?_) rfl (by kernel_rfl) (by kernel_rfl) (by kernel_rfl) (by kernel_rfl) (fun _ _ _ h => h) (by rfl) (by assumption) ?_ ?_
      rotate_left
      · (intro w' hSw; (try dsimp only at hSw); go_simp; try with_reducible rfl)
      try simp only [Act.put, List.setIfInBounds_toArray, List.set_cons_zero, List.set_cons_succ]
      refine take_yes 11 (some 4) (v := ?_) rfl (by kernel_rfl) (by kernel_rfl) (by kernel_rfl) (by kernel_rfl) (fun _ _ _ h => h) (by rfl) (by assumption) ?_ ?_
      rotate_left
      · (intro w' hSw; (try dsimp only at hSw); go_simp; try with_reducible rfl)
      try simp only [Act.put, List.setIfInBounds_toArray, List.set_cons_zero, List.set_cons_succ]
      refine wpAnyH_done (by kernel_rfl) ?_ _
      clear hHeld_84
      clear HKC
      obtain ⟨⟨x0, x1, x2, x3, x4, x5⟩, _⟩ := M_82.out.all6
      have O6 := M_83
      have O7 := O_80
      have c6 := c_81
      obtain ⟨wL, hwL⟩ : ∃ W, W = q_75 := ⟨_, rfl⟩
      have hal : Since wL ((wL.alloc (.cells #[.int .i64 t.kd, .int .i64 t.lr, .int .i64 t.lo, .int .i64 t.hi] 90)).alloc (.cells #[.slice u_67o u_67n u_67c, .slice x_79o x_79n x_79c, .slice (some ⟨wL.heap.size, 0, none⟩) 1 1] 24)) := ((Since.refl _).alloc _).alloc _
      subst hwL
      go_wp2_with fail
      refine (concat3 _ _ _ _ (exT l).post (exT r).post [t] _ _ (Blk.new (by simp) _ _) (O6.out.since hal).at (O7.out.since hal).at ((tok_lit _ t HTI.out).since ((Since.refl _).alloc _)) rfl (by simp; omega)).mono ?_
      rintro e w9 ⟨v9, rfl, ho9, hs9⟩
      obtain ⟨ro, N, rc, hN, rfl⟩ := ho9.lenN
      have s9 := Since.trans (Since.trans c6 hal) hs9
      have HO9 := Lib.hid (ho9.mono (Since.trans c6 hal).size)
      clear ho9
      go_wp2_with fail
      go_ret
      exact ⟨_, rfl, by rw [HD.out]; exact HO9.out, s9⟩
end Go.Proofs.YtblmiocjhbpklaaDoor

/- ExpandExpr, the model's and the program's. -/
namespace Go.Proofs.YtblmiocjhbpklaaDoor
set_option maxRecDepth 100000
open Go.ChangeShapes Go.WideShapes Go.ChangeAt Go.RowKit
set_option linter.unusedVariables false
set_option linter.unusedSimpArgs false

theorem validXB_tree {xs : List Tok} (h : validXB xs = true) : xs.length ≤ 24 ∧ (treeT xs).ok ∧ xs = (treeT xs).post := by
  unfold validXB isXB at h
  rw [Bool.and_eq_true, decide_eq_true_eq] at h
  obtain ⟨h1, h2⟩ := h
  cases e : treeO xs with
  | none => rw [e] at h2; cases h2
  | some T =>
    obtain ⟨h3, h4⟩ := treeO_some e
    rw [treeT_some e]
    exact ⟨h1, h3, h4⟩
theorem exB_no {xs : List Tok} (h : exB xs = false) : exX xs = [] := by unfold exX; rw [h]; rfl
theorem exB_yes {xs : List Tok} (h : exB xs = true) : exX xs = (exT (treeT xs)).post := by unfold exX; rw [if_pos h]
theorem exB_valid {xs : List Tok} (h : validXB xs = false) : exB xs = false := by unfold exB; rw [h]; rfl
theorem exB_size {xs : List Tok} (h : ¬ szT (treeT xs) ≤ 5000) : exB xs = false := by unfold exB; rw [decide_eq_false h]; simp
theorem exB_long {xs : List Tok} (h : ¬ (exT (treeT xs)).post.length ≤ 400) : exB xs = false := by unfold exB; rw [decide_eq_false h]; simp
theorem exB_all {xs : List Tok} (h1 : validXB xs = true) (h2 : szT (treeT xs) ≤ 5000) (h3 : (exT (treeT xs)).post.length ≤ 400) : exB xs = true := by
  unfold exB; rw [h1, decide_eq_true h2, decide_eq_true h3]; rfl
set_option maxHeartbeats 2000000 in
set_option maxRecDepth 100000 in
theorem specEX_any (v : Value) (xs : List Tok) (w : World) (h : ExC w v xs) (hl : xs.length ≤ 1048577) :
    Calls Tryd.prog 21 #[v] w (XBOut w (exX xs) (exB xs)) := by
  obtain ⟨ao, ac, rfl, ha, hac⟩ := h.open
  have HA := Lib.hid ha
  have HIN := Lib.hid ha.1
  obtain ⟨n, hn⟩ : ∃ n, n = xs.length := ⟨_, rfl⟩
  rw [← hn] at HA hac ⊢
  have HN := Lib.hid hn
  have hn9 : n ≤ 1048577 := by omega
  clear hn h ha
  obtain ⟨y, hy⟩ : ∃ y, y = (w.alloc (.cells #[.slice ao n ac] 26)).alloc (.cells #[.slice none 0 0] 26) := ⟨_, rfl⟩
  have hsy : Since w y := by rw [hy]; exact ((Since.refl w).alloc _).alloc _
  have BE : Hid (Blk y w.heap.size 26 #[.slice ao n ac]) := by rw [hy]; exact (Blk.new rfl _ _).alloc _
  have BR : Hid (Blk y (w.heap.size + 1) 26 #[.slice none 0 0]) := by rw [hy]; exact Blk.new (by simp) _ _
  have HY := Lib.hid hy
  clear hy
  go_enter Tryd.func21, Tryd.ntmps21
  go_wp2_with fail
  rw [← HY.out]
  refine (specVX_any _ xs _ ⟨_, rfl, HA.out.since hsy⟩ hl).mono ?_
  rintro e w1 ⟨rfl, hs1⟩
  have hyw := hsy.trans hs1
  obtain ⟨r0, r1⟩ := (BR.out.since hs1).one
  obtain ⟨p0, p1⟩ := (BE.out.since hs1).one
  cases hv : validXB xs with
  | false =>
    have HP : Hid (exB xs = false) := exB_valid hv
    have HQ := Lib.hid (exB_no HP.out)
    clear hv
    go_wp2
    refine bodyPost_ret (v := .tuple #[.agg #[.slice none 0 0], .bool false]) (by simp [results, Tryd.results21, go_sem, *]) rfl ?_
    rw [HP.out, HQ.out]
    refine xbOut_nil ?_
    first | exact hyw | exact hyw.setCell (by show w.heap.size ≤ w.heap.size + 1; omega) _
  | true =>
    have HV := Lib.hid hv
    obtain ⟨h24, hok, hpost⟩ := validXB_tree hv
    clear hv
    obtain ⟨T, hT⟩ : ∃ T, T = treeT xs := ⟨_, rfl⟩
    rw [← hT] at hok hpost
    have HT := Lib.hid hT
    have HAT : Hid (∀ W, Since w W → ToksAt W (.slice ao n ac) T.post) := fun W k => by rw [← hpost]; exact HA.out.since k
    have HIN2 : Hid (∀ x ∈ T.post, x.In) := by unfold Hid; rw [← hpost]; exact HIN.out
    have hlen : Hid (n = T.len) := by unfold Hid; rw [HN.out, hpost, post_len]
    have HOK := Lib.hid hok
    obtain ⟨Z, hZ⟩ : ∃ Z, Z = szT T := ⟨_, rfl⟩
    have hZ9 : Z ≤ 100000 := by rw [hZ]; exact szT_le T
    have HSZ : Hid (∀ W, Since w W → Calls Tryd.prog 66 #[.slice ao n ac] W (IOut W Z)) := fun W k => by rw [hZ]; exact l10Size_any T ao n ac W HOK.out (HAT.out W k) hac hlen.out hn9 HIN2.out
    have HZ := Lib.hid hZ
    clear hT hok hpost hZ
    go_wp2_with fail
    refine (HSZ.out _ hyw).mono ?_
    rintro e w2 ⟨rfl, hs2⟩
    have hyw2 := hyw.trans hs2
    have BR2 := Lib.hid (BR.out.since (hs1.trans hs2))
    have BE2 := Lib.hid (BE.out.since (hs1.trans hs2))
    clear p0 p1 r0 r1
    obtain ⟨r0, r1⟩ := BR2.out.one
    obtain ⟨p0, p1⟩ := BE2.out.one
    by_cases h5 : Z ≤ 5000
    · have h5i : ¬ ((5000 : Int) < (Z : Int)) := by omega
      have HEX : Hid (∀ W, Since w W → Calls Tryd.prog 67 #[.slice ao n ac] W (XOut W (exT T).post)) := fun W k => l10Expand_any T ao n ac W HOK.out (HAT.out W k) hac hlen.out hn9 HIN2.out (by rw [← HZ.out]; exact h5)
      have HZ5 : Hid (szT (treeT xs) ≤ 5000) := by unfold Hid; rw [← HT.out, ← HZ.out]; exact h5
      clear h5
      go_wp2_with fail
      clear p0 p1 r0 r1
      refine (HEX.out _ hyw2).mono ?_
      rintro e w3 ⟨v3, rfl, ⟨b3, rfl, ho3, _⟩, hs3⟩
      obtain ⟨ro, N, rc, hN, rfl⟩ := ho3.lenN
      have HO3 : Hid (OwnK w.heap.size w3 (.slice ro N rc) (exT T).post) := ho3.mono hyw2.size
      have hc3 := hyw2.trans hs3
      have BR3 := Lib.hid (BR2.out.since hs3)
      clear ho3 hs3
      have hal : Since w3 (w3.alloc (.cells #[.slice ro N rc] 26)) := (Since.refl w3).alloc _
      obtain ⟨r0, r1⟩ := (BR3.out.since hal).one
      have HO4 := Lib.hid (HO3.out.since hal)
      have hc4 := hc3.trans hal
      by_cases h4 : N ≤ 400
      · have h4i : ¬ ((400 : Int) < (N : Int)) := by omega
        have HP : Hid (exB xs = true) := exB_all HV.out HZ5.out (by rw [← HT.out, ← hN.out]; exact h4)
        have HQ : Hid (exX xs = (exT T).post) := by unfold Hid; rw [exB_yes HP.out, HT.out]
        clear h4
        have BR4 := Lib.hid (BR3.out.since hal)
        go_wp2_with fail
        refine bodyPost_ret (v := .tuple #[.agg #[.slice ro N rc], .bool true]) (by simp [results, Tryd.results21, go_sem, *]) rfl ?_
        rw [HP.out, HQ.out]
        exact xbOut_box HO4.out hc4 BR4.out (by decide) (by omega) _
      · have h4i : (400 : Int) < (N : Int) := by omega
        have HP : Hid (exB xs = false) := exB_long (by rw [← HT.out, ← hN.out]; exact h4)
        have HQ := Lib.hid (exB_no HP.out)
        clear h4
        go_wp2
        refine bodyPost_ret (v := .tuple #[.agg #[.slice none 0 0], .bool false]) (by simp [results, Tryd.results21, go_sem, *]) rfl ?_
        rw [HP.out, HQ.out]
        refine xbOut_nil ?_
        first | exact hc4 | exact hc4.setCell (by show w.heap.size ≤ w.heap.size + 1; omega) _
    · have h5i : (5000 : Int) < (Z : Int) := by omega
      have HP : Hid (exB xs = false) := exB_size (by rw [← HT.out, ← HZ.out]; exact h5)
      have HQ := Lib.hid (exB_no HP.out)
      clear h5
      go_wp2
      refine bodyPost_ret (v := .tuple #[.agg #[.slice none 0 0], .bool false]) (by simp [results, Tryd.results21, go_sem, *]) rfl ?_
      rw [HP.out, HQ.out]
      refine xbOut_nil ?_
      first | exact hyw2 | exact hyw2.setCell (by show w.heap.size ≤ w.heap.size + 1; omega) _
set_option maxHeartbeats 2000000 in
set_option maxRecDepth 100000 in
theorem implEX_any (v : Value) (xs : List Tok) (w : World) (hf : Forms w) (h : ExAt w v xs) (hl : xs.length ≤ 1048577) :
    Calls Tryd.prog 20 #[v] w (XBOut w (exX xs) (exB xs)) := by
  obtain ⟨a, rfl, ha⟩ := h
  have HA := Lib.hid ha
  obtain ⟨ao, ac, rfl⟩ := ha.len
  obtain ⟨n, hn⟩ : ∃ n, n = xs.length := ⟨_, rfl⟩
  rw [← hn] at HA ⊢
  have HN := Lib.hid hn
  have hn9 : n ≤ 1048577 := by omega
  clear hn ha
  have HF := Lib.hid hf
  clear hf
  obtain ⟨y, hy⟩ : ∃ y, y = (w.alloc (.cells #[.slice ao n ac] 26)).alloc (.cells #[.slice none 0 0] 26) := ⟨_, rfl⟩
  have hsy : Since w y := by rw [hy]; exact ((Since.refl w).alloc _).alloc _
  have BE : Hid (Blk y w.heap.size 26 #[.slice ao n ac]) := by rw [hy]; exact (Blk.new rfl _ _).alloc _
  have BR : Hid (Blk y (w.heap.size + 1) 26 #[.slice none 0 0]) := by rw [hy]; exact Blk.new (by simp) _ _
  have HY := Lib.hid hy
  clear hy
  go_enter Tryd.func20, Tryd.ntmps20
  go_wp2_with fail
  rw [← HY.out]
  refine (implVX_any _ xs _ (HF.out.since hsy) ⟨_, rfl, HA.out.since hsy⟩ hl).mono ?_
  rintro e w1 ⟨rfl, hs1⟩
  have hyw := hsy.trans hs1
  obtain ⟨r0, r1⟩ := (BR.out.since hs1).one
  obtain ⟨p0, p1⟩ := (BE.out.since hs1).one
  cases hv : validXB xs with
  | false =>
    have HP : Hid (exB xs = false) := exB_valid hv
    have HQ := Lib.hid (exB_no HP.out)
    clear hv
    go_wp2
    refine bodyPost_ret (v := .tuple #[.agg #[.slice none 0 0], .bool false]) (by simp [results, Tryd.results20, go_sem, *]) rfl ?_
    rw [HP.out, HQ.out]
    refine xbOut_nil ?_
    first | exact hyw | exact hyw.setCell (by show w.heap.size ≤ w.heap.size + 1; omega) _
  | true =>
    have HV := Lib.hid hv
    obtain ⟨h24, hok, hpost⟩ := validXB_tree hv
    clear hv hpost
    obtain ⟨T, hT⟩ : ∃ T, T = treeT xs := ⟨_, rfl⟩
    rw [← hT] at hok
    have HT := Lib.hid hT
    have HOK := Lib.hid hok
    have HTO : Hid (∀ W, Since w W → Calls Tryd.prog 49 #[.agg #[.slice ao n ac]] W (TreOut W T)) := fun W k => by rw [hT]; exact treeOf_any _ xs W (HF.out.since k) ⟨_, rfl, HA.out.since k⟩ hl
    obtain ⟨Z, hZ⟩ : ∃ Z, Z = szT T := ⟨_, rfl⟩
    have hZ9 : Z ≤ 100000 := by rw [hZ]; exact szT_le T
    have HSZ : Hid (∀ a b V W, TreeAt W T a b V → Calls Tryd.prog 64 #[V] W (IOut W Z)) := fun a b V W k => by rw [hZ]; exact sizeBound_any T a b V W k (.inr HOK.out)
    have HZ := Lib.hid hZ
    clear hT hok hZ
    go_wp2_with fail
    refine (HTO.out _ hyw).mono ?_
    rintro e w2 ⟨v2, rfl, ht2, hs2⟩
    obtain ⟨pt, rfl⟩ := ht2.isPtr
    have HT2 := Lib.hid ht2
    clear ht2
    have hyw2 := hyw.trans hs2
    have BR2 := Lib.hid (BR.out.since (hs1.trans hs2))
    clear p0 p1 r0 r1
    obtain ⟨r0, r1⟩ := BR2.out.one
    go_wp2_with fail
    refine (HSZ.out _ _ _ _ HT2.out).mono ?_
    rintro e w3 ⟨rfl, hs3⟩
    have hyw3 := hyw2.trans hs3
    have BR3 := Lib.hid (BR2.out.since hs3)
    have HT3 := Lib.hid (HT2.out.since hs3)
    clear r0 r1
    obtain ⟨r0, r1⟩ := BR3.out.one
    by_cases h5 : Z ≤ 5000
    · have h5i : ¬ ((5000 : Int) < (Z : Int)) := by omega
      have HEX : Hid (∀ a b V W, TreeAt W T a b V → Calls Tryd.prog 65 #[V] W (TokOut W (exT T).post)) := fun a b V W k => expanded_any T a b V W k (.inr HOK.out) (by rw [← HZ.out]; exact h5)
      have HZ5 : Hid (szT (treeT xs) ≤ 5000) := by unfold Hid; rw [← HT.out, ← HZ.out]; exact h5
      clear h5
      go_wp2_with fail
      clear r0 r1
      refine (HEX.out _ _ _ _ HT3.out).mono ?_
      rintro e w4 ⟨v4, rfl, ho4, hs4⟩
      obtain ⟨ro, N, rc, hN, rfl⟩ := ho4.lenN
      have HO4 : Hid (OwnK w.heap.size w4 (.slice ro N rc) (exT T).post) := ho4.mono hyw3.size
      have hc4 := hyw3.trans hs4
      have BR4 := Lib.hid (BR3.out.since hs4)
      clear ho4 hs4
      obtain ⟨r0, r1⟩ := BR4.out.one
      by_cases h4 : N ≤ 400
      · have h4i : ¬ ((400 : Int) < (N : Int)) := by omega
        have HP : Hid (exB xs = true) := exB_all HV.out HZ5.out (by rw [← HT.out, ← hN.out]; exact h4)
        have HQ : Hid (exX xs = (exT T).post) := by unfold Hid; rw [exB_yes HP.out, HT.out]
        clear h4
        go_wp2_with fail
        refine bodyPost_ret (v := .tuple #[.agg #[.slice ro N rc], .bool true]) (by simp [results, Tryd.results20, go_sem, *]) rfl ?_
        rw [HP.out, HQ.out]
        exact xbOut_box HO4.out hc4 BR4.out (by decide) (by omega) _
      · have h4i : (400 : Int) < (N : Int) := by omega
        have HP : Hid (exB xs = false) := exB_long (by rw [← HT.out, ← hN.out]; exact h4)
        have HQ := Lib.hid (exB_no HP.out)
        clear h4
        go_wp2
        refine bodyPost_ret (v := .tuple #[.agg #[.slice none 0 0], .bool false]) (by simp [results, Tryd.results20, go_sem, *]) rfl ?_
        rw [HP.out, HQ.out]
        refine xbOut_nil ?_
        first | exact hc4 | exact hc4.setCell (by show w.heap.size ≤ w.heap.size + 1; omega) _
    · have h5i : (5000 : Int) < (Z : Int) := by omega
      have HP : Hid (exB xs = false) := exB_size (by rw [← HT.out, ← HZ.out]; exact h5)
      have HQ := Lib.hid (exB_no HP.out)
      clear h5
      go_wp2
      refine bodyPost_ret (v := .tuple #[.agg #[.slice none 0 0], .bool false]) (by simp [results, Tryd.results20, go_sem, *]) rfl ?_
      rw [HP.out, HQ.out]
      refine xbOut_nil ?_
      first | exact hyw3 | exact hyw3.setCell (by show w.heap.size ≤ w.heap.size + 1; omega) _
end Go.Proofs.YtblmiocjhbpklaaDoor
