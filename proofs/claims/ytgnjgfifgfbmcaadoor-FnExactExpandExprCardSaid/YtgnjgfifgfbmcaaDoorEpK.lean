/- The expansion, the program's. -/
import Derived.Test.YtgnjgfifgfbmcaaDoorEpJ
import Derived.Test.YtgnjgfifgfbmcaaDoorEpS
namespace Go.Proofs.YtgnjgfifgfbmcaaDoor
set_option maxRecDepth 100000
open Go.ChangeShapes Go.WideShapes Go.ChangeAt Go.RowKit
set_option linter.unusedVariables false
set_option linter.unusedSimpArgs false


set_option maxHeartbeats 4000000 in
set_option maxRecDepth 100000 in
theorem expanded_any (T : Tr) : ∀ (a0 b0 : Nat) (v : Value) (w : World), TreeAt w T a0 b0 v → (T = .nil ∨ T.ok) → szT T ≤ 5000 → Calls Tryd.prog 61 #[v] w (TokOut w (exT T).post) := by
  induction T with
  | nil =>
    intro a0 b0 v w hv _ _
    obtain rfl : v = .pointer none := hv
    go_enter Tryd.func61, Tryd.ntmps61
    go_wp2
    go_ret
    exact ⟨_, rfl, ⟨fun x hx => by simp [exT, Tr.post] at hx, World.ownsRow_nil _ _ _ _⟩, Since.refl w⟩
  | node t l r hl hr =>
    intro a0 b0 v w hv hok hsz
    obtain ⟨htin, g, lv, rv, a, b, c0, d, rfl, hg, hB, _, _, _, _, hL, hR⟩ := hv
    have hok : (Tr.node t l r).ok := by rcases hok with e | e; (cases e); exact e
    obtain ⟨htok, hcase⟩ := hok
    have hlo : l = .nil ∨ l.ok := by rcases hcase with ⟨_, a, _⟩ | ⟨_, a, _⟩ | ⟨_, a, _⟩ <;> simp [a]
    have hro : r = .nil ∨ r.ok := by rcases hcase with ⟨_, _, a⟩ | ⟨_, _, a⟩ | ⟨_, _, a⟩ <;> simp [a]
    have hr7 : t.kd = 7 → r = .nil := by
      intro e
      rcases hcase with ⟨_, _, a⟩ | ⟨_, _, a⟩ | ⟨h2, _⟩
      · exact a
      · exact a
      · unfold opN at h2; rw [if_neg (by omega), if_pos (by omega)] at h2; omega
    obtain ⟨z1, z2⟩ := szT_parts htok hsz
    have z3 : szT r ≤ 5000 := by
      by_cases e : t.kd = 7
      · rw [hr7 e]; exact Nat.zero_le _
      · exact z2 e
    have small : ∀ S : Tr, (S = .nil ∨ S.ok) → szT S ≤ 5000 → (exT S).post.length ≤ 5000 := by
      intro S hS hz
      rcases hS with rfl | hS
      · exact Nat.zero_le _
      · exact exT_small hS hz
    have hdl := small l hlo z1
    have hdr := small r hro z3
    have HTI := Lib.hid htin
    have HL := Lib.hid hL
    have HR := Lib.hid hR
    obtain ⟨pl, rfl⟩ := hL.isPtr
    obtain ⟨pr, rfl⟩ := hR.isPtr
    have BX := Lib.hid hB
    unfold ncells at BX
    have HLC : Hid (∀ W, TreeAt W l a b (.pointer pl) → Calls Tryd.prog 61 #[.pointer pl] W (TokOut W (exT l).post)) := fun W k => hl a b _ W k hlo z1
    have HRC : Hid (∀ W, TreeAt W r c0 d (.pointer pr) → Calls Tryd.prog 61 #[.pointer pr] W (TokOut W (exT r).post)) := fun W k => hr c0 d _ W k hro z3
    have hgl : g < w.heap.size := BX.out.lt
    by_cases h7 : t.kd = 7
    · obtain ⟨k0, k1, k2, k3⟩ := okT_hi htok h7
      have HD : Hid ((exT (Tr.node t l r)).post = (timT (exT l) t.hi.toNat t.lo.toNat).post) := by unfold Hid; rw [exT, if_pos h7]
      have HTM : Hid (∀ V W, ToksAt W V (exT l).post → Calls Tryd.prog 102 #[V, .int .i64 t.lo, .int .i64 t.hi] W (TokOut W (timT (exT l) t.hi.toNat t.lo.toNat).post)) := fun V W k => expRep_any (exT l) (by rw [← post_len]; exact hdl) t.hi.toNat t.lo t.hi V W (by omega) (by omega) k0 (by omega) k
      have e7 : (t.kd == 7) = true := by simp [h7]
      clear hl hr hL hR hB htin hcase hlo hro hr7 z1 z2 z3 small k0 k1 k2 k3 h7 htok hsz
      go_enter Tryd.func61, Tryd.ntmps61
      go_upto_region 3 with fail
      have HKC : Hid (∀ w', Blk w' g 114 #[.int .i64 t.kd, .int .i64 t.lr, .int .i64 t.lo, .int .i64 t.hi, .pointer pl, .pointer pr] → w'.cell? ⟨g, 0, none⟩ = some (.int .i64 t.kd) ∧ w'.cell? ⟨g, 1, none⟩ = some (.int .i64 t.lr) ∧ w'.cell? ⟨g, 2, none⟩ = some (.int .i64 t.lo) ∧ w'.cell? ⟨g, 3, none⟩ = some (.int .i64 t.hi) ∧ w'.cell? ⟨g, 4, none⟩ = some (.pointer pl) ∧ w'.cell? ⟨g, 5, none⟩ = some (.pointer pr)) := by
        intro w' hb0
        obtain ⟨⟨r00, r01, r02, r03, r04, r05⟩, _⟩ := hb0.all6
        exact ⟨r00, r01, r02, r03, r04, r05⟩
      refine wp_region_held_drew (S := (fun w' => w'.cell? ⟨g, 0, none⟩ = some (.int .i64 t.kd) ∧ w'.cell? ⟨g, 1, none⟩ = some (.int .i64 t.lr) ∧ w'.cell? ⟨g, 2, none⟩ = some (.int .i64 t.lo) ∧ w'.cell? ⟨g, 3, none⟩ = some (.int .i64 t.hi) ∧ w'.cell? ⟨g, 4, none⟩ = some (.pointer pl) ∧ w'.cell? ⟨g, 5, none⟩ = some (.pointer pr))) (by kernel_rfl) (HKC.out _ (BX.out.drew)) (fun hHeld => ?_)
      refine take_yes 0 (some 7) (v := ?_) rfl (by kernel_rfl) (by kernel_rfl) (by kernel_rfl) (by kernel_rfl) (fun _ _ _ h => h) (by rfl) (by assumption) ?_ ?_
      rotate_left
      · (intro w' hSw; (try dsimp only at hSw); go_simp; try with_reducible rfl)
      try simp only [Act.put, List.setIfInBounds_toArray, List.set_cons_zero, List.set_cons_succ]
      refine take_yes 1 (some 8) (v := ?_) rfl (by kernel_rfl) (by kernel_rfl) (by kernel_rfl) (by kernel_rfl) (fun _ _ _ h => h) (by rfl) (by assumption) ?_ ?_
      rotate_left
      · (intro w' hSw; (try dsimp only at hSw); go_simp; try with_reducible rfl)
      try simp only [Act.put, List.setIfInBounds_toArray, List.set_cons_zero, List.set_cons_succ]
      refine take_yes 2 (some 9) (v := ?_) rfl (by kernel_rfl) (by kernel_rfl) (by kernel_rfl) (by kernel_rfl) (fun _ _ _ h => h) (by rfl) (by assumption) ?_ ?_
      rotate_left
      · (intro w' hSw; (try dsimp only at hSw); go_simp; try with_reducible rfl)
      try simp only [Act.put, List.setIfInBounds_toArray, List.set_cons_zero, List.set_cons_succ]
      refine take_yes 3 (some 10) (v := ?_) rfl (by kernel_rfl) (by kernel_rfl) (by kernel_rfl) (by kernel_rfl) (fun _ _ _ h => h) (by rfl) (by assumption) ?_ ?_
      rotate_left
      · (intro w' hSw; (try dsimp only at hSw); go_simp; try with_reducible rfl)
      try simp only [Act.put, List.setIfInBounds_toArray, List.set_cons_zero, List.set_cons_succ]
      refine take_yes 5 (some 12) (v := ?_) rfl (by kernel_rfl) (by kernel_rfl) (by kernel_rfl) (by kernel_rfl) (fun _ _ _ h => h) (by rfl) (by assumption) ?_ ?_
      rotate_left
      · (intro w' hSw; (try dsimp only at hSw); go_simp; try with_reducible rfl)
      try simp only [Act.put, List.setIfInBounds_toArray, List.set_cons_zero, List.set_cons_succ]
      refine take_yes 6 (some 13) (v := ?_) rfl (by kernel_rfl) (by kernel_rfl) (by kernel_rfl) (by kernel_rfl) (fun _ _ _ h => h) (by rfl) (by assumption) ?_ ?_
      rotate_left
      · (intro w' hSw; (try dsimp only at hSw); go_simp; try with_reducible rfl)
      try simp only [Act.put, List.setIfInBounds_toArray, List.set_cons_zero, List.set_cons_succ]
      refine take_yes 7 (some 14) (v := ?_) rfl (by kernel_rfl) (by kernel_rfl) (by kernel_rfl) (by kernel_rfl) (fun _ _ _ h => h) (by rfl) (by assumption) ?_ ?_
      rotate_left
      · (intro w' hSw; (try dsimp only at hSw); go_simp; try with_reducible rfl)
      try simp only [Act.put, List.setIfInBounds_toArray, List.set_cons_zero, List.set_cons_succ]
      refine take_yes 8 (some 15) (v := ?_) rfl (by kernel_rfl) (by kernel_rfl) (by kernel_rfl) (by kernel_rfl) (fun _ _ _ h => h) (by rfl) (by assumption) ?_ ?_
      rotate_left
      · (intro w' hSw; (try dsimp only at hSw); go_simp; try with_reducible rfl)
      try simp only [Act.put, List.setIfInBounds_toArray, List.set_cons_zero, List.set_cons_succ]
      refine take_run 4 rfl (by kernel_rfl) (by rfl) (fun K hK => ?_)
      have dr_32 : Since w w.drew := (Since.refl _).drew
      have c_33 := Since.trans ((Since.refl w)) dr_32
      have M_34 := Lib.hid (BX.out.since dr_32)
      clear BX
      clear dr_32
      go_simp
      refine (HLC.out _ (HL.out.since c_33)).mono ?_
      rintro en q_27 ⟨v_28, rfl, ho_29, hs_30⟩
      obtain ⟨u_31o, u_31n, u_31c, u_31N, rfl⟩ := ho_29.lenN
      have O_35 := Lib.hid (ho_29.mono (base' := w.heap.size) c_33.size)
      clear ho_29
      have c_36 := Since.trans c_33 hs_30
      have M_37 := Lib.hid (M_34.out.since hs_30)
      clear M_34
      clear hs_30
      refine hK.out _ _ (HKC.out _ M_37.out) (fun hHeld_38 => ?_)
      clear hK K hHeld
      try simp only [Act.put, List.setIfInBounds_toArray, List.set_cons_zero, List.set_cons_succ]
      refine take_run 9 rfl (by kernel_rfl) (by rfl) (fun K hK => ?_)
      go_simp
      refine (HRC.out _ (HR.out.since c_36)).mono ?_
      rintro en q_39 ⟨v_40, rfl, ho_41, hs_42⟩
      obtain ⟨x_43o, x_43n, x_43c, x_43N, rfl⟩ := ho_41.lenN
      have O_44 := Lib.hid (ho_41.mono (base' := w.heap.size) c_36.size)
      clear ho_41
      have c_45 := Since.trans c_36 hs_42
      have M_46 := Lib.hid (M_37.out.since hs_42)
      clear M_37
      have M_47 := Lib.hid (O_35.out.since hs_42)
      clear O_35
      clear hs_42
      refine hK.out _ _ (HKC.out _ M_46.out) (fun hHeld_48 => ?_)
      clear hK K hHeld_38
      try simp only [Act.put, List.setIfInBounds_toArray, List.set_cons_zero, List.set_cons_succ]
      refine take_yes 10 (some 3) (v := ?_) rfl (by kernel_rfl) (by kernel_rfl) (by kernel_rfl) (by kernel_rfl) (fun _ _ _ h => h) (by rfl) (by assumption) ?_ ?_
      rotate_left
      · (intro w' hSw; (try dsimp only at hSw); go_simp; try with_reducible rfl)
      try simp only [Act.put, List.setIfInBounds_toArray, List.set_cons_zero, List.set_cons_succ]
      refine take_yes 11 (some 4) (v := ?_) rfl (by kernel_rfl) (by kernel_rfl) (by kernel_rfl) (by kernel_rfl) (fun _ _ _ h => h) (by rfl) (by assumption) ?_ ?_
      rotate_left
      · (intro w' hSw; (try dsimp only at hSw); go_simp; try with_reducible rfl)
      try simp only [Act.put, List.setIfInBounds_toArray, List.set_cons_zero, List.set_cons_succ]
      refine wpAnyH_done (by kernel_rfl) ?_ _
      clear hHeld_48
      clear HKC
      have B6 := M_46
      have O6 := M_47
      have c6 := c_45
      obtain ⟨⟨x0, x1, x2, x3, x4, x5⟩, _⟩ := B6.out.all6
      go_upto_region 5 with fail
      clear x0 x1 x2 x3 x4 x5
      have HKC : Hid (∀ w', Blk w' g 114 #[.int .i64 t.kd, .int .i64 t.lr, .int .i64 t.lo, .int .i64 t.hi, .pointer pl, .pointer pr] → w'.cell? ⟨g, 0, none⟩ = some (.int .i64 t.kd) ∧ w'.cell? ⟨g, 1, none⟩ = some (.int .i64 t.lr) ∧ w'.cell? ⟨g, 2, none⟩ = some (.int .i64 t.lo) ∧ w'.cell? ⟨g, 3, none⟩ = some (.int .i64 t.hi) ∧ w'.cell? ⟨g, 4, none⟩ = some (.pointer pl) ∧ w'.cell? ⟨g, 5, none⟩ = some (.pointer pr)) := by
        intro w' hb0
        obtain ⟨⟨r00, r01, r02, r03, r04, r05⟩, _⟩ := hb0.all6
        exact ⟨r00, r01, r02, r03, r04, r05⟩
      refine wp_region_held_drew (S := (fun w' => w'.cell? ⟨g, 0, none⟩ = some (.int .i64 t.kd) ∧ w'.cell? ⟨g, 1, none⟩ = some (.int .i64 t.lr) ∧ w'.cell? ⟨g, 2, none⟩ = some (.int .i64 t.lo) ∧ w'.cell? ⟨g, 3, none⟩ = some (.int .i64 t.hi) ∧ w'.cell? ⟨g, 4, none⟩ = some (.pointer pl) ∧ w'.cell? ⟨g, 5, none⟩ = some (.pointer pr))) (by kernel_rfl) (HKC.out _ (B6.out.drew)) (fun hHeld => ?_)
      refine take_yes 0 (some 23) (v := ?_) rfl (by kernel_rfl) (by kernel_rfl) (by kernel_rfl) (by kernel_rfl) (fun _ _ _ h => h) (by rfl) (by assumption) ?_ ?_
      rotate_left
      · (intro w' hSw; (try dsimp only at hSw); go_simp; try with_reducible rfl)
      try simp only [Act.put, List.setIfInBounds_toArray, List.set_cons_zero, List.set_cons_succ]
      refine take_yes 1 (some 24) (v := ?_) rfl (by kernel_rfl) (by kernel_rfl) (by kernel_rfl) (by kernel_rfl) (fun _ _ _ h => h) (by rfl) (by assumption) ?_ ?_
      rotate_left
      · (intro w' hSw; (try dsimp only at hSw); go_simp; try with_reducible rfl)
      try simp only [Act.put, List.setIfInBounds_toArray, List.set_cons_zero, List.set_cons_succ]
      refine take_yes 2 (some 25) (v := ?_) rfl (by kernel_rfl) (by kernel_rfl) (by kernel_rfl) (by kernel_rfl) (fun _ _ _ h => h) (by rfl) (by assumption) ?_ ?_
      rotate_left
      · (intro w' hSw; (try dsimp only at hSw); go_simp; try with_reducible rfl)
      try simp only [Act.put, List.setIfInBounds_toArray, List.set_cons_zero, List.set_cons_succ]
      refine take_yes 3 (some 26) (v := ?_) rfl (by kernel_rfl) (by kernel_rfl) (by kernel_rfl) (by kernel_rfl) (fun _ _ _ h => h) (by rfl) (by assumption) ?_ ?_
      rotate_left
      · (intro w' hSw; (try dsimp only at hSw); go_simp; try with_reducible rfl)
      try simp only [Act.put, List.setIfInBounds_toArray, List.set_cons_zero, List.set_cons_succ]
      refine take_yes 4 (some 27) (v := ?_) rfl (by kernel_rfl) (by kernel_rfl) (by kernel_rfl) (by kernel_rfl) (fun _ _ _ h => h) (by rfl) (by assumption) ?_ ?_
      rotate_left
      · (intro w' hSw; (try dsimp only at hSw); go_simp; try with_reducible rfl)
      try simp only [Act.put, List.setIfInBounds_toArray, List.set_cons_zero, List.set_cons_succ]
      refine take_yes 5 (some 28) (v := ?_) rfl (by kernel_rfl) (by kernel_rfl) (by kernel_rfl) (by kernel_rfl) (fun _ _ _ h => h) (by rfl) (by assumption) ?_ ?_
      rotate_left
      · (intro w' hSw; (try dsimp only at hSw); go_simp; try with_reducible rfl)
      try simp only [Act.put, List.setIfInBounds_toArray, List.set_cons_zero, List.set_cons_succ]
      refine take_yes 6 (some 29) (v := ?_) rfl (by kernel_rfl) (by kernel_rfl) (by kernel_rfl) (by kernel_rfl) (fun _ _ _ h => h) (by rfl) (by assumption) ?_ ?_
      rotate_left
      · (intro w' hSw; (try dsimp only at hSw); go_simp; try with_reducible rfl)
      try simp only [Act.put, List.setIfInBounds_toArray, List.set_cons_zero, List.set_cons_succ]
      refine take_yes 7 (some 30) (v := ?_) rfl (by kernel_rfl) (by kernel_rfl) (by kernel_rfl) (by kernel_rfl) (fun _ _ _ h => h) (by rfl) (by assumption) ?_ ?_
      rotate_left
      · (intro w' hSw; (try dsimp only at hSw); go_simp; try with_reducible rfl)
      try simp only [Act.put, List.setIfInBounds_toArray, List.set_cons_zero, List.set_cons_succ]
      refine take_yes 8 (some 31) (v := ?_) rfl (by kernel_rfl) (by kernel_rfl) (by kernel_rfl) (by kernel_rfl) (fun _ _ _ h => h) (by rfl) (by assumption) ?_ ?_
      rotate_left
      · (intro w' hSw; (try dsimp only at hSw); go_simp; try with_reducible rfl)
      try simp only [Act.put, List.setIfInBounds_toArray, List.set_cons_zero, List.set_cons_succ]
      refine take_yes 9 (some 32) (v := ?_) rfl (by kernel_rfl) (by kernel_rfl) (by kernel_rfl) (by kernel_rfl) (fun _ _ _ h => h) (by rfl) (by assumption) ?_ ?_
      rotate_left
      · (intro w' hSw; (try dsimp only at hSw); go_simp; try with_reducible rfl)
      try simp only [Act.put, List.setIfInBounds_toArray, List.set_cons_zero, List.set_cons_succ]
      refine take_yes 10 (some 33) (v := ?_) rfl (by kernel_rfl) (by kernel_rfl) (by kernel_rfl) (by kernel_rfl) (fun _ _ _ h => h) (by rfl) (by assumption) ?_ ?_
      rotate_left
      · (intro w' hSw; (try dsimp only at hSw); go_simp; try with_reducible rfl)
      try simp only [Act.put, List.setIfInBounds_toArray, List.set_cons_zero, List.set_cons_succ]
      refine take_run 11 rfl (by kernel_rfl) (by rfl) (fun K hK => ?_)
      have dr_54 : Since q_39 q_39.drew := (Since.refl _).drew
      have c_55 := Since.trans c6 dr_54
      have M_56 := Lib.hid (B6.out.since dr_54)
      clear B6
      have M_57 := Lib.hid (O6.out.since dr_54)
      clear O6
      clear dr_54
      go_simp
      refine (HTM.out _ _ M_57.out.at).mono ?_
      rintro en q_49 ⟨v_50, rfl, ho_51, hs_52⟩
      obtain ⟨Z_53o, Z_53n, Z_53c, Z_53N, rfl⟩ := ho_51.lenN
      have O_58 := Lib.hid (ho_51.mono (base' := w.heap.size) c_55.size)
      clear ho_51
      have c_59 := Since.trans c_55 hs_52
      have M_60 := Lib.hid (M_56.out.since hs_52)
      clear M_56
      have M_61 := Lib.hid (M_57.out.since hs_52)
      clear M_57
      clear hs_52
      refine hK.out _ _ (HKC.out _ M_60.out) (fun hHeld_62 => ?_)
      clear hK K hHeld
      try simp only [Act.put, List.setIfInBounds_toArray, List.set_cons_zero, List.set_cons_succ]
      refine take_yes 12 (some 2) (v := ?_) rfl (by kernel_rfl) (by kernel_rfl) (by kernel_rfl) (by kernel_rfl) (fun _ _ _ h => h) (by rfl) (by assumption) ?_ ?_
      rotate_left
      · (intro w' hSw; (try dsimp only at hSw); go_simp; try with_reducible rfl)
      try simp only [Act.put, List.setIfInBounds_toArray, List.set_cons_zero, List.set_cons_succ]
      refine wpAnyH_done (by kernel_rfl) ?_ _
      clear hHeld_62
      go_wp2_with fail
      go_ret
      exact ⟨_, rfl, by rw [HD.out]; exact O_58.out, c_59⟩
    · have HD : Hid ((exT (Tr.node t l r)).post = (exT l).post ++ (exT r).post ++ [t]) := by unfold Hid; rw [exT, if_neg h7]; rfl
      have e7 : (t.kd == 7) = false := by simp [h7]
      clear hl hr hL hR hB htin hcase hlo hro hr7 z1 z2 z3 small h7 htok hsz
      go_enter Tryd.func61, Tryd.ntmps61
      go_upto_region 3 with fail
      have HKC : Hid (∀ w', Blk w' g 114 #[.int .i64 t.kd, .int .i64 t.lr, .int .i64 t.lo, .int .i64 t.hi, .pointer pl, .pointer pr] → w'.cell? ⟨g, 0, none⟩ = some (.int .i64 t.kd) ∧ w'.cell? ⟨g, 1, none⟩ = some (.int .i64 t.lr) ∧ w'.cell? ⟨g, 2, none⟩ = some (.int .i64 t.lo) ∧ w'.cell? ⟨g, 3, none⟩ = some (.int .i64 t.hi) ∧ w'.cell? ⟨g, 4, none⟩ = some (.pointer pl) ∧ w'.cell? ⟨g, 5, none⟩ = some (.pointer pr)) := by
        intro w' hb0
        obtain ⟨⟨r00, r01, r02, r03, r04, r05⟩, _⟩ := hb0.all6
        exact ⟨r00, r01, r02, r03, r04, r05⟩
      refine wp_region_held_drew (S := (fun w' => w'.cell? ⟨g, 0, none⟩ = some (.int .i64 t.kd) ∧ w'.cell? ⟨g, 1, none⟩ = some (.int .i64 t.lr) ∧ w'.cell? ⟨g, 2, none⟩ = some (.int .i64 t.lo) ∧ w'.cell? ⟨g, 3, none⟩ = some (.int .i64 t.hi) ∧ w'.cell? ⟨g, 4, none⟩ = some (.pointer pl) ∧ w'.cell? ⟨g, 5, none⟩ = some (.pointer pr))) (by kernel_rfl) (HKC.out _ (BX.out.drew)) (fun hHeld => ?_)
      refine take_yes 0 (some 7) (v := ?_) rfl (by kernel_rfl) (by kernel_rfl) (by kernel_rfl) (by kernel_rfl) (fun _ _ _ h => h) (by rfl) (by assumption) ?_ ?_
      rotate_left
      · (intro w' hSw; (try dsimp only at hSw); go_simp; try with_reducible rfl)
      try simp only [Act.put, List.setIfInBounds_toArray, List.set_cons_zero, List.set_cons_succ]
      refine take_yes 1 (some 8) (v := ?_) rfl (by kernel_rfl) (by kernel_rfl) (by kernel_rfl) (by kernel_rfl) (fun _ _ _ h => h) (by rfl) (by assumption) ?_ ?_
      rotate_left
      · (intro w' hSw; (try dsimp only at hSw); go_simp; try with_reducible rfl)
      try simp only [Act.put, List.setIfInBounds_toArray, List.set_cons_zero, List.set_cons_succ]
      refine take_yes 2 (some 9) (v := ?_) rfl (by kernel_rfl) (by kernel_rfl) (by kernel_rfl) (by kernel_rfl) (fun _ _ _ h => h) (by rfl) (by assumption) ?_ ?_
      rotate_left
      · (intro w' hSw; (try dsimp only at hSw); go_simp; try with_reducible rfl)
      try simp only [Act.put, List.setIfInBounds_toArray, List.set_cons_zero, List.set_cons_succ]
      refine take_yes 3 (some 10) (v := ?_) rfl (by kernel_rfl) (by kernel_rfl) (by kernel_rfl) (by kernel_rfl) (fun _ _ _ h => h) (by rfl) (by assumption) ?_ ?_
      rotate_left
      · (intro w' hSw; (try dsimp only at hSw); go_simp; try with_reducible rfl)
      try simp only [Act.put, List.setIfInBounds_toArray, List.set_cons_zero, List.set_cons_succ]
      refine take_yes 5 (some 12) (v := ?_) rfl (by kernel_rfl) (by kernel_rfl) (by kernel_rfl) (by kernel_rfl) (fun _ _ _ h => h) (by rfl) (by assumption) ?_ ?_
      rotate_left
      · (intro w' hSw; (try dsimp only at hSw); go_simp; try with_reducible rfl)
      try simp only [Act.put, List.setIfInBounds_toArray, List.set_cons_zero, List.set_cons_succ]
      refine take_yes 6 (some 13) (v := ?_) rfl (by kernel_rfl) (by kernel_rfl) (by kernel_rfl) (by kernel_rfl) (fun _ _ _ h => h) (by rfl) (by assumption) ?_ ?_
      rotate_left
      · (intro w' hSw; (try dsimp only at hSw); go_simp; try with_reducible rfl)
      try simp only [Act.put, List.setIfInBounds_toArray, List.set_cons_zero, List.set_cons_succ]
      refine take_yes 7 (some 14) (v := ?_) rfl (by kernel_rfl) (by kernel_rfl) (by kernel_rfl) (by kernel_rfl) (fun _ _ _ h => h) (by rfl) (by assumption) ?_ ?_
      rotate_left
      · (intro w' hSw; (try dsimp only at hSw); go_simp; try with_reducible rfl)
      try simp only [Act.put, List.setIfInBounds_toArray, List.set_cons_zero, List.set_cons_succ]
      refine take_yes 8 (some 15) (v := ?_) rfl (by kernel_rfl) (by kernel_rfl) (by kernel_rfl) (by kernel_rfl) (fun _ _ _ h => h) (by rfl) (by assumption) ?_ ?_
      rotate_left
      · (intro w' hSw; (try dsimp only at hSw); go_simp; try with_reducible rfl)
      try simp only [Act.put, List.setIfInBounds_toArray, List.set_cons_zero, List.set_cons_succ]
      refine take_run 4 rfl (by kernel_rfl) (by rfl) (fun K hK => ?_)
      have dr_68 : Since w w.drew := (Since.refl _).drew
      have c_69 := Since.trans ((Since.refl w)) dr_68
      have M_70 := Lib.hid (BX.out.since dr_68)
      clear BX
      clear dr_68
      go_simp
      refine (HLC.out _ (HL.out.since c_69)).mono ?_
      rintro en q_63 ⟨v_64, rfl, ho_65, hs_66⟩
      obtain ⟨u_67o, u_67n, u_67c, u_67N, rfl⟩ := ho_65.lenN
      have O_71 := Lib.hid (ho_65.mono (base' := w.heap.size) c_69.size)
      clear ho_65
      have c_72 := Since.trans c_69 hs_66
      have M_73 := Lib.hid (M_70.out.since hs_66)
      clear M_70
      clear hs_66
      refine hK.out _ _ (HKC.out _ M_73.out) (fun hHeld_74 => ?_)
      clear hK K hHeld
      try simp only [Act.put, List.setIfInBounds_toArray, List.set_cons_zero, List.set_cons_succ]
      refine take_run 9 rfl (by kernel_rfl) (by rfl) (fun K hK => ?_)
      go_simp
      refine (HRC.out _ (HR.out.since c_72)).mono ?_
      rintro en q_75 ⟨v_76, rfl, ho_77, hs_78⟩
      obtain ⟨x_79o, x_79n, x_79c, x_79N, rfl⟩ := ho_77.lenN
      have O_80 := Lib.hid (ho_77.mono (base' := w.heap.size) c_72.size)
      clear ho_77
      have c_81 := Since.trans c_72 hs_78
      have M_82 := Lib.hid (M_73.out.since hs_78)
      clear M_73
      have M_83 := Lib.hid (O_71.out.since hs_78)
      clear O_71
      clear hs_78
      refine hK.out _ _ (HKC.out _ M_82.out) (fun hHeld_84 => ?_)
      clear hK K hHeld_74
      try simp only [Act.put, List.setIfInBounds_toArray, List.set_cons_zero, List.set_cons_succ]
      refine take_yes 10 (some 3) (v := ?_) rfl (by kernel_rfl) (by kernel_rfl) (by kernel_rfl) (by kernel_rfl) (fun _ _ _ h => h) (by rfl) (by assumption) ?_ ?_
      rotate_left
      · (intro w' hSw; (try dsimp only at hSw); go_simp; try with_reducible rfl)
      try simp only [Act.put, List.setIfInBounds_toArray, List.set_cons_zero, List.set_cons_succ]
      refine take_yes 11 (some 4) (v := ?_) rfl (by kernel_rfl) (by kernel_rfl) (by kernel_rfl) (by kernel_rfl) (fun _ _ _ h => h) (by rfl) (by assumption) ?_ ?_
      rotate_left
      · (intro w' hSw; (try dsimp only at hSw); go_simp; try with_reducible rfl)
      try simp only [Act.put, List.setIfInBounds_toArray, List.set_cons_zero, List.set_cons_succ]
      refine wpAnyH_done (by kernel_rfl) ?_ _
      clear hHeld_84
      clear HKC
      obtain ⟨⟨x0, x1, x2, x3, x4, x5⟩, _⟩ := M_82.out.all6
      have O6 := M_83
      have O7 := O_80
      have c6 := c_81
      obtain ⟨wL, hwL⟩ : ∃ W, W = q_75 := ⟨_, rfl⟩
      have hal : Since wL ((wL.alloc (.cells #[.int .i64 t.kd, .int .i64 t.lr, .int .i64 t.lo, .int .i64 t.hi] 81)).alloc (.cells #[.slice u_67o u_67n u_67c, .slice x_79o x_79n x_79c, .slice (some ⟨wL.heap.size, 0, none⟩) 1 1] 24)) := ((Since.refl _).alloc _).alloc _
      subst hwL
      go_wp2_with fail
      refine (concat3 _ _ _ _ (exT l).post (exT r).post [t] _ _ (Blk.new (by simp) _ _) (O6.out.since hal).at (O7.out.since hal).at ((tok_lit _ t HTI.out).since ((Since.refl _).alloc _)) rfl (by simp; omega)).mono ?_
      rintro e w9 ⟨v9, rfl, ho9, hs9⟩
      obtain ⟨ro, N, rc, hN, rfl⟩ := ho9.lenN
      have s9 := Since.trans (Since.trans c6 hal) hs9
      have HO9 := Lib.hid (ho9.mono (Since.trans c6 hal).size)
      clear ho9
      go_wp2_with fail
      go_ret
      exact ⟨_, rfl, by rw [HD.out]; exact HO9.out, s9⟩
end Go.Proofs.YtgnjgfifgfbmcaaDoor
