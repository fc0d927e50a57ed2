/- A tree taken several times, the model's. -/
import Derived.Test.YtblmiocjhbpklaaDoorEpZ
import Derived.Test.YtblmiocjhbpklaaDoorXf
namespace Go.Proofs.YtblmiocjhbpklaaDoor
set_option maxRecDepth 100000
open Go.ChangeShapes Go.WideShapes Go.ChangeAt Go.RowKit
set_option linter.unusedVariables false
set_option linter.unusedSimpArgs false

theorem kv_leaf (k : Int) : kv (leafK k) = .agg #[.int .i64 k, .int .i64 0, .int .i64 0, .int .i64 0] := rfl
theorem timT_small {X : Tr} (hX : X.len ≤ 5000) {h lo : Nat} (hh : h ≤ 3) : (timT X h lo).post.length ≤ 20000 := by
  rw [post_len]
  have h1 := timT_len X h lo
  have h2 : h * (X.len + 3) ≤ 3 * 5003 := Nat.mul_le_mul hh (by omega)
  omega
set_option maxHeartbeats 4000000 in
set_option maxRecDepth 100000 in
theorem l10Times_any (X : Tr) (hX : X.len ≤ 5000) : ∀ (h : Nat) (lo hi : Int) (va : Value) (w : World), h ≤ 3 → hi = (h : Int) → 0 ≤ lo → lo ≤ 3 → ExAt w va X.post →
    Calls Tryd.prog 120 #[va, .int .i64 lo, .int .i64 hi] w (XOut w (timT X h lo.toNat).post) := by
  intro h
  induction h with
  | zero =>
    intro lo hi va w _ hh0 hlo0 hlo3 ha
    obtain ⟨a, rfl, ha⟩ := ha
    obtain ⟨ao, ac, rfl⟩ := ha.len
    clear ha
    obtain ⟨n, hn⟩ : ∃ n, n = X.post.length := ⟨_, rfl⟩
    rw [← hn]
    clear hn
    obtain rfl : hi = 0 := hh0
    have HD : Hid ((timT X 0 lo.toNat).post = [leafK 2]) := rfl
    obtain ⟨y, hy⟩ : ∃ y, y = (w.alloc (.cells #[.slice ao n ac] 26)).alloc (.cells #[.slice none 0 0] 26) := ⟨_, rfl⟩
    have hsy : Since w y := by rw [hy]; exact ((Since.refl w).alloc _).alloc _
    have BR : Hid (Blk y (w.heap.size + 1) 26 #[.slice none 0 0]) := by rw [hy]; exact Blk.new (by simp) _ _
    have HY := Lib.hid hy
    clear hy
    go_enter Tryd.func120, Tryd.ntmps120
    go_wp2_with fail
    rw [← HY.out]
    refine (l8Leaf_any 2 _ (by decide)).mono ?_
    rintro e w9 ⟨v, rfl, ⟨b9, rfl, ho, _⟩, hs9⟩
    obtain ⟨ro, N, rc, hN, rfl⟩ := ho.lenN
    have HO : Hid (OwnK w.heap.size w9 (.slice ro N rc) _) := ho.mono hsy.size
    have hcc := hsy.trans hs9
    have BR9 := Lib.hid (BR.out.since hs9)
    clear ho
    obtain ⟨r0, r1⟩ := BR9.out.one
    go_wp2_with fail
    refine bodyPost_ret (v := .agg #[.slice ro N rc]) (by simp [results, Tryd.results120, go_sem, *]) rfl ?_
    rw [HD.out]
    exact xout_boxT HO.out hcc BR9.out (by decide) (by omega) _
  | succ h ih =>
    intro lo hi va w hh3 hhi hlo0 hlo3 ha
    obtain ⟨a, rfl, ha⟩ := ha
    have HA := Lib.hid ha
    obtain ⟨ao, ac, rfl⟩ := ha.len
    clear ha
    obtain ⟨n, hn⟩ : ∃ n, n = X.post.length := ⟨_, rfl⟩
    rw [← hn] at HA ⊢
    have hn9 : n ≤ 5000 := by rw [hn, post_len]; exact hX
    have HN := Lib.hid hn
    clear hn
    obtain ⟨lo2, hlo2⟩ : ∃ lo2 : Int, lo2 = if 1 < lo then lo - 1 else 0 := ⟨_, rfl⟩
    have hl20 : 0 ≤ lo2 ∧ lo2 ≤ 3 ∧ lo2.toNat = lo.toNat - 1 := by rw [hlo2]; split <;> omega
    have HMX : Hid ((if 1 < lo then lo - 1 else 0) = lo2) := hlo2.symm
    obtain ⟨T2, hT2⟩ : ∃ T2, T2 = timT X h (lo.toNat - 1) := ⟨_, rfl⟩
    have hT9 : T2.post.length ≤ 20000 := by rw [hT2]; exact timT_small hX (by omega)
    have HRC : Hid (∀ V W, ExAt W V X.post → Calls Tryd.prog 120 #[V, .int .i64 lo2, .int .i64 (hi - 1)] W (XOut W T2.post)) := fun V W k => by
      have := ih lo2 (hi - 1) V W (by omega) (by omega) hl20.1 hl20.2.1 k
      rw [hl20.2.2, ← hT2] at this
      exact this
    have HDT : Hid ((timT X (h + 1) lo.toNat).post = if lo = 0 then X.post ++ T2.post ++ [leafK 4] ++ [leafK 2] ++ [leafK 5] else X.post ++ T2.post ++ [leafK 4]) := by
      unfold Hid
      rw [hT2]
      conv => lhs; unfold timT
      by_cases e : lo = 0
      · rw [if_pos e, if_pos (by omega)]; simp [Tr.post, leafT]
      · rw [if_neg e, if_neg (by omega)]; simp [Tr.post]
    have hne : (hi == 0) = false := by simp; omega
    have EW1 : Hid (IntKind.i64.wrap (lo - 1) = lo - 1) := wrapI_in (by omega) (by omega)
    have EW2 : Hid (IntKind.i64.wrap (hi - 1) = hi - 1) := wrapI_in (by omega) (by omega)
    clear hlo2 hl20 hT2 hhi ih
    obtain ⟨y, hy⟩ : ∃ y, y = (w.alloc (.cells #[.slice ao n ac] 26)).alloc (.cells #[.slice none 0 0] 26) := ⟨_, rfl⟩
    have hsy : Since w y := by rw [hy]; exact ((Since.refl w).alloc _).alloc _
    have BE : Hid (Blk y w.heap.size 26 #[.slice ao n ac]) := by rw [hy]; exact (Blk.new rfl _ _).alloc _
    have BR : Hid (Blk y (w.heap.size + 1) 26 #[.slice none 0 0]) := by rw [hy]; exact Blk.new (by simp) _ _
    have HY := Lib.hid hy
    clear hy
    go_enter Tryd.func120, Tryd.ntmps120
    go_upto_region 3 with fail
    rw [← HY.out]
    have ew1 := EW1.out
    have ew2 := EW2.out
    have HKC : Hid (∀ w', Blk w' w.heap.size 26 #[.slice ao n ac] → w'.cell? ⟨w.heap.size, 0, none⟩ = some (.slice ao n ac)) := by
      intro w' hb0
      obtain ⟨r00, _⟩ := hb0.one
      exact r00
    refine wp_region_held_drew (S := (fun w' => w'.cell? ⟨w.heap.size, 0, none⟩ = some (.slice ao n ac))) (by kernel_rfl) (HKC.out _ (BE.out.drew)) (fun hHeld => ?_)
    refine take_yes 0 (some 11) (v := ?_) rfl (by kernel_rfl) (by kernel_rfl) (by kernel_rfl) (by kernel_rfl) (fun _ _ _ h => h) (by rfl) (by assumption) ?_ ?_
    rotate_left
    · (intro w' hSw; (try dsimp only at hSw); go_simp; try with_reducible rfl)
    try simp only [Act.put, List.setIfInBounds_toArray, List.set_cons_zero, List.set_cons_succ]
    refine take_yes 1 (some 12) (v := ?_) rfl (by kernel_rfl) (by kernel_rfl) (by kernel_rfl) (by kernel_rfl) (fun _ _ _ h => h) (by rfl) (by assumption) ?_ ?_
    rotate_left
    · (intro w' hSw; (try dsimp only at hSw); go_simp; try with_reducible rfl)
    try simp only [Act.put, List.setIfInBounds_toArray, List.set_cons_zero, List.set_cons_succ]
    refine take_yes 2 (some 13) (v := ?_) rfl (by kernel_rfl) (by kernel_rfl) (by kernel_rfl) (by kernel_rfl) (fun _ _ _ h => h) (by rfl) (by assumption) ?_ ?_
    rotate_left
    · (intro w' hSw; (try dsimp only at hSw); go_simp; try with_reducible rfl)
    try simp only [Act.put, List.setIfInBounds_toArray, List.set_cons_zero, List.set_cons_succ]
    refine take_yes 3 (some 14) (v := ?_) rfl (by kernel_rfl) (by kernel_rfl) (by kernel_rfl) (by kernel_rfl) (fun _ _ _ h => h) (by rfl) (by assumption) ?_ ?_
    rotate_left
    · (intro w' hSw; (try dsimp only at hSw); go_simp; try with_reducible rfl)
    try simp only [Act.put, List.setIfInBounds_toArray, List.set_cons_zero, List.set_cons_succ]
    refine take_yes 5 (some 16) (v := ?_) rfl (by kernel_rfl) (by kernel_rfl) (by kernel_rfl) (by kernel_rfl) (fun _ _ _ h => h) (by rfl) (by assumption) ?_ ?_
    rotate_left
    · (intro w' hSw; (try dsimp only at hSw); go_simp; try with_reducible rfl)
    try simp only [Act.put, List.setIfInBounds_toArray, List.set_cons_zero, List.set_cons_succ]
    refine take_yes 6 (some 17) (v := ?_) rfl (by kernel_rfl) (by kernel_rfl) (by kernel_rfl) (by kernel_rfl) (fun _ _ _ h => h) (by rfl) (by assumption) ?_ ?_
    rotate_left
    · (intro w' hSw; (try dsimp only at hSw); go_simp; try with_reducible rfl)
    try simp only [Act.put, List.setIfInBounds_toArray, List.set_cons_zero, List.set_cons_succ]
    refine take_yes 8 (some 19) (v := ?_) rfl (by kernel_rfl) (by kernel_rfl) (by kernel_rfl) (by kernel_rfl) (fun _ _ _ h => h) (by rfl) (by assumption) ?_ ?_
    rotate_left
    · (intro w' hSw; (try dsimp only at hSw); go_simp; try with_reducible rfl)
    try simp only [Act.put, List.setIfInBounds_toArray, List.set_cons_zero, List.set_cons_succ]
    refine take_two 4 10 rfl rfl (by kernel_rfl) (by rfl) (by rfl) (fun K hK => ?_) (fun K hK => ?_)
    · skip
      go_simp
      refine hK.out _ _ (HKC.out _ (BE.out.drew)) (fun hHeld_38 => ?_)
      clear hK K hHeld
      try simp only [Act.put, List.setIfInBounds_toArray, List.set_cons_zero, List.set_cons_succ]
      refine take_two 7 10 rfl rfl (by kernel_rfl) (by rfl) (by rfl) (fun K hK => ?_) (fun K hK => ?_)
      · skip
        have dr_44 : Since y y.drew := (Since.refl _).drew
        have c_45 := Since.trans hsy dr_44
        have M_46 := Lib.hid (BE.out.since dr_44)
        clear BE
        have M_47 := Lib.hid (BR.out.since dr_44)
        clear BR
        clear dr_44
        go_simp
        try rw [HMX.out]
        refine (HRC.out _ _ ⟨_, rfl, HA.out.since c_45⟩).mono ?_
        rintro en q_39 ⟨v_40, rfl, ⟨v_40b, rfl, ho_41, _⟩, hs_42⟩
        obtain ⟨u_43o, u_43n, u_43c, u_43N, rfl⟩ := ho_41.lenN
        have O_48 := Lib.hid (ho_41.mono (base' := w.heap.size) c_45.size)
        clear ho_41
        have c_49 := Since.trans c_45 hs_42
        have M_50 := Lib.hid (M_46.out.since hs_42)
        clear M_46
        have M_51 := Lib.hid (M_47.out.since hs_42)
        clear M_47
        clear hs_42
        refine hK.out _ _ (HKC.out _ M_50.out) (fun hHeld_52 => ?_)
        clear hK K hHeld_38
        try simp only [Act.put, List.setIfInBounds_toArray, List.set_cons_zero, List.set_cons_succ]
        refine take_two 9 10 rfl rfl (by kernel_rfl) (by rfl) (by rfl) (fun K hK => ?_) (fun K hK => ?_)
        · skip
          go_simp
          refine (l8Join_any _ _ X.post T2.post (leafK 4) _ ⟨_, rfl, HA.out.since c_49⟩ ⟨_, rfl, O_48.out.at⟩ (leafK_in 4 (by decide)) (by have := HN.out; omega) (by omega)).mono ?_
          rintro en q_53 ⟨v_54, rfl, ⟨v_54b, rfl, ho_55, _⟩, hs_56⟩
          obtain ⟨X_57o, X_57n, X_57c, X_57N, rfl⟩ := ho_55.lenN
          have O_58 := Lib.hid (ho_55.mono (base' := w.heap.size) c_49.size)
          clear ho_55
          have c_59 := Since.trans c_49 hs_56
          have M_60 := Lib.hid (M_50.out.since hs_56)
          clear M_50
          have M_61 := Lib.hid (M_51.out.since hs_56)
          clear M_51
          have M_62 := Lib.hid (O_48.out.since hs_56)
          clear O_48
          clear hs_56
          refine hK.out _ _ (HKC.out _ M_60.out) (fun hHeld_63 => ?_)
          clear hK K hHeld_52
          try simp only [Act.put, List.setIfInBounds_toArray, List.set_cons_zero, List.set_cons_succ]
          refine take_run 10 rfl (by kernel_rfl) (by rfl) (fun K hK => ?_)
          go_simp
          have al_65 : Since q_53 (q_53.alloc (.cells #[.slice none 0 0] 26)) := ((Since.refl _).alloc _)
          have B_66 : Hid (Blk (q_53.alloc (.cells #[.slice none 0 0] 26)) q_53.heap.size 26 #[.slice none 0 0]) := (Blk.new rfl _ _ : Blk (q_53.alloc (.cells #[.slice none 0 0] 26)) _ _ _)
          have zA_64 : w.heap.size ≤ q_53.heap.size := c_59.size
          have yA_64_E : w.heap.size < q_53.heap.size := M_60.out.lt
          have yA_64_R : w.heap.size + 1 < q_53.heap.size := M_61.out.lt
          have c_67 := Since.trans c_59 al_65
          have M_68 := Lib.hid (M_60.out.since al_65)
          clear M_60
          have M_69 := Lib.hid (M_61.out.since al_65)
          clear M_61
          have M_70 := Lib.hid (M_62.out.since al_65)
          clear M_62
          have M_71 := Lib.hid (O_58.out.since al_65)
          clear O_58
          clear al_65
          refine hK.out _ _ (HKC.out _ M_68.out) (fun hHeld_72 => ?_)
          clear hK K hHeld_63
          try simp only [Act.put, List.setIfInBounds_toArray, List.set_cons_zero, List.set_cons_succ]
          obtain ⟨A_64, hA_64⟩ : ∃ A, A = q_53.heap.size := ⟨_, rfl⟩
          rw [← hA_64] at B_66 zA_64 yA_64_E yA_64_R
          try rw [← hA_64]
          clear hA_64
          generalize q_53.alloc (.cells #[.slice none 0 0] 26) = wA_73 at M_68 M_69 B_66 M_70 M_71 c_67 hHeld_72 ⊢
          refine take_run 11 rfl (by kernel_rfl) (by rfl) (fun K hK => ?_)
          obtain ⟨q0, q1⟩ := B_66.out.one
          go_simp
          clear q0 q1
          have c_74 := Since.setCell c_67 (a := ⟨A_64, 0, none⟩) (by show w.heap.size ≤ A_64; omega) (.slice X_57o X_57n X_57c)
          have M_76 := Lib.hid (M_70.out.farT B_66.out (by decide) 0 (.slice X_57o X_57n X_57c))
          clear M_70
          have M_77 := Lib.hid (M_71.out.farT B_66.out (by decide) 0 (.slice X_57o X_57n X_57c))
          clear M_71
          have M_78 := Lib.hid (M_68.out.far (p := ⟨A_64, 0, none⟩) (by show w.heap.size ≠ A_64; omega) (.slice X_57o X_57n X_57c))
          clear M_68
          have M_79 := Lib.hid (M_69.out.far (p := ⟨A_64, 0, none⟩) (by show w.heap.size + 1 ≠ A_64; omega) (.slice X_57o X_57n X_57c))
          clear M_69
          have B_80 := Lib.hid (B_66.out.set 0 (.slice X_57o X_57n X_57c))
          clear B_66
          refine hK.out _ _ (HKC.out _ M_78.out) (fun hHeld_81 => ?_)
          clear hK K hHeld_72
          try simp only [Act.put, List.setIfInBounds_toArray, List.set_cons_zero, List.set_cons_succ]
          generalize wA_73.setCell ⟨A_64, 0, none⟩ (.slice X_57o X_57n X_57c) = wS_75 at M_78 M_79 B_80 M_76 M_77 c_74 hHeld_81 ⊢
          refine wpAnyH_done (by kernel_rfl) ?_ _
          clear hHeld_81
          clear HKC ew1 ew2
          have B6 := B_80
          have R6 := M_79
          have O6 := M_77
          have c6 := c_74
          by_cases hz : lo = 0
          · have HD : Hid ((timT X (h + 1) lo.toNat).post = X.post ++ T2.post ++ [leafK 4] ++ [leafK 2] ++ [leafK 5]) := by unfold Hid; rw [HDT.out, if_pos hz]
            have hgz : ¬ ((0 : Int) < lo) := by omega
            clear hz
            go_upto_region 6 with fail
            have HKC : Hid (∀ w', Blk w' A_64 26 #[.slice X_57o X_57n X_57c] → w'.cell? ⟨A_64, 0, none⟩ = some (.slice X_57o X_57n X_57c)) := by
              intro w' hb0
              obtain ⟨r00, _⟩ := hb0.one
              exact r00
            refine wp_region_held_drew (S := (fun w' => w'.cell? ⟨A_64, 0, none⟩ = some (.slice X_57o X_57n X_57c))) (by kernel_rfl) (HKC.out _ (B6.out.drew)) (fun hHeld => ?_)
            refine take_yes 0 (some 24) (v := ?_) rfl (by kernel_rfl) (by kernel_rfl) (by kernel_rfl) (by kernel_rfl) (fun _ _ _ h => h) (by rfl) (by assumption) ?_ ?_
            rotate_left
            · (intro w' hSw; (try dsimp only at hSw); go_simp; try with_reducible rfl)
            try simp only [Act.put, List.setIfInBounds_toArray, List.set_cons_zero, List.set_cons_succ]
            refine take_yes 2 (some 26) (v := ?_) rfl (by kernel_rfl) (by kernel_rfl) (by kernel_rfl) (by kernel_rfl) (fun _ _ _ h => h) (by rfl) (by assumption) ?_ ?_
            rotate_left
            · (intro w' hSw; (try dsimp only at hSw); go_simp; try with_reducible rfl)
            try simp only [Act.put, List.setIfInBounds_toArray, List.set_cons_zero, List.set_cons_succ]
            refine take_run 1 rfl (by kernel_rfl) (by rfl) (fun K hK => ?_)
            have dr_87 : Since wS_75 wS_75.drew := (Since.refl _).drew
            have c_88 := Since.trans c6 dr_87
            have M_89 := Lib.hid (B6.out.since dr_87)
            clear B6
            have M_90 := Lib.hid (R6.out.since dr_87)
            clear R6
            have M_91 := Lib.hid (O6.out.since dr_87)
            clear O6
            clear dr_87
            go_simp
            refine (l8Leaf_any 2 _ (by decide)).mono ?_
            rintro en q_82 ⟨v_83, rfl, ⟨v_83b, rfl, ho_84, _⟩, hs_85⟩
            obtain ⟨f_86o, f_86n, f_86c, f_86N, rfl⟩ := ho_84.lenN
            have O_92 := Lib.hid (ho_84.mono (base' := w.heap.size) c_88.size)
            clear ho_84
            have c_93 := Since.trans c_88 hs_85
            have M_94 := Lib.hid (M_89.out.since hs_85)
            clear M_89
            have M_95 := Lib.hid (M_90.out.since hs_85)
            clear M_90
            have M_96 := Lib.hid (M_91.out.since hs_85)
            clear M_91
            clear hs_85
            refine hK.out _ _ (HKC.out _ M_94.out) (fun hHeld_97 => ?_)
            clear hK K hHeld
            try simp only [Act.put, List.setIfInBounds_toArray, List.set_cons_zero, List.set_cons_succ]
            refine take_run 3 rfl (by kernel_rfl) (by rfl) (fun K hK => ?_)
            go_simp
            refine (l8Join_any _ _ (X.post ++ T2.post ++ [leafK 4]) [leafK 2] (leafK 5) _ ⟨_, rfl, M_96.out.at⟩ ⟨_, rfl, O_92.out.at⟩ (leafK_in 5 (by decide)) (by have := HN.out; simp; omega) (by simp)).mono ?_
            rintro en q_98 ⟨v_99, rfl, ⟨v_99b, rfl, ho_100, _⟩, hs_101⟩
            obtain ⟨Z_102o, Z_102n, Z_102c, Z_102N, rfl⟩ := ho_100.lenN
            have O_103 := Lib.hid (ho_100.mono (base' := w.heap.size) c_93.size)
            clear ho_100
            have c_104 := Since.trans c_93 hs_101
            have M_105 := Lib.hid (M_94.out.since hs_101)
            clear M_94
            have M_106 := Lib.hid (M_95.out.since hs_101)
            clear M_95
            have M_107 := Lib.hid (M_96.out.since hs_101)
            clear M_96
            have M_108 := Lib.hid (O_92.out.since hs_101)
            clear O_92
            clear hs_101
            refine hK.out _ _ (HKC.out _ M_105.out) (fun hHeld_109 => ?_)
            clear hK K hHeld_97
            try simp only [Act.put, List.setIfInBounds_toArray, List.set_cons_zero, List.set_cons_succ]
            refine take_run 4 rfl (by kernel_rfl) (by rfl) (fun K hK => ?_)
            obtain ⟨q0, q1⟩ := M_106.out.one
            go_simp
            clear q0 q1
            have c_110 := Since.setCell c_104 (a := ⟨w.heap.size + 1, 0, none⟩) (by show w.heap.size ≤ w.heap.size + 1; omega) (.slice Z_102o Z_102n Z_102c)
            have M_112 := Lib.hid (M_107.out.farT M_106.out (by decide) 0 (.slice Z_102o Z_102n Z_102c))
            clear M_107
            have M_113 := Lib.hid (M_108.out.farT M_106.out (by decide) 0 (.slice Z_102o Z_102n Z_102c))
            clear M_108
            have M_114 := Lib.hid (O_103.out.farT M_106.out (by decide) 0 (.slice Z_102o Z_102n Z_102c))
            clear O_103
            have M_115 := Lib.hid (M_105.out.far (p := ⟨w.heap.size + 1, 0, none⟩) (by show A_64 ≠ w.heap.size + 1; omega) (.slice Z_102o Z_102n Z_102c))
            clear M_105
            have B_116 := Lib.hid (M_106.out.set 0 (.slice Z_102o Z_102n Z_102c))
            clear M_106
            refine hK.out _ _ (HKC.out _ M_115.out) (fun hHeld_117 => ?_)
            clear hK K hHeld_109
            try simp only [Act.put, List.setIfInBounds_toArray, List.set_cons_zero, List.set_cons_succ]
            generalize q_98.setCell ⟨w.heap.size + 1, 0, none⟩ (.slice Z_102o Z_102n Z_102c) = wS_111 at M_115 B_116 M_112 M_113 M_114 c_110 hHeld_117 ⊢
            refine wpAnyH_done (by kernel_rfl) ?_ _
            clear hHeld_117
            obtain ⟨r0, r1⟩ := B_116.out.one
            go_wp2_with fail
            refine bodyPost_ret (v := .agg #[.slice Z_102o Z_102n Z_102c]) (by simp [results, Tryd.results120, go_sem, *]) rfl ?_
            rw [HD.out]
            exact xout_mk M_114.out c_110
          · have HD : Hid ((timT X (h + 1) lo.toNat).post = X.post ++ T2.post ++ [leafK 4]) := by unfold Hid; rw [HDT.out, if_neg hz]
            have hgz : (0 : Int) < lo := by omega
            clear hz
            obtain ⟨p0, p1⟩ := B6.out.one
            obtain ⟨r0, r1⟩ := R6.out.one
            go_wp2_with fail
            refine bodyPost_ret (v := .agg #[.slice X_57o X_57n X_57c]) (by simp [results, Tryd.results120, go_sem, *]) rfl ?_
            rw [HD.out]
            exact xout_boxT O6.out c6 R6.out (by decide) (by omega) _
        · skip
          go_simp
          have al_119 : Since q_39 (q_39.alloc (.cells #[.slice none 0 0] 26)) := ((Since.refl _).alloc _)
          have B_120 : Hid (Blk (q_39.alloc (.cells #[.slice none 0 0] 26)) q_39.heap.size 26 #[.slice none 0 0]) := (Blk.new rfl _ _ : Blk (q_39.alloc (.cells #[.slice none 0 0] 26)) _ _ _)
          have zA_118 : w.heap.size ≤ q_39.heap.size := c_49.size
          have yA_118_E : w.heap.size < q_39.heap.size := M_50.out.lt
          have yA_118_R : w.heap.size + 1 < q_39.heap.size := M_51.out.lt
          have c_121 := Since.trans c_49 al_119
          have M_122 := Lib.hid (M_50.out.since al_119)
          clear M_50
          have M_123 := Lib.hid (M_51.out.since al_119)
          clear M_51
          have M_124 := Lib.hid (O_48.out.since al_119)
          clear O_48
          clear al_119
          refine hK.out _ _ (HKC.out _ M_122.out) (fun hHeld_125 => ?_)
          clear hK K hHeld_52
          try simp only [Act.put, List.setIfInBounds_toArray, List.set_cons_zero, List.set_cons_succ]
          obtain ⟨A_118, hA_118⟩ : ∃ A, A = q_39.heap.size := ⟨_, rfl⟩
          rw [← hA_118] at B_120 zA_118 yA_118_E yA_118_R
          try rw [← hA_118]
          clear hA_118
          generalize q_39.alloc (.cells #[.slice none 0 0] 26) = wA_126 at M_122 M_123 B_120 M_124 c_121 hHeld_125 ⊢
          refine take_run 9 rfl (by kernel_rfl) (by rfl) (fun K hK => ?_)
          go_simp
          refine (l8Join_any _ _ X.post T2.post (leafK 4) _ ⟨_, rfl, HA.out.since c_121⟩ ⟨_, rfl, M_124.out.at⟩ (leafK_in 4 (by decide)) (by have := HN.out; omega) (by omega)).mono ?_
          rintro en q_127 ⟨v_128, rfl, ⟨v_128b, rfl, ho_129, _⟩, hs_130⟩
          obtain ⟨X_131o, X_131n, X_131c, X_131N, rfl⟩ := ho_129.lenN
          have O_132 := Lib.hid (ho_129.mono (base' := w.heap.size) c_121.size)
          clear ho_129
          have c_133 := Since.trans c_121 hs_130
          have M_134 := Lib.hid (M_122.out.since hs_130)
          clear M_122
          have M_135 := Lib.hid (M_123.out.since hs_130)
          clear M_123
          have M_136 := Lib.hid (B_120.out.since hs_130)
          clear B_120
          have M_137 := Lib.hid (M_124.out.since hs_130)
          clear M_124
          clear hs_130
          refine hK.out _ _ (HKC.out _ M_134.out) (fun hHeld_138 => ?_)
          clear hK K hHeld_125
          try simp only [Act.put, List.setIfInBounds_toArray, List.set_cons_zero, List.set_cons_succ]
          refine take_run 11 rfl (by kernel_rfl) (by rfl) (fun K hK => ?_)
          obtain ⟨q0, q1⟩ := M_136.out.one
          go_simp
          clear q0 q1
          have c_139 := Since.setCell c_133 (a := ⟨A_118, 0, none⟩) (by show w.heap.size ≤ A_118; omega) (.slice X_131o X_131n X_131c)
          have M_141 := Lib.hid (M_137.out.farT M_136.out (by decide) 0 (.slice X_131o X_131n X_131c))
          clear M_137
          have M_142 := Lib.hid (O_132.out.farT M_136.out (by decide) 0 (.slice X_131o X_131n X_131c))
          clear O_132
          have M_143 := Lib.hid (M_134.out.far (p := ⟨A_118, 0, none⟩) (by show w.heap.size ≠ A_118; omega) (.slice X_131o X_131n X_131c))
          clear M_134
          have M_144 := Lib.hid (M_135.out.far (p := ⟨A_118, 0, none⟩) (by show w.heap.size + 1 ≠ A_118; omega) (.slice X_131o X_131n X_131c))
          clear M_135
          have B_145 := Lib.hid (M_136.out.set 0 (.slice X_131o X_131n X_131c))
          clear M_136
          refine hK.out _ _ (HKC.out _ M_143.out) (fun hHeld_146 => ?_)
          clear hK K hHeld_138
          try simp only [Act.put, List.setIfInBounds_toArray, List.set_cons_zero, List.set_cons_succ]
          generalize q_127.setCell ⟨A_118, 0, none⟩ (.slice X_131o X_131n X_131c) = wS_140 at M_143 M_144 B_145 M_141 M_142 c_139 hHeld_146 ⊢
          refine wpAnyH_done (by kernel_rfl) ?_ _
          clear hHeld_146
          clear HKC ew1 ew2
          have B6 := B_145
          have R6 := M_144
          have O6 := M_142
          have c6 := c_139
          by_cases hz : lo = 0
          · have HD : Hid ((timT X (h + 1) lo.toNat).post = X.post ++ T2.post ++ [leafK 4] ++ [leafK 2] ++ [leafK 5]) := by unfold Hid; rw [HDT.out, if_pos hz]
            have hgz : ¬ ((0 : Int) < lo) := by omega
            clear hz
            go_upto_region 6 with fail
            have HKC : Hid (∀ w', Blk w' A_118 26 #[.slice X_131o X_131n X_131c] → w'.cell? ⟨A_118, 0, none⟩ = some (.slice X_131o X_131n X_131c)) := by
              intro w' hb0
              obtain ⟨r00, _⟩ := hb0.one
              exact r00
            refine wp_region_held_drew (S := (fun w' => w'.cell? ⟨A_118, 0, none⟩ = some (.slice X_131o X_131n X_131c))) (by kernel_rfl) (HKC.out _ (B6.out.drew)) (fun hHeld => ?_)
            refine take_yes 0 (some 24) (v := ?_) rfl (by kernel_rfl) (by kernel_rfl) (by kernel_rfl) (by kernel_rfl) (fun _ _ _ h => h) (by rfl) (by assumption) ?_ ?_
            rotate_left
            · (intro w' hSw; (try dsimp only at hSw); go_simp; try with_reducible rfl)
            try simp only [Act.put, List.setIfInBounds_toArray, List.set_cons_zero, List.set_cons_succ]
            refine take_yes 2 (some 26) (v := ?_) rfl (by kernel_rfl) (by kernel_rfl) (by kernel_rfl) (by kernel_rfl) (fun _ _ _ h => h) (by rfl) (by assumption) ?_ ?_
            rotate_left
            · (intro w' hSw; (try dsimp only at hSw); go_simp; try with_reducible rfl)
            try simp only [Act.put, List.setIfInBounds_toArray, List.set_cons_zero, List.set_cons_succ]
            refine take_run 1 rfl (by kernel_rfl) (by rfl) (fun K hK => ?_)
            have dr_152 : Since wS_140 wS_140.drew := (Since.refl _).drew
            have c_153 := Since.trans c6 dr_152
            have M_154 := Lib.hid (B6.out.since dr_152)
            clear B6
            have M_155 := Lib.hid (R6.out.since dr_152)
            clear R6
            have M_156 := Lib.hid (O6.out.since dr_152)
            clear O6
            clear dr_152
            go_simp
            refine (l8Leaf_any 2 _ (by decide)).mono ?_
            rintro en q_147 ⟨v_148, rfl, ⟨v_148b, rfl, ho_149, _⟩, hs_150⟩
            obtain ⟨f_151o, f_151n, f_151c, f_151N, rfl⟩ := ho_149.lenN
            have O_157 := Lib.hid (ho_149.mono (base' := w.heap.size) c_153.size)
            clear ho_149
            have c_158 := Since.trans c_153 hs_150
            have M_159 := Lib.hid (M_154.out.since hs_150)
            clear M_154
            have M_160 := Lib.hid (M_155.out.since hs_150)
            clear M_155
            have M_161 := Lib.hid (M_156.out.since hs_150)
            clear M_156
            clear hs_150
            refine hK.out _ _ (HKC.out _ M_159.out) (fun hHeld_162 => ?_)
            clear hK K hHeld
            try simp only [Act.put, List.setIfInBounds_toArray, List.set_cons_zero, List.set_cons_succ]
            refine take_run 3 rfl (by kernel_rfl) (by rfl) (fun K hK => ?_)
            go_simp
            refine (l8Join_any _ _ (X.post ++ T2.post ++ [leafK 4]) [leafK 2] (leafK 5) _ ⟨_, rfl, M_161.out.at⟩ ⟨_, rfl, O_157.out.at⟩ (leafK_in 5 (by decide)) (by have := HN.out; simp; omega) (by simp)).mono ?_
            rintro en q_163 ⟨v_164, rfl, ⟨v_164b, rfl, ho_165, _⟩, hs_166⟩
            obtain ⟨Z_167o, Z_167n, Z_167c, Z_167N, rfl⟩ := ho_165.lenN
            have O_168 := Lib.hid (ho_165.mono (base' := w.heap.size) c_158.size)
            clear ho_165
            have c_169 := Since.trans c_158 hs_166
            have M_170 := Lib.hid (M_159.out.since hs_166)
            clear M_159
            have M_171 := Lib.hid (M_160.out.since hs_166)
            clear M_160
            have M_172 := Lib.hid (M_161.out.since hs_166)
            clear M_161
            have M_173 := Lib.hid (O_157.out.since hs_166)
            clear O_157
            clear hs_166
            refine hK.out _ _ (HKC.out _ M_170.out) (fun hHeld_174 => ?_)
            clear hK K hHeld_162
            try simp only [Act.put, List.setIfInBounds_toArray, List.set_cons_zero, List.set_cons_succ]
            refine take_run 4 rfl (by kernel_rfl) (by rfl) (fun K hK => ?_)
            obtain ⟨q0, q1⟩ := M_171.out.one
            go_simp
            clear q0 q1
            have c_175 := Since.setCell c_169 (a := ⟨w.heap.size + 1, 0, none⟩) (by show w.heap.size ≤ w.heap.size + 1; omega) (.slice Z_167o Z_167n Z_167c)
            have M_177 := Lib.hid (M_172.out.farT M_171.out (by decide) 0 (.slice Z_167o Z_167n Z_167c))
            clear M_172
            have M_178 := Lib.hid (M_173.out.farT M_171.out (by decide) 0 (.slice Z_167o Z_167n Z_167c))
            clear M_173
            have M_179 := Lib.hid (O_168.out.farT M_171.out (by decide) 0 (.slice Z_167o Z_167n Z_167c))
            clear O_168
            have M_180 := Lib.hid (M_170.out.far (p := ⟨w.heap.size + 1, 0, none⟩) (by show A_118 ≠ w.heap.size + 1; omega) (.slice Z_167o Z_167n Z_167c))
            clear M_170
            have B_181 := Lib.hid (M_171.out.set 0 (.slice Z_167o Z_167n Z_167c))
            clear M_171
            refine hK.out _ _ (HKC.out _ M_180.out) (fun hHeld_182 => ?_)
            clear hK K hHeld_174
            try simp only [Act.put, List.setIfInBounds_toArray, List.set_cons_zero, List.set_cons_succ]
            generalize q_163.setCell ⟨w.heap.size + 1, 0, none⟩ (.slice Z_167o Z_167n Z_167c) = wS_176 at M_180 B_181 M_177 M_178 M_179 c_175 hHeld_182 ⊢
            refine wpAnyH_done (by kernel_rfl) ?_ _
            clear hHeld_182
            obtain ⟨r0, r1⟩ := B_181.out.one
            go_wp2_with fail
            refine bodyPost_ret (v := .agg #[.slice Z_167o Z_167n Z_167c]) (by simp [results, Tryd.results120, go_sem, *]) rfl ?_
            rw [HD.out]
            exact xout_mk M_179.out c_175
          · have HD : Hid ((timT X (h + 1) lo.toNat).post = X.post ++ T2.post ++ [leafK 4]) := by unfold Hid; rw [HDT.out, if_neg hz]
            have hgz : (0 : Int) < lo := by omega
            clear hz
            obtain ⟨p0, p1⟩ := B6.out.one
            obtain ⟨r0, r1⟩ := R6.out.one
            go_wp2_with fail
            refine bodyPost_ret (v := .agg #[.slice X_131o X_131n X_131c]) (by simp [results, Tryd.results120, go_sem, *]) rfl ?_
            rw [HD.out]
            exact xout_boxT O6.out c6 R6.out (by decide) (by omega) _
      · skip
        go_simp
        have al_184 : Since y ((y.alloc (.cells #[.slice none 0 0] 26)).drew) := ((Since.refl _).alloc _).drew
        have B_185 : Hid (Blk ((y.alloc (.cells #[.slice none 0 0] 26)).drew) y.heap.size 26 #[.slice none 0 0]) := (Blk.new rfl _ _ : Blk (y.alloc (.cells #[.slice none 0 0] 26)) _ _ _).drew
        have zA_183 : w.heap.size ≤ y.heap.size := hsy.size
        have yA_183_E : w.heap.size < y.heap.size := BE.out.lt
        have yA_183_R : w.heap.size + 1 < y.heap.size := BR.out.lt
        have c_186 := Since.trans hsy al_184
        have M_187 := Lib.hid (BE.out.since al_184)
        clear BE
        have M_188 := Lib.hid (BR.out.since al_184)
        clear BR
        clear al_184
        refine hK.out _ _ (HKC.out _ M_187.out) (fun hHeld_189 => ?_)
        clear hK K hHeld_38
        try simp only [Act.put, List.setIfInBounds_toArray, List.set_cons_zero, List.set_cons_succ]
        obtain ⟨A_183, hA_183⟩ : ∃ A, A = y.heap.size := ⟨_, rfl⟩
        rw [← hA_183] at B_185 zA_183 yA_183_E yA_183_R
        try rw [← hA_183]
        clear hA_183
        generalize (y.alloc (.cells #[.slice none 0 0] 26)).drew = wA_190 at M_187 M_188 B_185 c_186 hHeld_189 ⊢
        refine take_run 7 rfl (by kernel_rfl) (by rfl) (fun K hK => ?_)
        go_simp
        try rw [HMX.out]
        refine (HRC.out _ _ ⟨_, rfl, HA.out.since c_186⟩).mono ?_
        rintro en q_191 ⟨v_192, rfl, ⟨v_192b, rfl, ho_193, _⟩, hs_194⟩
        obtain ⟨u_195o, u_195n, u_195c, u_195N, rfl⟩ := ho_193.lenN
        have O_196 := Lib.hid (ho_193.mono (base' := w.heap.size) c_186.size)
        clear ho_193
        have c_197 := Since.trans c_186 hs_194
        have M_198 := Lib.hid (M_187.out.since hs_194)
        clear M_187
        have M_199 := Lib.hid (M_188.out.since hs_194)
        clear M_188
        have M_200 := Lib.hid (B_185.out.since hs_194)
        clear B_185
        clear hs_194
        refine hK.out _ _ (HKC.out _ M_198.out) (fun hHeld_201 => ?_)
        clear hK K hHeld_189
        try simp only [Act.put, List.setIfInBounds_toArray, List.set_cons_zero, List.set_cons_succ]
        refine take_run 9 rfl (by kernel_rfl) (by rfl) (fun K hK => ?_)
        go_simp
        refine (l8Join_any _ _ X.post T2.post (leafK 4) _ ⟨_, rfl, HA.out.since c_197⟩ ⟨_, rfl, O_196.out.at⟩ (leafK_in 4 (by decide)) (by have := HN.out; omega) (by omega)).mono ?_
        rintro en q_202 ⟨v_203, rfl, ⟨v_203b, rfl, ho_204, _⟩, hs_205⟩
        obtain ⟨X_206o, X_206n, X_206c, X_206N, rfl⟩ := ho_204.lenN
        have O_207 := Lib.hid (ho_204.mono (base' := w.heap.size) c_197.size)
        clear ho_204
        have c_208 := Since.trans c_197 hs_205
        have M_209 := Lib.hid (M_198.out.since hs_205)
        clear M_198
        have M_210 := Lib.hid (M_199.out.since hs_205)
        clear M_199
        have M_211 := Lib.hid (M_200.out.since hs_205)
        clear M_200
        have M_212 := Lib.hid (O_196.out.since hs_205)
        clear O_196
        clear hs_205
        refine hK.out _ _ (HKC.out _ M_209.out) (fun hHeld_213 => ?_)
        clear hK K hHeld_201
        try simp only [Act.put, List.setIfInBounds_toArray, List.set_cons_zero, List.set_cons_succ]
        refine take_run 11 rfl (by kernel_rfl) (by rfl) (fun K hK => ?_)
        obtain ⟨q0, q1⟩ := M_211.out.one
        go_simp
        clear q0 q1
        have c_214 := Since.setCell c_208 (a := ⟨A_183, 0, none⟩) (by show w.heap.size ≤ A_183; omega) (.slice X_206o X_206n X_206c)
        have M_216 := Lib.hid (M_212.out.farT M_211.out (by decide) 0 (.slice X_206o X_206n X_206c))
        clear M_212
        have M_217 := Lib.hid (O_207.out.farT M_211.out (by decide) 0 (.slice X_206o X_206n X_206c))
        clear O_207
        have M_218 := Lib.hid (M_209.out.far (p := ⟨A_183, 0, none⟩) (by show w.heap.size ≠ A_183; omega) (.slice X_206o X_206n X_206c))
        clear M_209
        have M_219 := Lib.hid (M_210.out.far (p := ⟨A_183, 0, none⟩) (by show w.heap.size + 1 ≠ A_183; omega) (.slice X_206o X_206n X_206c))
        clear M_210
        have B_220 := Lib.hid (M_211.out.set 0 (.slice X_206o X_206n X_206c))
        clear M_211
        refine hK.out _ _ (HKC.out _ M_218.out) (fun hHeld_221 => ?_)
        clear hK K hHeld_213
        try simp only [Act.put, List.setIfInBounds_toArray, List.set_cons_zero, List.set_cons_succ]
        generalize q_202.setCell ⟨A_183, 0, none⟩ (.slice X_206o X_206n X_206c) = wS_215 at M_218 M_219 B_220 M_216 M_217 c_214 hHeld_221 ⊢
        refine wpAnyH_done (by kernel_rfl) ?_ _
        clear hHeld_221
        clear HKC ew1 ew2
        have B6 := B_220
        have R6 := M_219
        have O6 := M_217
        have c6 := c_214
        by_cases hz : lo = 0
        · have HD : Hid ((timT X (h + 1) lo.toNat).post = X.post ++ T2.post ++ [leafK 4] ++ [leafK 2] ++ [leafK 5]) := by unfold Hid; rw [HDT.out, if_pos hz]
          have hgz : ¬ ((0 : Int) < lo) := by omega
          clear hz
          go_upto_region 6 with fail
          have HKC : Hid (∀ w', Blk w' A_183 26 #[.slice X_206o X_206n X_206c] → w'.cell? ⟨A_183, 0, none⟩ = some (.slice X_206o X_206n X_206c)) := by
            intro w' hb0
            obtain ⟨r00, _⟩ := hb0.one
            exact r00
          refine wp_region_held_drew (S := (fun w' => w'.cell? ⟨A_183, 0, none⟩ = some (.slice X_206o X_206n X_206c))) (by kernel_rfl) (HKC.out _ (B6.out.drew)) (fun hHeld => ?_)
          refine take_yes 0 (some 24) (v := ?_) rfl (by kernel_rfl) (by kernel_rfl) (by kernel_rfl) (by kernel_rfl) (fun _ _ _ h => h) (by rfl) (by assumption) ?_ ?_
          rotate_left
          · (intro w' hSw; (try dsimp only at hSw); go_simp; try with_reducible rfl)
          try simp only [Act.put, List.setIfInBounds_toArray, List.set_cons_zero, List.set_cons_succ]
          refine take_yes 2 (some 26) (v := ?_) rfl (by kernel_rfl) (by kernel_rfl) (by kernel_rfl) (by kernel_rfl) (fun _ _ _ h => h) (by rfl) (by assumption) ?_ ?_
          rotate_left
          · (intro w' hSw; (try dsimp only at hSw); go_simp; try with_reducible rfl)
          try simp only [Act.put, List.setIfInBounds_toArray, List.set_cons_zero, List.set_cons_succ]
          refine take_run 1 rfl (by kernel_rfl) (by rfl) (fun K hK => ?_)
          have dr_227 : Since wS_215 wS_215.drew := (Since.refl _).drew
          have c_228 := Since.trans c6 dr_227
          have M_229 := Lib.hid (B6.out.since dr_227)
          clear B6
          have M_230 := Lib.hid (R6.out.since dr_227)
          clear R6
          have M_231 := Lib.hid (O6.out.since dr_227)
          clear O6
          clear dr_227
          go_simp
          refine (l8Leaf_any 2 _ (by decide)).mono ?_
          rintro en q_222 ⟨v_223, rfl, ⟨v_223b, rfl, ho_224, _⟩, hs_225⟩
          obtain ⟨f_226o, f_226n, f_226c, f_226N, rfl⟩ := ho_224.lenN
          have O_232 := Lib.hid (ho_224.mono (base' := w.heap.size) c_228.size)
          clear ho_224
          have c_233 := Since.trans c_228 hs_225
          have M_234 := Lib.hid (M_229.out.since hs_225)
          clear M_229
          have M_235 := Lib.hid (M_230.out.since hs_225)
          clear M_230
          have M_236 := Lib.hid (M_231.out.since hs_225)
          clear M_231
          clear hs_225
          refine hK.out _ _ (HKC.out _ M_234.out) (fun hHeld_237 => ?_)
          clear hK K hHeld
          try simp only [Act.put, List.setIfInBounds_toArray, List.set_cons_zero, List.set_cons_succ]
          refine take_run 3 rfl (by kernel_rfl) (by rfl) (fun K hK => ?_)
          go_simp
          refine (l8Join_any _ _ (X.post ++ T2.post ++ [leafK 4]) [leafK 2] (leafK 5) _ ⟨_, rfl, M_236.out.at⟩ ⟨_, rfl, O_232.out.at⟩ (leafK_in 5 (by decide)) (by have := HN.out; simp; omega) (by simp)).mono ?_
          rintro en q_238 ⟨v_239, rfl, ⟨v_239b, rfl, ho_240, _⟩, hs_241⟩
          obtain ⟨Z_242o, Z_242n, Z_242c, Z_242N, rfl⟩ := ho_240.lenN
          have O_243 := Lib.hid (ho_240.mono (base' := w.heap.size) c_233.size)
          clear ho_240
          have c_244 := Since.trans c_233 hs_241
          have M_245 := Lib.hid (M_234.out.since hs_241)
          clear M_234
          have M_246 := Lib.hid (M_235.out.since hs_241)
          clear M_235
          have M_247 := Lib.hid (M_236.out.since hs_241)
          clear M_236
          have M_248 := Lib.hid (O_232.out.since hs_241)
          clear O_232
          clear hs_241
          refine hK.out _ _ (HKC.out _ M_245.out) (fun hHeld_249 => ?_)
          clear hK K hHeld_237
          try simp only [Act.put, List.setIfInBounds_toArray, List.set_cons_zero, List.set_cons_succ]
          refine take_run 4 rfl (by kernel_rfl) (by rfl) (fun K hK => ?_)
          obtain ⟨q0, q1⟩ := M_246.out.one
          go_simp
          clear q0 q1
          have c_250 := Since.setCell c_244 (a := ⟨w.heap.size + 1, 0, none⟩) (by show w.heap.size ≤ w.heap.size + 1; omega) (.slice Z_242o Z_242n Z_242c)
          have M_252 := Lib.hid (M_247.out.farT M_246.out (by decide) 0 (.slice Z_242o Z_242n Z_242c))
          clear M_247
          have M_253 := Lib.hid (M_248.out.farT M_246.out (by decide) 0 (.slice Z_242o Z_242n Z_242c))
          clear M_248
          have M_254 := Lib.hid (O_243.out.farT M_246.out (by decide) 0 (.slice Z_242o Z_242n Z_242c))
          clear O_243
          have M_255 := Lib.hid (M_245.out.far (p := ⟨w.heap.size + 1, 0, none⟩) (by show A_183 ≠ w.heap.size + 1; omega) (.slice Z_242o Z_242n Z_242c))
          clear M_245
          have B_256 := Lib.hid (M_246.out.set 0 (.slice Z_242o Z_242n Z_242c))
          clear M_246
          refine hK.out _ _ (HKC.out _ M_255.out) (fun hHeld_257 => ?_)
          clear hK K hHeld_249
          try simp only [Act.put, List.setIfInBounds_toArray, List.set_cons_zero, List.set_cons_succ]
          generalize q_238.setCell ⟨w.heap.size + 1, 0, none⟩ (.slice Z_242o Z_242n Z_242c) = wS_251 at M_255 B_256 M_252 M_253 M_254 c_250 hHeld_257 ⊢
          refine wpAnyH_done (by kernel_rfl) ?_ _
          clear hHeld_257
          obtain ⟨r0, r1⟩ := B_256.out.one
          go_wp2_with fail
          refine bodyPost_ret (v := .agg #[.slice Z_242o Z_242n Z_242c]) (by simp [results, Tryd.results120, go_sem, *]) rfl ?_
          rw [HD.out]
          exact xout_mk M_254.out c_250
        · have HD : Hid ((timT X (h + 1) lo.toNat).post = X.post ++ T2.post ++ [leafK 4]) := by unfold Hid; rw [HDT.out, if_neg hz]
          have hgz : (0 : Int) < lo := by omega
          clear hz
          obtain ⟨p0, p1⟩ := B6.out.one
          obtain ⟨r0, r1⟩ := R6.out.one
          go_wp2_with fail
          refine bodyPost_ret (v := .agg #[.slice X_206o X_206n X_206c]) (by simp [results, Tryd.results120, go_sem, *]) rfl ?_
          rw [HD.out]
          exact xout_boxT O6.out c6 R6.out (by decide) (by omega) _
    · skip
      go_simp
      have al_259 : Since y ((y.alloc (.cells #[.slice none 0 0] 26)).drew) := ((Since.refl _).alloc _).drew
      have B_260 : Hid (Blk ((y.alloc (.cells #[.slice none 0 0] 26)).drew) y.heap.size 26 #[.slice none 0 0]) := (Blk.new rfl _ _ : Blk (y.alloc (.cells #[.slice none 0 0] 26)) _ _ _).drew
      have zA_258 : w.heap.size ≤ y.heap.size := hsy.size
      have yA_258_E : w.heap.size < y.heap.size := BE.out.lt
      have yA_258_R : w.heap.size + 1 < y.heap.size := BR.out.lt
      have c_261 := Since.trans hsy al_259
      have M_262 := Lib.hid (BE.out.since al_259)
      clear BE
      have M_263 := Lib.hid (BR.out.since al_259)
      clear BR
      clear al_259
      refine hK.out _ _ (HKC.out _ M_262.out) (fun hHeld_264 => ?_)
      clear hK K hHeld
      try simp only [Act.put, List.setIfInBounds_toArray, List.set_cons_zero, List.set_cons_succ]
      obtain ⟨A_258, hA_258⟩ : ∃ A, A = y.heap.size := ⟨_, rfl⟩
      rw [← hA_258] at B_260 zA_258 yA_258_E yA_258_R
      try rw [← hA_258]
      clear hA_258
      generalize (y.alloc (.cells #[.slice none 0 0] 26)).drew = wA_265 at M_262 M_263 B_260 c_261 hHeld_264 ⊢
      refine take_run 4 rfl (by kernel_rfl) (by rfl) (fun K hK => ?_)
      go_simp
      refine hK.out _ _ (HKC.out _ M_262.out) (fun hHeld_266 => ?_)
      clear hK K hHeld_264
      try simp only [Act.put, List.setIfInBounds_toArray, List.set_cons_zero, List.set_cons_succ]
      refine take_run 7 rfl (by kernel_rfl) (by rfl) (fun K hK => ?_)
      go_simp
      try rw [HMX.out]
      refine (HRC.out _ _ ⟨_, rfl, HA.out.since c_261⟩).mono ?_
      rintro en q_267 ⟨v_268, rfl, ⟨v_268b, rfl, ho_269, _⟩, hs_270⟩
      obtain ⟨u_271o, u_271n, u_271c, u_271N, rfl⟩ := ho_269.lenN
      have O_272 := Lib.hid (ho_269.mono (base' := w.heap.size) c_261.size)
      clear ho_269
      have c_273 := Since.trans c_261 hs_270
      have M_274 := Lib.hid (M_262.out.since hs_270)
      clear M_262
      have M_275 := Lib.hid (M_263.out.since hs_270)
      clear M_263
      have M_276 := Lib.hid (B_260.out.since hs_270)
      clear B_260
      clear hs_270
      refine hK.out _ _ (HKC.out _ M_274.out) (fun hHeld_277 => ?_)
      clear hK K hHeld_266
      try simp only [Act.put, List.setIfInBounds_toArray, List.set_cons_zero, List.set_cons_succ]
      refine take_run 9 rfl (by kernel_rfl) (by rfl) (fun K hK => ?_)
      go_simp
      refine (l8Join_any _ _ X.post T2.post (leafK 4) _ ⟨_, rfl, HA.out.since c_273⟩ ⟨_, rfl, O_272.out.at⟩ (leafK_in 4 (by decide)) (by have := HN.out; omega) (by omega)).mono ?_
      rintro en q_278 ⟨v_279, rfl, ⟨v_279b, rfl, ho_280, _⟩, hs_281⟩
      obtain ⟨X_282o, X_282n, X_282c, X_282N, rfl⟩ := ho_280.lenN
      have O_283 := Lib.hid (ho_280.mono (base' := w.heap.size) c_273.size)
      clear ho_280
      have c_284 := Since.trans c_273 hs_281
      have M_285 := Lib.hid (M_274.out.since hs_281)
      clear M_274
      have M_286 := Lib.hid (M_275.out.since hs_281)
      clear M_275
      have M_287 := Lib.hid (M_276.out.since hs_281)
      clear M_276
      have M_288 := Lib.hid (O_272.out.since hs_281)
      clear O_272
      clear hs_281
      refine hK.out _ _ (HKC.out _ M_285.out) (fun hHeld_289 => ?_)
      clear hK K hHeld_277
      try simp only [Act.put, List.setIfInBounds_toArray, List.set_cons_zero, List.set_cons_succ]
      refine take_run 11 rfl (by kernel_rfl) (by rfl) (fun K hK => ?_)
      obtain ⟨q0, q1⟩ := M_287.out.one
      go_simp
      clear q0 q1
      have c_290 := Since.setCell c_284 (a := ⟨A_258, 0, none⟩) (by show w.heap.size ≤ A_258; omega) (.slice X_282o X_282n X_282c)
      have M_292 := Lib.hid (M_288.out.farT M_287.out (by decide) 0 (.slice X_282o X_282n X_282c))
      clear M_288
      have M_293 := Lib.hid (O_283.out.farT M_287.out (by decide) 0 (.slice X_282o X_282n X_282c))
      clear O_283
      have M_294 := Lib.hid (M_285.out.far (p := ⟨A_258, 0, none⟩) (by show w.heap.size ≠ A_258; omega) (.slice X_282o X_282n X_282c))
      clear M_285
      have M_295 := Lib.hid (M_286.out.far (p := ⟨A_258, 0, none⟩) (by show w.heap.size + 1 ≠ A_258; omega) (.slice X_282o X_282n X_282c))
      clear M_286
      have B_296 := Lib.hid (M_287.out.set 0 (.slice X_282o X_282n X_282c))
      clear M_287
      refine hK.out _ _ (HKC.out _ M_294.out) (fun hHeld_297 => ?_)
      clear hK K hHeld_289
      try simp only [Act.put, List.setIfInBounds_toArray, List.set_cons_zero, List.set_cons_succ]
      generalize q_278.setCell ⟨A_258, 0, none⟩ (.slice X_282o X_282n X_282c) = wS_291 at M_294 M_295 B_296 M_292 M_293 c_290 hHeld_297 ⊢
      refine wpAnyH_done (by kernel_rfl) ?_ _
      clear hHeld_297
      clear HKC ew1 ew2
      have B6 := B_296
      have R6 := M_295
      have O6 := M_293
      have c6 := c_290
      by_cases hz : lo = 0
      · have HD : Hid ((timT X (h + 1) lo.toNat).post = X.post ++ T2.post ++ [leafK 4] ++ [leafK 2] ++ [leafK 5]) := by unfold Hid; rw [HDT.out, if_pos hz]
        have hgz : ¬ ((0 : Int) < lo) := by omega
        clear hz
        go_upto_region 6 with fail
        have HKC : Hid (∀ w', Blk w' A_258 26 #[.slice X_282o X_282n X_282c] → w'.cell? ⟨A_258, 0, none⟩ = some (.slice X_282o X_282n X_282c)) := by
          intro w' hb0
          obtain ⟨r00, _⟩ := hb0.one
          exact r00
        refine wp_region_held_drew (S := (fun w' => w'.cell? ⟨A_258, 0, none⟩ = some (.slice X_282o X_282n X_282c))) (by kernel_rfl) (HKC.out _ (B6.out.drew)) (fun hHeld => ?_)
        refine take_yes 0 (some 24) (v := ?_) rfl (by kernel_rfl) (by kernel_rfl) (by kernel_rfl) (by kernel_rfl) (fun _ _ _ h => h) (by rfl) (by assumption) ?_ ?_
        rotate_left
        · (intro w' hSw; (try dsimp only at hSw); go_simp; try with_reducible rfl)
        try simp only [Act.put, List.setIfInBounds_toArray, List.set_cons_zero, List.set_cons_succ]
        refine take_yes 2 (some 26) (v := ?_) rfl (by kernel_rfl) (by kernel_rfl) (by kernel_rfl) (by kernel_rfl) (fun _ _ _ h => h) (by rfl) (by assumption) ?_ ?_
        rotate_left
        · (intro w' hSw; (try dsimp only at hSw); go_simp; try with_reducible rfl)
        try simp only [Act.put, List.setIfInBounds_toArray, List.set_cons_zero, List.set_cons_succ]
        refine take_run 1 rfl (by kernel_rfl) (by rfl) (fun K hK => ?_)
        have dr_303 : Since wS_291 wS_291.drew := (Since.refl _).drew
        have c_304 := Since.trans c6 dr_303
        have M_305 := Lib.hid (B6.out.since dr_303)
        clear B6
        have M_306 := Lib.hid (R6.out.since dr_303)
        clear R6
        have M_307 := Lib.hid (O6.out.since dr_303)
        clear O6
        clear dr_303
        go_simp
        refine (l8Leaf_any 2 _ (by decide)).mono ?_
        rintro en q_298 ⟨v_299, rfl, ⟨v_299b, rfl, ho_300, _⟩, hs_301⟩
        obtain ⟨f_302o, f_302n, f_302c, f_302N, rfl⟩ := ho_300.lenN
        have O_308 := Lib.hid (ho_300.mono (base' := w.heap.size) c_304.size)
        clear ho_300
        have c_309 := Since.trans c_304 hs_301
        have M_310 := Lib.hid (M_305.out.since hs_301)
        clear M_305
        have M_311 := Lib.hid (M_306.out.since hs_301)
        clear M_306
        have M_312 := Lib.hid (M_307.out.since hs_301)
        clear M_307
        clear hs_301
        refine hK.out _ _ (HKC.out _ M_310.out) (fun hHeld_313 => ?_)
        clear hK K hHeld
        try simp only [Act.put, List.setIfInBounds_toArray, List.set_cons_zero, List.set_cons_succ]
        refine take_run 3 rfl (by kernel_rfl) (by rfl) (fun K hK => ?_)
        go_simp
        refine (l8Join_any _ _ (X.post ++ T2.post ++ [leafK 4]) [leafK 2] (leafK 5) _ ⟨_, rfl, M_312.out.at⟩ ⟨_, rfl, O_308.out.at⟩ (leafK_in 5 (by decide)) (by have := HN.out; simp; omega) (by simp)).mono ?_
        rintro en q_314 ⟨v_315, rfl, ⟨v_315b, rfl, ho_316, _⟩, hs_317⟩
        obtain ⟨Z_318o, Z_318n, Z_318c, Z_318N, rfl⟩ := ho_316.lenN
        have O_319 := Lib.hid (ho_316.mono (base' := w.heap.size) c_309.size)
        clear ho_316
        have c_320 := Since.trans c_309 hs_317
        have M_321 := Lib.hid (M_310.out.since hs_317)
        clear M_310
        have M_322 := Lib.hid (M_311.out.since hs_317)
        clear M_311
        have M_323 := Lib.hid (M_312.out.since hs_317)
        clear M_312
        have M_324 := Lib.hid (O_308.out.since hs_317)
        clear O_308
        clear hs_317
        refine hK.out _ _ (HKC.out _ M_321.out) (fun hHeld_325 => ?_)
        clear hK K hHeld_313
        try simp only [Act.put, List.setIfInBounds_toArray, List.set_cons_zero, List.set_cons_succ]
        refine take_run 4 rfl (by kernel_rfl) (by rfl) (fun K hK => ?_)
        obtain ⟨q0, q1⟩ := M_322.out.one
        go_simp
        clear q0 q1
        have c_326 := Since.setCell c_320 (a := ⟨w.heap.size + 1, 0, none⟩) (by show w.heap.size ≤ w.heap.size + 1; omega) (.slice Z_318o Z_318n Z_318c)
        have M_328 := Lib.hid (M_323.out.farT M_322.out (by decide) 0 (.slice Z_318o Z_318n Z_318c))
        clear M_323
        have M_329 := Lib.hid (M_324.out.farT M_322.out (by decide) 0 (.slice Z_318o Z_318n Z_318c))
        clear M_324
        have M_330 := Lib.hid (O_319.out.farT M_322.out (by decide) 0 (.slice Z_318o Z_318n Z_318c))
        clear O_319
        have M_331 := Lib.hid (M_321.out.far (p := ⟨w.heap.size + 1, 0, none⟩) (by show A_258 ≠ w.heap.size + 1; omega) (.slice Z_318o Z_318n Z_318c))
        clear M_321
        have B_332 := Lib.hid (M_322.out.set 0 (.slice Z_318o Z_318n Z_318c))
        clear M_322
        refine hK.out _ _ (HKC.out _ M_331.out) (fun hHeld_333 => ?_)
        clear hK K hHeld_325
        try simp only [Act.put, List.setIfInBounds_toArray, List.set_cons_zero, List.set_cons_succ]
        generalize q_314.setCell ⟨w.heap.size + 1, 0, none⟩ (.slice Z_318o Z_318n Z_318c) = wS_327 at M_331 B_332 M_328 M_329 M_330 c_326 hHeld_333 ⊢
        refine wpAnyH_done (by kernel_rfl) ?_ _
        clear hHeld_333
        obtain ⟨r0, r1⟩ := B_332.out.one
        go_wp2_with fail
        refine bodyPost_ret (v := .agg #[.slice Z_318o Z_318n Z_318c]) (by simp [results, Tryd.results120, go_sem, *]) rfl ?_
        rw [HD.out]
        exact xout_mk M_330.out c_326
      · have HD : Hid ((timT X (h + 1) lo.toNat).post = X.post ++ T2.post ++ [leafK 4]) := by unfold Hid; rw [HDT.out, if_neg hz]
        have hgz : (0 : Int) < lo := by omega
        clear hz
        obtain ⟨p0, p1⟩ := B6.out.one
        obtain ⟨r0, r1⟩ := R6.out.one
        go_wp2_with fail
        refine bodyPost_ret (v := .agg #[.slice X_282o X_282n X_282c]) (by simp [results, Tryd.results120, go_sem, *]) rfl ?_
        rw [HD.out]
        exact xout_boxT O6.out c6 R6.out (by decide) (by omega) _
end Go.Proofs.YtblmiocjhbpklaaDoor
