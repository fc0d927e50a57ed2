/- Derivatives of trees, the model's: repetitions. -/
import Derived.Test.YtiojgahjfndmdaaDoorDrS0
namespace Go.Proofs.YtiojgahjfndmdaaDoor
set_option maxRecDepth 100000
open Go.ChangeShapes Go.WideShapes Go.ChangeAt Go.RowKit
set_option linter.unusedVariables false
set_option linter.unusedSimpArgs false


set_option maxHeartbeats 4000000 in
set_option maxRecDepth 100000 in
theorem derS_rep (c lr lo hi : Int) (l r : Tr) (hl : DerS c l) (hr : DerS c r) : DerS c (.node ⟨7, lr, lo, hi⟩ l r) := by
    obtain ⟨t, hte⟩ : ∃ t : Tok, t = ⟨7, lr, lo, hi⟩ := ⟨_, rfl⟩
    rw [← hte]
    intro ao n ac w hok ha hac hn hn4 hin
    have hn9 : n ≤ 1048577 := by omega
    obtain ⟨htok, hcase⟩ := hok
    have HA := Lib.hid ha
    obtain ⟨_, _, e0, HC⟩ := ha.row
    injection e0 with e1 e2 e3
    subst e1; subst e3
    clear e2 ha
    obtain ⟨q, hq⟩ : ∃ q, q = l.post.length := ⟨_, rfl⟩
    obtain ⟨m, hm⟩ : ∃ m, m = r.post.length := ⟨_, rfl⟩
    have hnn : n = q + m + 1 := by rw [hn, hq, hm, post_len, post_len]; rfl
    have hxl : (Tr.node t l r).post.length = q + m + 1 := by rw [hq, hm]; simp [Tr.post]; omega
    clear hn
    subst hnn
    have hxq : q + m < (Tr.node t l r).post.length := by omega
    have hxt : (Tr.node t l r).post[q + m] = t := by subst hq; subst hm; exact (last_post t l r).2
    have HQ := Lib.hid hq
    have HMM := Lib.hid hm
    clear hq hm
    have HTK1 : Hid ((Tr.node t l r).post.take (q + m) = l.post ++ r.post) := by unfold Hid; rw [show (Tr.node t l r).post = (l.post ++ r.post) ++ [t] from rfl]; exact List.take_left' (by rw [HQ.out, HMM.out, List.length_append])
    obtain ⟨b, off, rfl, hb, c0, c1, c2, c3⟩ := HC.out (q + m) hxq
    rw [hxt] at c0 c1 c2 c3
    have HTI : Hid (t.In) := by have hmem := List.getElem_mem hxq; rw [hxt] at hmem; exact hin t hmem
    have HINL : Hid (∀ x ∈ l.post, x.In) := fun x hx => hin x (by simp [Tr.post, hx])
    have HINR : Hid (∀ x ∈ r.post, x.In) := fun x hx => hin x (by simp [Tr.post, hx])
    clear hxt hin hxl
    have HTA : Hid (ToksAt w (.slice (some ⟨b, off, none⟩) (q + m) ac) (l.post ++ r.post)) := by
      unfold Hid; rw [← HTK1.out]; exact toks_takeO HA.out (by omega) _ _ (fun _ _ e => e)
    have hql : Hid (q = l.len) := by unfold Hid; rw [← post_len]; exact HQ.out
    have hmr : Hid (m = r.len) := by unfold Hid; rw [← post_len]; exact HMM.out
    have hkq : ((q + m : Nat) : Int) < ((q + m + 1 : Nat) : Int) := by omega
    have hk0 : (0 : Int) ≤ ((q + m : Nat) : Int) := by omega
    have hqa : q + m ≤ ac := by omega
    have hqai : (q : Int) + (m : Int) ≤ (ac : Int) := by omega
    have hqm0 : (0 : Int) ≤ (q : Int) + (m : Int) := by omega
    have hne : ¬ (ac = q + m) := by omega
    obtain ⟨y, hy⟩ : ∃ y, y = (w.alloc (.cells #[.slice none 0 0] 26)).alloc (.cells #[.int .i64 t.kd, .int .i64 t.lr, .int .i64 t.lo, .int .i64 t.hi] 65) := ⟨_, rfl⟩
    have hsy : Since w y := by rw [hy]; exact ((Since.refl w).alloc _).alloc _
    have BT : Hid (Blk y (w.heap.size + 1) 65 #[.int .i64 t.kd, .int .i64 t.lr, .int .i64 t.lo, .int .i64 t.hi]) := by rw [hy]; exact Blk.new (by simp) _ _
    have BR : Hid (Blk y w.heap.size 26 #[.slice none 0 0]) := by rw [hy]; exact (Blk.new rfl _ _).alloc _
    have hzy : w.heap.size + 2 ≤ y.heap.size := by rw [hy]; simp
    have HY := Lib.hid hy
    obtain ⟨d0, d1, d2, d3, _⟩ := BT.out.four
    rw [hy] at d0 d1 d2 d3
    clear hy
    subst hte
    have hk17 := okT_kd htok
    rw [opN_of] at hcase
    dsimp only at c0 c1 c2 c3 d0 d1 d2 d3 BT HTI HY
    have hll : q + m + 1 ≤ 400 := hn4
    · obtain ⟨hlo, rfl⟩ : l.ok ∧ r = .nil := by
        rcases hcase with ⟨h0, _⟩ | ⟨_, a, b⟩ | ⟨h2, _⟩
        · simp at h0
        · exact ⟨a, b⟩
        · simp at h2
      have hm0 : m = 0 := HMM.out
      have hlq : Hid (q + m = l.len) := by unfold Hid; rw [← post_len, hm0, HQ.out]; rfl
      have hdl : (derT c l).length ≤ 160000 := derT_400 c hlo (by have := hlq.out; omega)
      have HPL : Hid (l.post.length = q + m) := by unfold Hid; rw [hm0, HQ.out]; rfl
      clear hcase hm0
      have HT1 : Hid (ToksAt w (.slice (some ⟨b, off, none⟩) (q + m) ac) l.post) := by have := HTA.out; rwa [show l.post ++ Tr.nil.post = l.post from List.append_nil _] at this
      obtain ⟨k0, k1, k2, k3⟩ := okT_repD htok rfl
      dsimp only at k0 k1 k2 k3
      have HD : Hid (derT c (Tr.node ⟨7, lr, lo, hi⟩ l .nil) = catX (derT c l) (repX l.post (max 0 (lo - 1)) (hi - 1))) := by unfold Hid; simp [derT]
      go_enter Tryd.func81, Tryd.ntmps81
      go_upto_region 19 with fail
      rw [← HY.out]
      clear c0 c1 c2 c3 d0 d1 d2 d3
      have hyw2 := hsy
      have BT2 := BT
      have BR2 := BR
      have HMX : Hid ((if 1 < lo then lo - 1 else 0) = max 0 (lo - 1)) := by unfold Hid; split <;> omega
      have ew1 : IntKind.i64.wrap (lo - 1) = lo - 1 := by rw [IntKind.wrap_i64]; omega
      have ew2 : IntKind.i64.wrap (hi - 1) = hi - 1 := by rw [IntKind.wrap_i64]; omega
      have HKC : Hid (∀ w', Blk w' (w.heap.size + 1) 65 #[.int .i64 7, .int .i64 lr, .int .i64 lo, .int .i64 hi] → w'.cell? ⟨w.heap.size + 1, 0, none⟩ = some (.int .i64 7) ∧ w'.cell? ⟨w.heap.size + 1, 1, none⟩ = some (.int .i64 lr) ∧ w'.cell? ⟨w.heap.size + 1, 2, none⟩ = some (.int .i64 lo) ∧ w'.cell? ⟨w.heap.size + 1, 3, none⟩ = some (.int .i64 hi)) := by
        intro w' hb0
        obtain ⟨r00, r01, r02, r03, _⟩ := hb0.four
        exact ⟨r00, r01, r02, r03⟩
      refine wp_region_held_drew (S := (fun w' => w'.cell? ⟨w.heap.size + 1, 0, none⟩ = some (.int .i64 7) ∧ w'.cell? ⟨w.heap.size + 1, 1, none⟩ = some (.int .i64 lr) ∧ w'.cell? ⟨w.heap.size + 1, 2, none⟩ = some (.int .i64 lo) ∧ w'.cell? ⟨w.heap.size + 1, 3, none⟩ = some (.int .i64 hi))) (by kernel_rfl) (HKC.out _ (BT2.out.drew)) (fun hHeld => ?_)
      refine take_yes 0 (some 86) (v := ?_) rfl (by kernel_rfl) (by kernel_rfl) (by kernel_rfl) (by kernel_rfl) (fun _ _ _ h => h) (by rfl) (by assumption) ?_ ?_
      rotate_left
      · (intro w' hSw; (try dsimp only at hSw); go_simp; try with_reducible rfl)
      try simp only [Act.put, List.setIfInBounds_toArray, List.set_cons_zero, List.set_cons_succ]
      refine take_yes 1 (some 87) (v := ?_) rfl (by kernel_rfl) (by kernel_rfl) (by kernel_rfl) (by kernel_rfl) (fun _ _ _ h => h) (by rfl) (by assumption) ?_ ?_
      rotate_left
      · (intro w' hSw; (try dsimp only at hSw); go_simp; try with_reducible rfl)
      try simp only [Act.put, List.setIfInBounds_toArray, List.set_cons_zero, List.set_cons_succ]
      refine take_yes 2 (some 88) (v := ?_) rfl (by kernel_rfl) (by kernel_rfl) (by kernel_rfl) (by kernel_rfl) (fun _ _ _ h => h) (by rfl) (by assumption) ?_ ?_
      rotate_left
      · (intro w' hSw; (try dsimp only at hSw); go_simp; try with_reducible rfl)
      try simp only [Act.put, List.setIfInBounds_toArray, List.set_cons_zero, List.set_cons_succ]
      refine take_yes 3 (some 89) (v := ?_) rfl (by kernel_rfl) (by kernel_rfl) (by kernel_rfl) (by kernel_rfl) (fun _ _ _ h => h) (by rfl) (by assumption) ?_ ?_
      rotate_left
      · (intro w' hSw; (try dsimp only at hSw); go_simp; try with_reducible rfl)
      try simp only [Act.put, List.setIfInBounds_toArray, List.set_cons_zero, List.set_cons_succ]
      refine take_yes 5 (some 91) (v := ?_) rfl (by kernel_rfl) (by kernel_rfl) (by kernel_rfl) (by kernel_rfl) (fun _ _ _ h => h) (by rfl) (by assumption) ?_ ?_
      rotate_left
      · (intro w' hSw; (try dsimp only at hSw); go_simp; try with_reducible rfl)
      try simp only [Act.put, List.setIfInBounds_toArray, List.set_cons_zero, List.set_cons_succ]
      refine take_yes 6 (some 92) (v := ?_) rfl (by kernel_rfl) (by kernel_rfl) (by kernel_rfl) (by kernel_rfl) (fun _ _ _ h => h) (by rfl) (by assumption) ?_ ?_
      rotate_left
      · (intro w' hSw; (try dsimp only at hSw); go_simp; try with_reducible rfl)
      try simp only [Act.put, List.setIfInBounds_toArray, List.set_cons_zero, List.set_cons_succ]
      refine take_yes 7 (some 93) (v := ?_) rfl (by kernel_rfl) (by kernel_rfl) (by kernel_rfl) (by kernel_rfl) (fun _ _ _ h => h) (by rfl) (by assumption) ?_ ?_
      rotate_left
      · (intro w' hSw; (try dsimp only at hSw); go_simp; try with_reducible rfl)
      try simp only [Act.put, List.setIfInBounds_toArray, List.set_cons_zero, List.set_cons_succ]
      refine take_yes 8 (some 94) (v := ?_) rfl (by kernel_rfl) (by kernel_rfl) (by kernel_rfl) (by kernel_rfl) (fun _ _ _ h => h) (by rfl) (by assumption) ?_ ?_
      rotate_left
      · (intro w' hSw; (try dsimp only at hSw); go_simp; try with_reducible rfl)
      try simp only [Act.put, List.setIfInBounds_toArray, List.set_cons_zero, List.set_cons_succ]
      refine take_yes 9 (some 95) (v := ?_) rfl (by kernel_rfl) (by kernel_rfl) (by kernel_rfl) (by kernel_rfl) (fun _ _ _ h => h) (by rfl) (by assumption) ?_ ?_
      rotate_left
      · (intro w' hSw; (try dsimp only at hSw); go_simp; try with_reducible rfl)
      try simp only [Act.put, List.setIfInBounds_toArray, List.set_cons_zero, List.set_cons_succ]
      refine take_yes 10 (some 96) (v := ?_) rfl (by kernel_rfl) (by kernel_rfl) (by kernel_rfl) (by kernel_rfl) (fun _ _ _ h => h) (by rfl) (by assumption) ?_ ?_
      rotate_left
      · (intro w' hSw; (try dsimp only at hSw); go_simp; try with_reducible rfl)
      try simp only [Act.put, List.setIfInBounds_toArray, List.set_cons_zero, List.set_cons_succ]
      refine take_yes 11 (some 97) (v := ?_) rfl (by kernel_rfl) (by kernel_rfl) (by kernel_rfl) (by kernel_rfl) (fun _ _ _ h => h) (by rfl) (by assumption) ?_ ?_
      rotate_left
      · (intro w' hSw; (try dsimp only at hSw); go_simp; try with_reducible rfl)
      try simp only [Act.put, List.setIfInBounds_toArray, List.set_cons_zero, List.set_cons_succ]
      refine take_yes 13 (some 99) (v := ?_) rfl (by kernel_rfl) (by kernel_rfl) (by kernel_rfl) (by kernel_rfl) (fun _ _ _ h => h) (by rfl) (by assumption) ?_ ?_
      rotate_left
      · (intro w' hSw; (try dsimp only at hSw); go_simp; try with_reducible rfl)
      try simp only [Act.put, List.setIfInBounds_toArray, List.set_cons_zero, List.set_cons_succ]
      refine take_yes 14 (some 100) (v := ?_) rfl (by kernel_rfl) (by kernel_rfl) (by kernel_rfl) (by kernel_rfl) (fun _ _ _ h => h) (by rfl) (by assumption) ?_ ?_
      rotate_left
      · (intro w' hSw; (try dsimp only at hSw); go_simp; try with_reducible rfl)
      try simp only [Act.put, List.setIfInBounds_toArray, List.set_cons_zero, List.set_cons_succ]
      refine take_yes 15 (some 101) (v := ?_) rfl (by kernel_rfl) (by kernel_rfl) (by kernel_rfl) (by kernel_rfl) (fun _ _ _ h => h) (by rfl) (by assumption) ?_ ?_
      rotate_left
      · (intro w' hSw; (try dsimp only at hSw); go_simp; try with_reducible rfl)
      try simp only [Act.put, List.setIfInBounds_toArray, List.set_cons_zero, List.set_cons_succ]
      refine take_two 4 12 rfl rfl (by kernel_rfl) (by rfl) (by rfl) (fun K hK => ?_) (fun K hK => ?_)
      · skip
        have dr_270 : Since y y.drew := (Since.refl _).drew
        have c_271 := Since.trans hsy dr_270
        have M_272 := Lib.hid (BT2.out.since dr_270)
        clear BT2
        have M_273 := Lib.hid (BR2.out.since dr_270)
        clear BR2
        clear dr_270
        go_simp
        try rw [show ((q : Int) + (m : Int)).toNat - q = m from by omega]
        try rw [show ((q : Int) + (m : Int)).toNat = q + m from by omega]
        refine (hl (some ⟨b, off, none⟩) (q + m) ac _ hlo (HT1.out.since c_271) (by omega) hlq.out (by omega) HINL.out).mono ?_
        rintro en q_265 ⟨v_266, rfl, ⟨v_266b, rfl, ho_267, _⟩, hs_268⟩
        obtain ⟨u_269o, u_269n, u_269c, u_269N, rfl⟩ := ho_267.lenN
        have O_274 := Lib.hid (ho_267.mono (base' := w.heap.size) c_271.size)
        clear ho_267
        have c_275 := Since.trans c_271 hs_268
        have M_276 := Lib.hid (M_272.out.since hs_268)
        clear M_272
        have M_277 := Lib.hid (M_273.out.since hs_268)
        clear M_273
        clear hs_268
        refine hK.out _ _ (HKC.out _ M_276.out) (fun hHeld_278 => ?_)
        clear hK K hHeld
        try simp only [Act.put, List.setIfInBounds_toArray, List.set_cons_zero, List.set_cons_succ]
        refine take_run 12 rfl (by kernel_rfl) (by rfl) (fun K hK => ?_)
        go_simp
        refine hK.out _ _ (HKC.out _ M_276.out) (fun hHeld_279 => ?_)
        clear hK K hHeld_278
        try simp only [Act.put, List.setIfInBounds_toArray, List.set_cons_zero, List.set_cons_succ]
        refine take_run 16 rfl (by kernel_rfl) (by rfl) (fun K hK => ?_)
        go_simp
        try rw [show ((q : Int) + (m : Int)).toNat - q = m from by omega]
        try rw [show ((q : Int) + (m : Int)).toNat = q + m from by omega]
        rw [HMX.out]
        refine (specPE8_any _ l.post (max 0 (lo - 1)) (hi - 1) _ ⟨_, rfl, (HT1.out.since c_275)⟩ (by have := HPL.out; omega) (by unfold InI; omega) (by unfold InI; omega)).mono ?_
        rintro en q_280 ⟨v_281, rfl, ⟨v_281b, rfl, ho_282, _⟩, hs_283⟩
        obtain ⟨p_284o, p_284n, p_284c, p_284N, rfl⟩ := ho_282.lenN
        have O_285 := Lib.hid (ho_282.mono (base' := w.heap.size) c_275.size)
        clear ho_282
        have c_286 := Since.trans c_275 hs_283
        have M_287 := Lib.hid (M_276.out.since hs_283)
        clear M_276
        have M_288 := Lib.hid (M_277.out.since hs_283)
        clear M_277
        have M_289 := Lib.hid (O_274.out.since hs_283)
        clear O_274
        clear hs_283
        refine hK.out _ _ (HKC.out _ M_287.out) (fun hHeld_290 => ?_)
        clear hK K hHeld_279
        try simp only [Act.put, List.setIfInBounds_toArray, List.set_cons_zero, List.set_cons_succ]
        refine take_run 17 rfl (by kernel_rfl) (by rfl) (fun K hK => ?_)
        go_simp
        refine (specCE_any _ _ (derT c l) (repX l.post (max 0 (lo - 1)) (hi - 1)) _ ⟨_, rfl, M_289.out.at⟩ ⟨_, rfl, O_285.out.at⟩ (by omega) (by have := repX_len l.post (max 0 (lo - 1)) (hi - 1); have := HPL.out; omega)).mono ?_
        rintro en q_291 ⟨v_292, rfl, ⟨v_292b, rfl, ho_293, _⟩, hs_294⟩
        obtain ⟨Z_295o, Z_295n, Z_295c, Z_295N, rfl⟩ := ho_293.lenN
        have O_296 := Lib.hid (ho_293.mono (base' := w.heap.size) c_286.size)
        clear ho_293
        have c_297 := Since.trans c_286 hs_294
        have M_298 := Lib.hid (M_287.out.since hs_294)
        clear M_287
        have M_299 := Lib.hid (M_288.out.since hs_294)
        clear M_288
        have M_300 := Lib.hid (M_289.out.since hs_294)
        clear M_289
        have M_301 := Lib.hid (O_285.out.since hs_294)
        clear O_285
        clear hs_294
        refine hK.out _ _ (HKC.out _ M_298.out) (fun hHeld_302 => ?_)
        clear hK K hHeld_290
        try simp only [Act.put, List.setIfInBounds_toArray, List.set_cons_zero, List.set_cons_succ]
        refine take_run 18 rfl (by kernel_rfl) (by rfl) (fun K hK => ?_)
        obtain ⟨q0, q1⟩ := M_299.out.one
        go_simp
        clear q0 q1
        have c_303 := Since.setCell c_297 (a := ⟨w.heap.size, 0, none⟩) (by show w.heap.size ≤ w.heap.size; omega) (.slice Z_295o Z_295n Z_295c)
        have M_305 := Lib.hid (M_300.out.farT M_299.out (by decide) 0 (.slice Z_295o Z_295n Z_295c))
        clear M_300
        have M_306 := Lib.hid (M_301.out.farT M_299.out (by decide) 0 (.slice Z_295o Z_295n Z_295c))
        clear M_301
        have M_307 := Lib.hid (O_296.out.farT M_299.out (by decide) 0 (.slice Z_295o Z_295n Z_295c))
        clear O_296
        have M_308 := Lib.hid (M_298.out.far (p := ⟨w.heap.size, 0, none⟩) (by show w.heap.size + 1 ≠ w.heap.size; omega) (.slice Z_295o Z_295n Z_295c))
        clear M_298
        have B_309 := Lib.hid (M_299.out.set 0 (.slice Z_295o Z_295n Z_295c))
        clear M_299
        refine hK.out _ _ (HKC.out _ M_308.out) (fun hHeld_310 => ?_)
        clear hK K hHeld_302
        try simp only [Act.put, List.setIfInBounds_toArray, List.set_cons_zero, List.set_cons_succ]
        generalize q_291.setCell ⟨w.heap.size, 0, none⟩ (.slice Z_295o Z_295n Z_295c) = wS_304 at M_308 B_309 M_305 M_306 M_307 c_303 hHeld_310 ⊢
        refine wpAnyH_done (by kernel_rfl) ?_ _
        clear hHeld_310
        obtain ⟨r0, r1⟩ := B_309.out.one
        go_wp2
        refine bodyPost_ret (v := .agg #[.slice Z_295o Z_295n Z_295c]) (by simp [results, Tryd.results81, go_sem, *]) rfl ?_
        rw [HD.out]
        exact xout_mk M_307.out c_303
      · skip
        have dr_311 : Since y y.drew := (Since.refl _).drew
        have c_312 := Since.trans hsy dr_311
        have M_313 := Lib.hid (BT2.out.since dr_311)
        clear BT2
        have M_314 := Lib.hid (BR2.out.since dr_311)
        clear BR2
        clear dr_311
        go_simp
        refine hK.out _ _ (HKC.out _ M_313.out) (fun hHeld_315 => ?_)
        clear hK K hHeld
        try simp only [Act.put, List.setIfInBounds_toArray, List.set_cons_zero, List.set_cons_succ]
        refine take_run 4 rfl (by kernel_rfl) (by rfl) (fun K hK => ?_)
        go_simp
        try rw [show ((q : Int) + (m : Int)).toNat - q = m from by omega]
        try rw [show ((q : Int) + (m : Int)).toNat = q + m from by omega]
        refine (hl (some ⟨b, off, none⟩) (q + m) ac _ hlo (HT1.out.since c_312) (by omega) hlq.out (by omega) HINL.out).mono ?_
        rintro en q_316 ⟨v_317, rfl, ⟨v_317b, rfl, ho_318, _⟩, hs_319⟩
        obtain ⟨u_320o, u_320n, u_320c, u_320N, rfl⟩ := ho_318.lenN
        have O_321 := Lib.hid (ho_318.mono (base' := w.heap.size) c_312.size)
        clear ho_318
        have c_322 := Since.trans c_312 hs_319
        have M_323 := Lib.hid (M_313.out.since hs_319)
        clear M_313
        have M_324 := Lib.hid (M_314.out.since hs_319)
        clear M_314
        clear hs_319
        refine hK.out _ _ (HKC.out _ M_323.out) (fun hHeld_325 => ?_)
        clear hK K hHeld_315
        try simp only [Act.put, List.setIfInBounds_toArray, List.set_cons_zero, List.set_cons_succ]
        refine take_run 16 rfl (by kernel_rfl) (by rfl) (fun K hK => ?_)
        go_simp
        try rw [show ((q : Int) + (m : Int)).toNat - q = m from by omega]
        try rw [show ((q : Int) + (m : Int)).toNat = q + m from by omega]
        rw [HMX.out]
        refine (specPE8_any _ l.post (max 0 (lo - 1)) (hi - 1) _ ⟨_, rfl, (HT1.out.since c_322)⟩ (by have := HPL.out; omega) (by unfold InI; omega) (by unfold InI; omega)).mono ?_
        rintro en q_326 ⟨v_327, rfl, ⟨v_327b, rfl, ho_328, _⟩, hs_329⟩
        obtain ⟨p_330o, p_330n, p_330c, p_330N, rfl⟩ := ho_328.lenN
        have O_331 := Lib.hid (ho_328.mono (base' := w.heap.size) c_322.size)
        clear ho_328
        have c_332 := Since.trans c_322 hs_329
        have M_333 := Lib.hid (M_323.out.since hs_329)
        clear M_323
        have M_334 := Lib.hid (M_324.out.since hs_329)
        clear M_324
        have M_335 := Lib.hid (O_321.out.since hs_329)
        clear O_321
        clear hs_329
        refine hK.out _ _ (HKC.out _ M_333.out) (fun hHeld_336 => ?_)
        clear hK K hHeld_325
        try simp only [Act.put, List.setIfInBounds_toArray, List.set_cons_zero, List.set_cons_succ]
        refine take_run 17 rfl (by kernel_rfl) (by rfl) (fun K hK => ?_)
        go_simp
        refine (specCE_any _ _ (derT c l) (repX l.post (max 0 (lo - 1)) (hi - 1)) _ ⟨_, rfl, M_335.out.at⟩ ⟨_, rfl, O_331.out.at⟩ (by omega) (by have := repX_len l.post (max 0 (lo - 1)) (hi - 1); have := HPL.out; omega)).mono ?_
        rintro en q_337 ⟨v_338, rfl, ⟨v_338b, rfl, ho_339, _⟩, hs_340⟩
        obtain ⟨Z_341o, Z_341n, Z_341c, Z_341N, rfl⟩ := ho_339.lenN
        have O_342 := Lib.hid (ho_339.mono (base' := w.heap.size) c_332.size)
        clear ho_339
        have c_343 := Since.trans c_332 hs_340
        have M_344 := Lib.hid (M_333.out.since hs_340)
        clear M_333
        have M_345 := Lib.hid (M_334.out.since hs_340)
        clear M_334
        have M_346 := Lib.hid (M_335.out.since hs_340)
        clear M_335
        have M_347 := Lib.hid (O_331.out.since hs_340)
        clear O_331
        clear hs_340
        refine hK.out _ _ (HKC.out _ M_344.out) (fun hHeld_348 => ?_)
        clear hK K hHeld_336
        try simp only [Act.put, List.setIfInBounds_toArray, List.set_cons_zero, List.set_cons_succ]
        refine take_run 18 rfl (by kernel_rfl) (by rfl) (fun K hK => ?_)
        obtain ⟨q0, q1⟩ := M_345.out.one
        go_simp
        clear q0 q1
        have c_349 := Since.setCell c_343 (a := ⟨w.heap.size, 0, none⟩) (by show w.heap.size ≤ w.heap.size; omega) (.slice Z_341o Z_341n Z_341c)
        have M_351 := Lib.hid (M_346.out.farT M_345.out (by decide) 0 (.slice Z_341o Z_341n Z_341c))
        clear M_346
        have M_352 := Lib.hid (M_347.out.farT M_345.out (by decide) 0 (.slice Z_341o Z_341n Z_341c))
        clear M_347
        have M_353 := Lib.hid (O_342.out.farT M_345.out (by decide) 0 (.slice Z_341o Z_341n Z_341c))
        clear O_342
        have M_354 := Lib.hid (M_344.out.far (p := ⟨w.heap.size, 0, none⟩) (by show w.heap.size + 1 ≠ w.heap.size; omega) (.slice Z_341o Z_341n Z_341c))
        clear M_344
        have B_355 := Lib.hid (M_345.out.set 0 (.slice Z_341o Z_341n Z_341c))
        clear M_345
        refine hK.out _ _ (HKC.out _ M_354.out) (fun hHeld_356 => ?_)
        clear hK K hHeld_348
        try simp only [Act.put, List.setIfInBounds_toArray, List.set_cons_zero, List.set_cons_succ]
        generalize q_337.setCell ⟨w.heap.size, 0, none⟩ (.slice Z_341o Z_341n Z_341c) = wS_350 at M_354 B_355 M_351 M_352 M_353 c_349 hHeld_356 ⊢
        refine wpAnyH_done (by kernel_rfl) ?_ _
        clear hHeld_356
        obtain ⟨r0, r1⟩ := B_355.out.one
        go_wp2
        refine bodyPost_ret (v := .agg #[.slice Z_341o Z_341n Z_341c]) (by simp [results, Tryd.results81, go_sem, *]) rfl ?_
        rw [HD.out]
        exact xout_mk M_353.out c_349
end Go.Proofs.YtiojgahjfndmdaaDoor
