/- Derivatives of trees, the model's: unions. -/
import Derived.Test.YtiojgahjfndmdaaDoorDrS0
namespace Go.Proofs.YtiojgahjfndmdaaDoor
set_option maxRecDepth 100000
open Go.ChangeShapes Go.WideShapes Go.ChangeAt Go.RowKit
set_option linter.unusedVariables false
set_option linter.unusedSimpArgs false


set_option maxHeartbeats 4000000 in
set_option maxRecDepth 100000 in
theorem derS_uni (c lr lo hi : Int) (l r : Tr) (hl : DerS c l) (hr : DerS c r) : DerS c (.node ⟨5, lr, lo, hi⟩ l r) := by
    obtain ⟨t, hte⟩ : ∃ t : Tok, t = ⟨5, lr, lo, hi⟩ := ⟨_, rfl⟩
    rw [← hte]
    intro ao n ac w hok ha hac hn hn4 hin
    have hn9 : n ≤ 1048577 := by omega
    obtain ⟨htok, hcase⟩ := hok
    have HA := Lib.hid ha
    obtain ⟨_, _, e0, HC⟩ := ha.row
    injection e0 with e1 e2 e3
    subst e1; subst e3
    clear e2 ha
    obtain ⟨q, hq⟩ : ∃ q, q = l.post.length := ⟨_, rfl⟩
    obtain ⟨m, hm⟩ : ∃ m, m = r.post.length := ⟨_, rfl⟩
    have hnn : n = q + m + 1 := by rw [hn, hq, hm, post_len, post_len]; rfl
    have hxl : (Tr.node t l r).post.length = q + m + 1 := by rw [hq, hm]; simp [Tr.post]; omega
    clear hn
    subst hnn
    have hxq : q + m < (Tr.node t l r).post.length := by omega
    have hxt : (Tr.node t l r).post[q + m] = t := by subst hq; subst hm; exact (last_post t l r).2
    have HQ := Lib.hid hq
    have HMM := Lib.hid hm
    clear hq hm
    have HTK1 : Hid ((Tr.node t l r).post.take (q + m) = l.post ++ r.post) := by unfold Hid; rw [show (Tr.node t l r).post = (l.post ++ r.post) ++ [t] from rfl]; exact List.take_left' (by rw [HQ.out, HMM.out, List.length_append])
    obtain ⟨b, off, rfl, hb, c0, c1, c2, c3⟩ := HC.out (q + m) hxq
    rw [hxt] at c0 c1 c2 c3
    have HTI : Hid (t.In) := by have hmem := List.getElem_mem hxq; rw [hxt] at hmem; exact hin t hmem
    have HINL : Hid (∀ x ∈ l.post, x.In) := fun x hx => hin x (by simp [Tr.post, hx])
    have HINR : Hid (∀ x ∈ r.post, x.In) := fun x hx => hin x (by simp [Tr.post, hx])
    clear hxt hin hxl
    have HTA : Hid (ToksAt w (.slice (some ⟨b, off, none⟩) (q + m) ac) (l.post ++ r.post)) := by
      unfold Hid; rw [← HTK1.out]; exact toks_takeO HA.out (by omega) _ _ (fun _ _ e => e)
    have hql : Hid (q = l.len) := by unfold Hid; rw [← post_len]; exact HQ.out
    have hmr : Hid (m = r.len) := by unfold Hid; rw [← post_len]; exact HMM.out
    have hkq : ((q + m : Nat) : Int) < ((q + m + 1 : Nat) : Int) := by omega
    have hk0 : (0 : Int) ≤ ((q + m : Nat) : Int) := by omega
    have hqa : q + m ≤ ac := by omega
    have hqai : (q : Int) + (m : Int) ≤ (ac : Int) := by omega
    have hqm0 : (0 : Int) ≤ (q : Int) + (m : Int) := by omega
    have hne : ¬ (ac = q + m) := by omega
    obtain ⟨y, hy⟩ : ∃ y, y = (w.alloc (.cells #[.slice none 0 0] 26)).alloc (.cells #[.int .i64 t.kd, .int .i64 t.lr, .int .i64 t.lo, .int .i64 t.hi] 65) := ⟨_, rfl⟩
    have hsy : Since w y := by rw [hy]; exact ((Since.refl w).alloc _).alloc _
    have BT : Hid (Blk y (w.heap.size + 1) 65 #[.int .i64 t.kd, .int .i64 t.lr, .int .i64 t.lo, .int .i64 t.hi]) := by rw [hy]; exact Blk.new (by simp) _ _
    have BR : Hid (Blk y w.heap.size 26 #[.slice none 0 0]) := by rw [hy]; exact (Blk.new rfl _ _).alloc _
    have hzy : w.heap.size + 2 ≤ y.heap.size := by rw [hy]; simp
    have HY := Lib.hid hy
    obtain ⟨d0, d1, d2, d3, _⟩ := BT.out.four
    rw [hy] at d0 d1 d2 d3
    clear hy
    subst hte
    have hk17 := okT_kd htok
    rw [opN_of] at hcase
    dsimp only at c0 c1 c2 c3 d0 d1 d2 d3 BT HTI HY
    have hll : q + m + 1 ≤ 400 := hn4
    · obtain ⟨hlo, hro⟩ : l.ok ∧ r.ok := by
        rcases hcase with ⟨h0, _⟩ | ⟨h1, _⟩ | ⟨_, a, b⟩
        · simp at h0
        · simp at h1
        · exact ⟨a, b⟩
      have hdl : (derT c l).length ≤ 160000 := derT_400 c hlo (by have := hql.out; omega)
      have hdr : (derT c r).length ≤ 160000 := derT_400 c hro (by have := hmr.out; omega)
      have HPL : Hid (l.post.length = q) := HQ.out.symm
      have HPR : Hid (r.post.length = m) := HMM.out.symm
      have HSC : Hid (Scan (l.post ++ r.post) l.post.length (l.post ++ r.post).length 1) := scan_two l.post r hro
      have hmp : 0 < m := by rw [HMM.out]; exact post_pos hro
      clear hcase
      have HD : Hid (derT c (Tr.node ⟨5, lr, lo, hi⟩ l r) = uniX (derT c l) (derT c r)) := by unfold Hid; simp [derT]
      have hne2 : ¬ (ac = q) := by omega
      have hqac : q ≤ ac := by omega
      have hqaci : (q : Int) ≤ (ac : Int) := by omega
      have hqmi : (q : Int) ≤ (q : Int) + (m : Int) := by omega
      have hqma : (q : Int) + (m : Int) ≤ (ac : Int) := by omega
      have hq0 : (0 : Int) ≤ (q : Int) := by omega
      have HT1 : Hid (ToksAt w (.slice (some ⟨b, off, none⟩) q ac) l.post) := by
        have := toks_takeO HTA.out (k := q) (by omega) (some ⟨b, off, none⟩) ac (fun _ _ e => e)
        rwa [show (l.post ++ r.post).take q = l.post from List.take_left' HQ.out.symm] at this
      have HT2 : Hid (ToksAt w (.slice (some ⟨b, off + q * 4, none⟩) m (ac - q)) r.post) := by
        have := toks_dropO HTA.out (k := q) (by omega) (some ⟨b, off + q * 4, none⟩) m (ac - q) (by omega) (fun _ b1 o1 e => by injection e with e; injection e with e1 e2; rw [e1, e2])
        rwa [show (l.post ++ r.post).drop q = r.post from List.drop_left' HQ.out.symm] at this
      go_enter Tryd.func81, Tryd.ntmps81
      go_wp2_with fail
      rw [← HY.out]
      clear c0 c1 c2 c3 d0 d1 d2 d3
      refine (l8Start_any _ (l.post ++ r.post) l.post.length _ (HTA.out.since hsy) HSC.out (by rw [List.length_append, ← HQ.out, ← HMM.out]; omega)).mono ?_
      rintro e w2 ⟨rfl, hs2⟩
      rw [← HQ.out]
      have hyw2 := hsy.trans hs2
      have BT2 := Lib.hid (BT.out.since hs2)
      have BR2 := Lib.hid (BR.out.since hs2)
      have hz2 : w.heap.size + 2 ≤ w2.heap.size := Nat.le_trans hzy hs2.size
      clear BT BR hs2
      go_upto_region 15 with fail
      have HKC : Hid (∀ w', Blk w' (w.heap.size + 1) 65 #[.int .i64 5, .int .i64 lr, .int .i64 lo, .int .i64 hi] → w'.cell? ⟨w.heap.size + 1, 0, none⟩ = some (.int .i64 5) ∧ w'.cell? ⟨w.heap.size + 1, 1, none⟩ = some (.int .i64 lr) ∧ w'.cell? ⟨w.heap.size + 1, 2, none⟩ = some (.int .i64 lo) ∧ w'.cell? ⟨w.heap.size + 1, 3, none⟩ = some (.int .i64 hi)) := by
        intro w' hb0
        obtain ⟨r00, r01, r02, r03, _⟩ := hb0.four
        exact ⟨r00, r01, r02, r03⟩
      refine wp_region_held_drew (S := (fun w' => w'.cell? ⟨w.heap.size + 1, 0, none⟩ = some (.int .i64 5) ∧ w'.cell? ⟨w.heap.size + 1, 1, none⟩ = some (.int .i64 lr) ∧ w'.cell? ⟨w.heap.size + 1, 2, none⟩ = some (.int .i64 lo) ∧ w'.cell? ⟨w.heap.size + 1, 3, none⟩ = some (.int .i64 hi))) (by kernel_rfl) (HKC.out _ (BT2.out.drew)) (fun hHeld => ?_)
      refine take_yes 0 (some 62) (v := ?_) rfl (by kernel_rfl) (by kernel_rfl) (by kernel_rfl) (by kernel_rfl) (fun _ _ _ h => h) (by rfl) (by assumption) ?_ ?_
      rotate_left
      · (intro w' hSw; (try dsimp only at hSw); go_simp; try with_reducible rfl)
      try simp only [Act.put, List.setIfInBounds_toArray, List.set_cons_zero, List.set_cons_succ]
      refine take_yes 1 (some 63) (v := ?_) rfl (by kernel_rfl) (by kernel_rfl) (by kernel_rfl) (by kernel_rfl) (fun _ _ _ h => h) (by rfl) (by assumption) ?_ ?_
      rotate_left
      · (intro w' hSw; (try dsimp only at hSw); go_simp; try with_reducible rfl)
      try simp only [Act.put, List.setIfInBounds_toArray, List.set_cons_zero, List.set_cons_succ]
      refine take_yes 2 (some 64) (v := ?_) rfl (by kernel_rfl) (by kernel_rfl) (by kernel_rfl) (by kernel_rfl) (fun _ _ _ h => h) (by rfl) (by assumption) ?_ ?_
      rotate_left
      · (intro w' hSw; (try dsimp only at hSw); go_simp; try with_reducible rfl)
      try simp only [Act.put, List.setIfInBounds_toArray, List.set_cons_zero, List.set_cons_succ]
      refine take_yes 3 (some 65) (v := ?_) rfl (by kernel_rfl) (by kernel_rfl) (by kernel_rfl) (by kernel_rfl) (fun _ _ _ h => h) (by rfl) (by assumption) ?_ ?_
      rotate_left
      · (intro w' hSw; (try dsimp only at hSw); go_simp; try with_reducible rfl)
      try simp only [Act.put, List.setIfInBounds_toArray, List.set_cons_zero, List.set_cons_succ]
      refine take_yes 5 (some 67) (v := ?_) rfl (by kernel_rfl) (by kernel_rfl) (by kernel_rfl) (by kernel_rfl) (fun _ _ _ h => h) (by rfl) (by assumption) ?_ ?_
      rotate_left
      · (intro w' hSw; (try dsimp only at hSw); go_simp; try with_reducible rfl)
      try simp only [Act.put, List.setIfInBounds_toArray, List.set_cons_zero, List.set_cons_succ]
      refine take_yes 6 (some 68) (v := ?_) rfl (by kernel_rfl) (by kernel_rfl) (by kernel_rfl) (by kernel_rfl) (fun _ _ _ h => h) (by rfl) (by assumption) ?_ ?_
      rotate_left
      · (intro w' hSw; (try dsimp only at hSw); go_simp; try with_reducible rfl)
      try simp only [Act.put, List.setIfInBounds_toArray, List.set_cons_zero, List.set_cons_succ]
      refine take_yes 7 (some 69) (v := ?_) rfl (by kernel_rfl) (by kernel_rfl) (by kernel_rfl) (by kernel_rfl) (fun _ _ _ h => h) (by rfl) (by assumption) ?_ ?_
      rotate_left
      · (intro w' hSw; (try dsimp only at hSw); go_simp; try with_reducible rfl)
      try simp only [Act.put, List.setIfInBounds_toArray, List.set_cons_zero, List.set_cons_succ]
      refine take_yes 8 (some 70) (v := ?_) rfl (by kernel_rfl) (by kernel_rfl) (by kernel_rfl) (by kernel_rfl) (fun _ _ _ h => h) (by rfl) (by assumption) ?_ ?_
      rotate_left
      · (intro w' hSw; (try dsimp only at hSw); go_simp; try with_reducible rfl)
      try simp only [Act.put, List.setIfInBounds_toArray, List.set_cons_zero, List.set_cons_succ]
      refine take_yes 9 (some 71) (v := ?_) rfl (by kernel_rfl) (by kernel_rfl) (by kernel_rfl) (by kernel_rfl) (fun _ _ _ h => h) (by rfl) (by assumption) ?_ ?_
      rotate_left
      · (intro w' hSw; (try dsimp only at hSw); go_simp; try with_reducible rfl)
      try simp only [Act.put, List.setIfInBounds_toArray, List.set_cons_zero, List.set_cons_succ]
      refine take_run 4 rfl (by kernel_rfl) (by rfl) (fun K hK => ?_)
      have dr_225 : Since w2 w2.drew := (Since.refl _).drew
      have c_226 := Since.trans hyw2 dr_225
      have M_227 := Lib.hid (BT2.out.since dr_225)
      clear BT2
      have M_228 := Lib.hid (BR2.out.since dr_225)
      clear BR2
      clear dr_225
      go_simp
      refine (hl (some ⟨b, off, none⟩) q ac _ hlo (HT1.out.since c_226) (by omega) hql.out (by omega) HINL.out).mono ?_
      rintro en q_220 ⟨v_221, rfl, ⟨v_221b, rfl, ho_222, _⟩, hs_223⟩
      obtain ⟨u_224o, u_224n, u_224c, u_224N, rfl⟩ := ho_222.lenN
      have O_229 := Lib.hid (ho_222.mono (base' := w.heap.size) c_226.size)
      clear ho_222
      have c_230 := Since.trans c_226 hs_223
      have M_231 := Lib.hid (M_227.out.since hs_223)
      clear M_227
      have M_232 := Lib.hid (M_228.out.since hs_223)
      clear M_228
      clear hs_223
      refine hK.out _ _ (HKC.out _ M_231.out) (fun hHeld_233 => ?_)
      clear hK K hHeld
      try simp only [Act.put, List.setIfInBounds_toArray, List.set_cons_zero, List.set_cons_succ]
      refine take_run 10 rfl (by kernel_rfl) (by rfl) (fun K hK => ?_)
      go_simp
      try rw [show ((q : Int) + (m : Int)).toNat - q = m from by omega]
      try rw [show ((q : Int) + (m : Int)).toNat = q + m from by omega]
      refine (hr (some ⟨b, off + q * 4, none⟩) m (ac - q) _ hro (HT2.out.since c_230) (by omega) hmr.out (by omega) HINR.out).mono ?_
      rintro en q_234 ⟨v_235, rfl, ⟨v_235b, rfl, ho_236, _⟩, hs_237⟩
      obtain ⟨x_238o, x_238n, x_238c, x_238N, rfl⟩ := ho_236.lenN
      have O_239 := Lib.hid (ho_236.mono (base' := w.heap.size) c_230.size)
      clear ho_236
      have c_240 := Since.trans c_230 hs_237
      have M_241 := Lib.hid (M_231.out.since hs_237)
      clear M_231
      have M_242 := Lib.hid (M_232.out.since hs_237)
      clear M_232
      have M_243 := Lib.hid (O_229.out.since hs_237)
      clear O_229
      clear hs_237
      refine hK.out _ _ (HKC.out _ M_241.out) (fun hHeld_244 => ?_)
      clear hK K hHeld_233
      try simp only [Act.put, List.setIfInBounds_toArray, List.set_cons_zero, List.set_cons_succ]
      refine take_run 11 rfl (by kernel_rfl) (by rfl) (fun K hK => ?_)
      go_simp
      refine (specUE_any _ _ (derT c l) (derT c r) _ ⟨_, rfl, M_243.out.at⟩ ⟨_, rfl, O_239.out.at⟩ (by omega) (by omega)).mono ?_
      rintro en q_245 ⟨v_246, rfl, ⟨v_246b, rfl, ho_247, _⟩, hs_248⟩
      obtain ⟨Z_249o, Z_249n, Z_249c, Z_249N, rfl⟩ := ho_247.lenN
      have O_250 := Lib.hid (ho_247.mono (base' := w.heap.size) c_240.size)
      clear ho_247
      have c_251 := Since.trans c_240 hs_248
      have M_252 := Lib.hid (M_241.out.since hs_248)
      clear M_241
      have M_253 := Lib.hid (M_242.out.since hs_248)
      clear M_242
      have M_254 := Lib.hid (M_243.out.since hs_248)
      clear M_243
      have M_255 := Lib.hid (O_239.out.since hs_248)
      clear O_239
      clear hs_248
      refine hK.out _ _ (HKC.out _ M_252.out) (fun hHeld_256 => ?_)
      clear hK K hHeld_244
      try simp only [Act.put, List.setIfInBounds_toArray, List.set_cons_zero, List.set_cons_succ]
      refine take_run 12 rfl (by kernel_rfl) (by rfl) (fun K hK => ?_)
      obtain ⟨q0, q1⟩ := M_253.out.one
      go_simp
      clear q0 q1
      have c_257 := Since.setCell c_251 (a := ⟨w.heap.size, 0, none⟩) (by show w.heap.size ≤ w.heap.size; omega) (.slice Z_249o Z_249n Z_249c)
      have M_259 := Lib.hid (M_254.out.farT M_253.out (by decide) 0 (.slice Z_249o Z_249n Z_249c))
      clear M_254
      have M_260 := Lib.hid (M_255.out.farT M_253.out (by decide) 0 (.slice Z_249o Z_249n Z_249c))
      clear M_255
      have M_261 := Lib.hid (O_250.out.farT M_253.out (by decide) 0 (.slice Z_249o Z_249n Z_249c))
      clear O_250
      have M_262 := Lib.hid (M_252.out.far (p := ⟨w.heap.size, 0, none⟩) (by show w.heap.size + 1 ≠ w.heap.size; omega) (.slice Z_249o Z_249n Z_249c))
      clear M_252
      have B_263 := Lib.hid (M_253.out.set 0 (.slice Z_249o Z_249n Z_249c))
      clear M_253
      refine hK.out _ _ (HKC.out _ M_262.out) (fun hHeld_264 => ?_)
      clear hK K hHeld_256
      try simp only [Act.put, List.setIfInBounds_toArray, List.set_cons_zero, List.set_cons_succ]
      generalize q_245.setCell ⟨w.heap.size, 0, none⟩ (.slice Z_249o Z_249n Z_249c) = wS_258 at M_262 B_263 M_259 M_260 M_261 c_257 hHeld_264 ⊢
      refine wpAnyH_done (by kernel_rfl) ?_ _
      clear hHeld_264
      obtain ⟨r0, r1⟩ := B_263.out.one
      go_wp2
      refine bodyPost_ret (v := .agg #[.slice Z_249o Z_249n Z_249c]) (by simp [results, Tryd.results81, go_sem, *]) rfl ?_
      rw [HD.out]
      exact xout_mk M_261.out c_257
end Go.Proofs.YtiojgahjfndmdaaDoor
