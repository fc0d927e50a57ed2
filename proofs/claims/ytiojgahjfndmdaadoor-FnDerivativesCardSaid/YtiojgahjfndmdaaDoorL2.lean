/- DrS5, DrS7, DrS4, DrS: small words and contracts that the other texts use. -/
import Derived.Test.YtiojgahjfndmdaaDoorL1
/- Derivatives of trees, the model's: unions. -/
namespace Go.Proofs.YtiojgahjfndmdaaDoor
set_option maxRecDepth 100000
open Go.ChangeShapes Go.WideShapes Go.ChangeAt Go.RowKit
set_option linter.unusedVariables false
set_option linter.unusedSimpArgs false


set_option maxHeartbeats 4000000 in
set_option maxRecDepth 100000 in
theorem derS_uni (c lr lo hi : Int) (l r : Tr) (hl : DerS c l) (hr : DerS c r) : DerS c (.node ⟨5, lr, lo, hi⟩ l r) := by
    obtain ⟨t, hte⟩ : ∃ t : Tok, t = ⟨5, lr, lo, hi⟩ := ⟨_, rfl⟩
    rw [← hte]
    intro ao n ac w hok ha hac hn hn4 hin
    have hn9 : n ≤ 1048577 := by omega
    obtain ⟨htok, hcase⟩ := hok
    have HA := Lib.hid ha
    obtain ⟨_, _, e0, HC⟩ := ha.row
    injection e0 with e1 e2 e3
    subst e1; subst e3
    clear e2 ha
    obtain ⟨q, hq⟩ : ∃ q, q = l.post.length := ⟨_, rfl⟩
    obtain ⟨m, hm⟩ : ∃ m, m = r.post.length := ⟨_, rfl⟩
    have hnn : n = q + m + 1 := by rw [hn, hq, hm, post_len, post_len]; rfl
    have hxl : (Tr.node t l r).post.length = q + m + 1 := by rw [hq, hm]; simp [Tr.post]; omega
    clear hn
    subst hnn
    have hxq : q + m < (Tr.node t l r).post.length := by omega
    have hxt : (Tr.node t l r).post[q + m] = t := by subst hq; subst hm; exact (last_post t l r).2
    have HQ := Lib.hid hq
    have HMM := Lib.hid hm
    clear hq hm
    have HTK1 : Hid ((Tr.node t l r).post.take (q + m) = l.post ++ r.post) := by unfold Hid; rw [show (Tr.node t l r).post = (l.post ++ r.post) ++ [t] from rfl]; exact List.take_left' (by rw [HQ.out, HMM.out, List.length_append])
    obtain ⟨b, off, rfl, hb, c0, c1, c2, c3⟩ := HC.out (q + m) hxq
    rw [hxt] at c0 c1 c2 c3
    have HTI : Hid (t.In) := by have hmem := List.getElem_mem hxq; rw [hxt] at hmem; exact hin t hmem
    have HINL : Hid (∀ x ∈ l.post, x.In) := fun x hx => hin x (by simp [Tr.post, hx])
    have HINR : Hid (∀ x ∈ r.post, x.In) := fun x hx => hin x (by simp [Tr.post, hx])
    clear hxt hin hxl
    have HTA : Hid (ToksAt w (.slice (some ⟨b, off, none⟩) (q + m) ac) (l.post ++ r.post)) := by
      unfold Hid; rw [← HTK1.out]; exact toks_takeO HA.out (by omega) _ _ (fun _ _ e => e)
    have hql : Hid (q = l.len) := by unfold Hid; rw [← post_len]; exact HQ.out
    have hmr : Hid (m = r.len) := by unfold Hid; rw [← post_len]; exact HMM.out
    have hkq : ((q + m : Nat) : Int) < ((q + m + 1 : Nat) : Int) := by omega
    have hk0 : (0 : Int) ≤ ((q + m : Nat) : Int) := by omega
    have hqa : q + m ≤ ac := by omega
    have hqai : (q : Int) + (m : Int) ≤ (ac : Int) := by omega
    have hqm0 : (0 : Int) ≤ (q : Int) + (m : Int) := by omega
    have hne : ¬ (ac = q + m) := by omega
    obtain ⟨y, hy⟩ : ∃ y, y = (w.alloc (.cells #[.slice none 0 0] 26)).alloc (.cells #[.int .i64 t.kd, .int .i64 t.lr, .int .i64 t.lo, .int .i64 t.hi] 65) := ⟨_, rfl⟩
    have hsy : Since w y := by rw [hy]; exact ((Since.refl w).alloc _).alloc _
    have BT : Hid (Blk y (w.heap.size + 1) 65 #[.int .i64 t.kd, .int .i64 t.lr, .int .i64 t.lo, .int .i64 t.hi]) := by rw [hy]; exact Blk.new (by simp) _ _
    have BR : Hid (Blk y w.heap.size 26 #[.slice none 0 0]) := by rw [hy]; exact (Blk.new rfl _ _).alloc _
    have hzy : w.heap.size + 2 ≤ y.heap.size := by rw [hy]; simp
    have HY := Lib.hid hy
    obtain ⟨d0, d1, d2, d3, _⟩ := BT.out.four
    rw [hy] at d0 d1 d2 d3
    clear hy
    subst hte
    have hk17 := okT_kd htok
    rw [opN_of] at hcase
    dsimp only at c0 c1 c2 c3 d0 d1 d2 d3 BT HTI HY
    have hll : q + m + 1 ≤ 400 := hn4
    · obtain ⟨hlo, hro⟩ : l.ok ∧ r.ok := by
        rcases hcase with ⟨h0, _⟩ | ⟨h1, _⟩ | ⟨_, a, b⟩
        · simp at h0
        · simp at h1
        · exact ⟨a, b⟩
      have hdl : (derT c l).length ≤ 160000 := derT_400 c hlo (by have := hql.out; omega)
      have hdr : (derT c r).length ≤ 160000 := derT_400 c hro (by have := hmr.out; omega)
      have HPL : Hid (l.post.length = q) := HQ.out.symm
      have HPR : Hid (r.post.length = m) := HMM.out.symm
      have HSC : Hid (Scan (l.post ++ r.post) l.post.length (l.post ++ r.post).length 1) := scan_two l.post r hro
      have hmp : 0 < m := by rw [HMM.out]; exact post_pos hro
      clear hcase
      have HD : Hid (derT c (Tr.node ⟨5, lr, lo, hi⟩ l r) = uniX (derT c l) (derT c r)) := by unfold Hid; simp [derT]
      have hne2 : ¬ (ac = q) := by omega
      have hqac : q ≤ ac := by omega
      have hqaci : (q : Int) ≤ (ac : Int) := by omega
      have hqmi : (q : Int) ≤ (q : Int) + (m : Int) := by omega
      have hqma : (q : Int) + (m : Int) ≤ (ac : Int) := by omega
      have hq0 : (0 : Int) ≤ (q : Int) := by omega
      have HT1 : Hid (ToksAt w (.slice (some ⟨b, off, none⟩) q ac) l.post) := by
        have := toks_takeO HTA.out (k := q) (by omega) (some ⟨b, off, none⟩) ac (fun _ _ e => e)
        rwa [show (l.post ++ r.post).take q = l.post from List.take_left' HQ.out.symm] at this
      have HT2 : Hid (ToksAt w (.slice (some ⟨b, off + q * 4, none⟩) m (ac - q)) r.post) := by
        have := toks_dropO HTA.out (k := q) (by omega) (some ⟨b, off + q * 4, none⟩) m (ac - q) (by omega) (fun _ b1 o1 e => by injection e with e; injection e with e1 e2; rw [e1, e2])
        rwa [show (l.post ++ r.post).drop q = r.post from List.drop_left' HQ.out.symm] at this
      go_enter Tryd.func81, Tryd.ntmps81
      go_wp2_with fail
      rw [← HY.out]
      clear c0 c1 c2 c3 d0 d1 d2 d3
      refine (l8Start_any _ (l.post ++ r.post) l.post.length _ (HTA.out.since hsy) HSC.out (by rw [List.length_append, ← HQ.out, ← HMM.out]; omega)).mono ?_
      rintro e w2 ⟨rfl, hs2⟩
      rw [← HQ.out]
      have hyw2 := hsy.trans hs2
      have BT2 := Lib.hid (BT.out.since hs2)
      have BR2 := Lib.hid (BR.out.since hs2)
      have hz2 : w.heap.size + 2 ≤ w2.heap.size := Nat.le_trans hzy hs2.size
      clear BT BR hs2
      go_upto_region 15 with fail
      have HKC : Hid (∀ w', Blk w' (w.heap.size + 1) 65 #[.int .i64 5, .int .i64 lr, .int .i64 lo, .int .i64 hi] → w'.cell? ⟨w.heap.size + 1, 0, none⟩ = some (.int .i64 5) ∧ w'.cell? ⟨w.heap.size + 1, 1, none⟩ = some (.int .i64 lr) ∧ w'.cell? ⟨w.heap.size + 1, 2, none⟩ = some (.int .i64 lo) ∧ w'.cell? ⟨w.heap.size + 1, 3, none⟩ = some (.int .i64 hi)) := by
        intro w' hb0
        obtain ⟨r00, r01, r02, r03, _⟩ := hb0.four
        exact ⟨r00, r01, r02, r03⟩
      refine wp_region_held_drew (S := (fun w' => w'.cell? ⟨w.heap.size + 1, 0, none⟩ = some (.int .i64 5) ∧ w'.cell? ⟨w.heap.size + 1, 1, none⟩ = some (.int .i64 lr) ∧ w'.cell? ⟨w.heap.size + 1, 2, none⟩ = some (.int .i64 lo) ∧ w'.cell? ⟨w.heap.size + 1, 3, none⟩ = some (.int .i64 hi))) (by kernel_rfl) (HKC.out _ (BT2.out.drew)) (fun hHeld => ?_)
      refine take_yes 0 (some 62) (v := ?_) rfl (by kernel_rfl) (by kernel_rfl) (by kernel_rfl) (by kernel_rfl) (fun _ _ _ h => h) (by rfl) (by assumption) ?_ ?_
      rotate_left
      · (intro w' hSw; (try dsimp only at hSw); go_simp; try with_reducible rfl)
      try simp only [Act.put, List.setIfInBounds_toArray, List.set_cons_zero, List.set_cons_succ]
      refine take_yes 1 (some 63) (v := ?_) rfl (by kernel_rfl) (by kernel_rfl) (by kernel_rfl) (by kernel_rfl) (fun _ _ _ h => h) (by rfl) (by assumption) ?_ ?_
      rotate_left
      · (intro w' hSw; (try dsimp only at hSw); go_simp; try with_reducible rfl)
      try simp only [Act.put, List.setIfInBounds_toArray, List.set_cons_zero, List.set_cons_succ]
      refine take_yes 2 (some 64) (v := ?_) rfl (by kernel_rfl) (by kernel_rfl) (by kernel_rfl) (by kernel_rfl) (fun _ _ _ h => h) (by rfl) (by assumption) ?_ ?_
      rotate_left
      · (intro w' hSw; (try dsimp only at hSw); go_simp; try with_reducible rfl)
      try simp only [Act.put, List.setIfInBounds_toArray, List.set_cons_zero, List.set_cons_succ]
      refine take_yes 3 (some 65) (v := ?_) rfl (by kernel_rfl) (by kernel_rfl) (by kernel_rfl) (by kernel_rfl) (fun _ _ _ h => h) (by rfl) (by assumption) ?_ ?_
      rotate_left
      · (intro w' hSw; (try dsimp only at hSw); go_simp; try with_reducible rfl)
      try simp only [Act.put, List.setIfInBounds_toArray, List.set_cons_zero, List.set_cons_succ]
      refine take_yes 5 (some 67) (v := ?_) rfl (by kernel_rfl) (by kernel_rfl) (by kernel_rfl) (by kernel_rfl) (fun _ _ _ h => h) (by rfl) (by assumption) ?_ ?_
      rotate_left
      · (intro w' hSw; (try dsimp only at hSw); go_simp; try with_reducible rfl)
      try simp only [Act.put, List.setIfInBounds_toArray, List.set_cons_zero, List.set_cons_succ]
      refine take_yes 6 (some 68) (v := ?_) rfl (by kernel_rfl) (by kernel_rfl) (by kernel_rfl) (by kernel_rfl) (fun _ _ _ h => h) (by rfl) (by assumption) ?_ ?_
      rotate_left
      · (intro w' hSw; (try dsimp only at hSw); go_simp; try with_reducible rfl)
      try simp only [Act.put, List.setIfInBounds_toArray, List.set_cons_zero, List.set_cons_succ]
      refine take_yes 7 (some 69) (v := ?_) rfl (by kernel_rfl) (by kernel_rfl) (by kernel_rfl) (by kernel_rfl) (fun _ _ _ h => h) (by rfl) (by assumption) ?_ ?_
      rotate_left
      · (intro w' hSw; (try dsimp only at hSw); go_simp; try with_reducible rfl)
      try simp only [Act.put, List.setIfInBounds_toArray, List.set_cons_zero, List.set_cons_succ]
      refine take_yes 8 (some 70) (v := ?_) rfl (by kernel_rfl) (by kernel_rfl) (by kernel_rfl) (by kernel_rfl) (fun _ _ _ h => h) (by rfl) (by assumption) ?_ ?_
      rotate_left
      · (intro w' hSw; (try dsimp only at hSw); go_simp; try with_reducible rfl)
      try simp only [Act.put, List.setIfInBounds_toArray, List.set_cons_zero, List.set_cons_succ]
      refine take_yes 9 (some 71) (v := ?_) rfl (by kernel_rfl) (by kernel_rfl) (by kernel_rfl) (by kernel_rfl) (fun _ _ _ h => h) (by rfl) (by assumption) ?_ ?_
      rotate_left
      · (intro w' hSw; (try dsimp only at hSw); go_simp; try with_reducible rfl)
      try simp only [Act.put, List.setIfInBounds_toArray, List.set_cons_zero, List.set_cons_succ]
      refine take_run 4 rfl (by kernel_rfl) (by rfl) (fun K hK => ?_)
      have dr_225 : Since w2 w2.drew := (Since.refl _).drew
      have c_226 := Since.trans hyw2 dr_225
      have M_227 := Lib.hid (BT2.out.since dr_225)
      clear BT2
      have M_228 := Lib.hid (BR2.out.since dr_225)
      clear BR2
      clear dr_225
      go_simp
      refine (hl (some ⟨b, off, none⟩) q ac _ hlo (HT1.out.since c_226) (by omega) hql.out (by omega) HINL.out).mono ?_
      rintro en q_220 ⟨v_221, rfl, ⟨v_221b, rfl, ho_222, _⟩, hs_223⟩
      obtain ⟨u_224o, u_224n, u_224c, u_224N, rfl⟩ := ho_222.lenN
      have O_229 := Lib.hid (ho_222.mono (base' := w.heap.size) c_226.size)
      clear ho_222
      have c_230 := Since.trans c_226 hs_223
      have M_231 := Lib.hid (M_227.out.since hs_223)
      clear M_227
      have M_232 := Lib.hid (M_228.out.since hs_223)
      clear M_228
      clear hs_223
      refine hK.out _ _ (HKC.out _ M_231.out) (fun hHeld_233 => ?_)
      clear hK K hHeld
      try simp only [Act.put, List.setIfInBounds_toArray, List.set_cons_zero, List.set_cons_succ]
      refine take_run 10 rfl (by kernel_rfl) (by rfl) (fun K hK => ?_)
      go_simp
      try rw [show ((q : Int) + (m : Int)).toNat - q = m from by omega]
      try rw [show ((q : Int) + (m : Int)).toNat = q + m from by omega]
      refine (hr (some ⟨b, off + q * 4, none⟩) m (ac - q) _ hro (HT2.out.since c_230) (by omega) hmr.out (by omega) HINR.out).mono ?_
      rintro en q_234 ⟨v_235, rfl, ⟨v_235b, rfl, ho_236, _⟩, hs_237⟩
      obtain ⟨x_238o, x_238n, x_238c, x_238N, rfl⟩ := ho_236.lenN
      have O_239 := Lib.hid (ho_236.mono (base' := w.heap.size) c_230.size)
      clear ho_236
      have c_240 := Since.trans c_230 hs_237
      have M_241 := Lib.hid (M_231.out.since hs_237)
      clear M_231
      have M_242 := Lib.hid (M_232.out.since hs_237)
      clear M_232
      have M_243 := Lib.hid (O_229.out.since hs_237)
      clear O_229
      clear hs_237
      refine hK.out _ _ (HKC.out _ M_241.out) (fun hHeld_244 => ?_)
      clear hK K hHeld_233
      try simp only [Act.put, List.setIfInBounds_toArray, List.set_cons_zero, List.set_cons_succ]
      refine take_run 11 rfl (by kernel_rfl) (by rfl) (fun K hK => ?_)
      go_simp
      refine (specUE_any _ _ (derT c l) (derT c r) _ ⟨_, rfl, M_243.out.at⟩ ⟨_, rfl, O_239.out.at⟩ (by omega) (by omega)).mono ?_
      rintro en q_245 ⟨v_246, rfl, ⟨v_246b, rfl, ho_247, _⟩, hs_248⟩
      obtain ⟨Z_249o, Z_249n, Z_249c, Z_249N, rfl⟩ := ho_247.lenN
      have O_250 := Lib.hid (ho_247.mono (base' := w.heap.size) c_240.size)
      clear ho_247
      have c_251 := Since.trans c_240 hs_248
      have M_252 := Lib.hid (M_241.out.since hs_248)
      clear M_241
      have M_253 := Lib.hid (M_242.out.since hs_248)
      clear M_242
      have M_254 := Lib.hid (M_243.out.since hs_248)
      clear M_243
      have M_255 := Lib.hid (O_239.out.since hs_248)
      clear O_239
      clear hs_248
      refine hK.out _ _ (HKC.out _ M_252.out) (fun hHeld_256 => ?_)
      clear hK K hHeld_244
      try simp only [Act.put, List.setIfInBounds_toArray, List.set_cons_zero, List.set_cons_succ]
      refine take_run 12 rfl (by kernel_rfl) (by rfl) (fun K hK => ?_)
      obtain ⟨q0, q1⟩ := M_253.out.one
      go_simp
      clear q0 q1
      have c_257 := Since.setCell c_251 (a := ⟨w.heap.size, 0, none⟩) (by show w.heap.size ≤ w.heap.size; omega) (.slice Z_249o Z_249n Z_249c)
      have M_259 := Lib.hid (M_254.out.farT M_253.out (by decide) 0 (.slice Z_249o Z_249n Z_249c))
      clear M_254
      have M_260 := Lib.hid (M_255.out.farT M_253.out (by decide) 0 (.slice Z_249o Z_249n Z_249c))
      clear M_255
      have M_261 := Lib.hid (O_250.out.farT M_253.out (by decide) 0 (.slice Z_249o Z_249n Z_249c))
      clear O_250
      have M_262 := Lib.hid (M_252.out.far (p := ⟨w.heap.size, 0, none⟩) (by show w.heap.size + 1 ≠ w.heap.size; omega) (.slice Z_249o Z_249n Z_249c))
      clear M_252
      have B_263 := Lib.hid (M_253.out.set 0 (.slice Z_249o Z_249n Z_249c))
      clear M_253
      refine hK.out _ _ (HKC.out _ M_262.out) (fun hHeld_264 => ?_)
      clear hK K hHeld_256
      try simp only [Act.put, List.setIfInBounds_toArray, List.set_cons_zero, List.set_cons_succ]
      generalize q_245.setCell ⟨w.heap.size, 0, none⟩ (.slice Z_249o Z_249n Z_249c) = wS_258 at M_262 B_263 M_259 M_260 M_261 c_257 hHeld_264 ⊢
      refine wpAnyH_done (by kernel_rfl) ?_ _
      clear hHeld_264
      obtain ⟨r0, r1⟩ := B_263.out.one
      go_wp2
      refine bodyPost_ret (v := .agg #[.slice Z_249o Z_249n Z_249c]) (by simp [results, Tryd.results81, go_sem, *]) rfl ?_
      rw [HD.out]
      exact xout_mk M_261.out c_257
end Go.Proofs.YtiojgahjfndmdaaDoor

/- Derivatives of trees, the model's: repetitions. -/
namespace Go.Proofs.YtiojgahjfndmdaaDoor
set_option maxRecDepth 100000
open Go.ChangeShapes Go.WideShapes Go.ChangeAt Go.RowKit
set_option linter.unusedVariables false
set_option linter.unusedSimpArgs false


set_option maxHeartbeats 4000000 in
set_option maxRecDepth 100000 in
theorem derS_rep (c lr lo hi : Int) (l r : Tr) (hl : DerS c l) (hr : DerS c r) : DerS c (.node ⟨7, lr, lo, hi⟩ l r) := by
    obtain ⟨t, hte⟩ : ∃ t : Tok, t = ⟨7, lr, lo, hi⟩ := ⟨_, rfl⟩
    rw [← hte]
    intro ao n ac w hok ha hac hn hn4 hin
    have hn9 : n ≤ 1048577 := by omega
    obtain ⟨htok, hcase⟩ := hok
    have HA := Lib.hid ha
    obtain ⟨_, _, e0, HC⟩ := ha.row
    injection e0 with e1 e2 e3
    subst e1; subst e3
    clear e2 ha
    obtain ⟨q, hq⟩ : ∃ q, q = l.post.length := ⟨_, rfl⟩
    obtain ⟨m, hm⟩ : ∃ m, m = r.post.length := ⟨_, rfl⟩
    have hnn : n = q + m + 1 := by rw [hn, hq, hm, post_len, post_len]; rfl
    have hxl : (Tr.node t l r).post.length = q + m + 1 := by rw [hq, hm]; simp [Tr.post]; omega
    clear hn
    subst hnn
    have hxq : q + m < (Tr.node t l r).post.length := by omega
    have hxt : (Tr.node t l r).post[q + m] = t := by subst hq; subst hm; exact (last_post t l r).2
    have HQ := Lib.hid hq
    have HMM := Lib.hid hm
    clear hq hm
    have HTK1 : Hid ((Tr.node t l r).post.take (q + m) = l.post ++ r.post) := by unfold Hid; rw [show (Tr.node t l r).post = (l.post ++ r.post) ++ [t] from rfl]; exact List.take_left' (by rw [HQ.out, HMM.out, List.length_append])
    obtain ⟨b, off, rfl, hb, c0, c1, c2, c3⟩ := HC.out (q + m) hxq
    rw [hxt] at c0 c1 c2 c3
    have HTI : Hid (t.In) := by have hmem := List.getElem_mem hxq; rw [hxt] at hmem; exact hin t hmem
    have HINL : Hid (∀ x ∈ l.post, x.In) := fun x hx => hin x (by simp [Tr.post, hx])
    have HINR : Hid (∀ x ∈ r.post, x.In) := fun x hx => hin x (by simp [Tr.post, hx])
    clear hxt hin hxl
    have HTA : Hid (ToksAt w (.slice (some ⟨b, off, none⟩) (q + m) ac) (l.post ++ r.post)) := by
      unfold Hid; rw [← HTK1.out]; exact toks_takeO HA.out (by omega) _ _ (fun _ _ e => e)
    have hql : Hid (q = l.len) := by unfold Hid; rw [← post_len]; exact HQ.out
    have hmr : Hid (m = r.len) := by unfold Hid; rw [← post_len]; exact HMM.out
    have hkq : ((q + m : Nat) : Int) < ((q + m + 1 : Nat) : Int) := by omega
    have hk0 : (0 : Int) ≤ ((q + m : Nat) : Int) := by omega
    have hqa : q + m ≤ ac := by omega
    have hqai : (q : Int) + (m : Int) ≤ (ac : Int) := by omega
    have hqm0 : (0 : Int) ≤ (q : Int) + (m : Int) := by omega
    have hne : ¬ (ac = q + m) := by omega
    obtain ⟨y, hy⟩ : ∃ y, y = (w.alloc (.cells #[.slice none 0 0] 26)).alloc (.cells #[.int .i64 t.kd, .int .i64 t.lr, .int .i64 t.lo, .int .i64 t.hi] 65) := ⟨_, rfl⟩
    have hsy : Since w y := by rw [hy]; exact ((Since.refl w).alloc _).alloc _
    have BT : Hid (Blk y (w.heap.size + 1) 65 #[.int .i64 t.kd, .int .i64 t.lr, .int .i64 t.lo, .int .i64 t.hi]) := by rw [hy]; exact Blk.new (by simp) _ _
    have BR : Hid (Blk y w.heap.size 26 #[.slice none 0 0]) := by rw [hy]; exact (Blk.new rfl _ _).alloc _
    have hzy : w.heap.size + 2 ≤ y.heap.size := by rw [hy]; simp
    have HY := Lib.hid hy
    obtain ⟨d0, d1, d2, d3, _⟩ := BT.out.four
    rw [hy] at d0 d1 d2 d3
    clear hy
    subst hte
    have hk17 := okT_kd htok
    rw [opN_of] at hcase
    dsimp only at c0 c1 c2 c3 d0 d1 d2 d3 BT HTI HY
    have hll : q + m + 1 ≤ 400 := hn4
    · obtain ⟨hlo, rfl⟩ : l.ok ∧ r = .nil := by
        rcases hcase with ⟨h0, _⟩ | ⟨_, a, b⟩ | ⟨h2, _⟩
        · simp at h0
        · exact ⟨a, b⟩
        · simp at h2
      have hm0 : m = 0 := HMM.out
      have hlq : Hid (q + m = l.len) := by unfold Hid; rw [← post_len, hm0, HQ.out]; rfl
      have hdl : (derT c l).length ≤ 160000 := derT_400 c hlo (by have := hlq.out; omega)
      have HPL : Hid (l.post.length = q + m) := by unfold Hid; rw [hm0, HQ.out]; rfl
      clear hcase hm0
      have HT1 : Hid (ToksAt w (.slice (some ⟨b, off, none⟩) (q + m) ac) l.post) := by have := HTA.out; rwa [show l.post ++ Tr.nil.post = l.post from List.append_nil _] at this
      obtain ⟨k0, k1, k2, k3⟩ := okT_repD htok rfl
      dsimp only at k0 k1 k2 k3
      have HD : Hid (derT c (Tr.node ⟨7, lr, lo, hi⟩ l .nil) = catX (derT c l) (repX l.post (max 0 (lo - 1)) (hi - 1))) := by unfold Hid; simp [derT]
      go_enter Tryd.func81, Tryd.ntmps81
      go_upto_region 19 with fail
      rw [← HY.out]
      clear c0 c1 c2 c3 d0 d1 d2 d3
      have hyw2 := hsy
      have BT2 := BT
      have BR2 := BR
      have HMX : Hid ((if 1 < lo then lo - 1 else 0) = max 0 (lo - 1)) := by unfold Hid; split <;> omega
      have ew1 : IntKind.i64.wrap (lo - 1) = lo - 1 := by rw [IntKind.wrap_i64]; omega
      have ew2 : IntKind.i64.wrap (hi - 1) = hi - 1 := by rw [IntKind.wrap_i64]; omega
      have HKC : Hid (∀ w', Blk w' (w.heap.size + 1) 65 #[.int .i64 7, .int .i64 lr, .int .i64 lo, .int .i64 hi] → w'.cell? ⟨w.heap.size + 1, 0, none⟩ = some (.int .i64 7) ∧ w'.cell? ⟨w.heap.size + 1, 1, none⟩ = some (.int .i64 lr) ∧ w'.cell? ⟨w.heap.size + 1, 2, none⟩ = some (.int .i64 lo) ∧ w'.cell? ⟨w.heap.size + 1, 3, none⟩ = some (.int .i64 hi)) := by
        intro w' hb0
        obtain ⟨r00, r01, r02, r03, _⟩ := hb0.four
        exact ⟨r00, r01, r02, r03⟩
      refine wp_region_held_drew (S := (fun w' => w'.cell? ⟨w.heap.size + 1, 0, none⟩ = some (.int .i64 7) ∧ w'.cell? ⟨w.heap.size + 1, 1, none⟩ = some (.int .i64 lr) ∧ w'.cell? ⟨w.heap.size + 1, 2, none⟩ = some (.int .i64 lo) ∧ w'.cell? ⟨w.heap.size + 1, 3, none⟩ = some (.int .i64 hi))) (by kernel_rfl) (HKC.out _ (BT2.out.drew)) (fun hHeld => ?_)
      refine take_yes 0 (some 86) (v := ?_) rfl (by kernel_rfl) (by kernel_rfl) (by kernel_rfl) (by kernel_rfl) (fun _ _ _ h => h) (by rfl) (by assumption) ?_ ?_
      rotate_left
      · (intro w' hSw; (try dsimp only at hSw); go_simp; try with_reducible rfl)
      try simp only [Act.put, List.setIfInBounds_toArray, List.set_cons_zero, List.set_cons_succ]
      refine take_yes 1 (some 87) (v := ?_) rfl (by kernel_rfl) (by kernel_rfl) (by kernel_rfl) (by kernel_rfl) (fun _ _ _ h => h) (by rfl) (by assumption) ?_ ?_
      rotate_left
      · (intro w' hSw; (try dsimp only at hSw); go_simp; try with_reducible rfl)
      try simp only [Act.put, List.setIfInBounds_toArray, List.set_cons_zero, List.set_cons_succ]
      refine take_yes 2 (some 88) (v := ?_) rfl (by kernel_rfl) (by kernel_rfl) (by kernel_rfl) (by kernel_rfl) (fun _ _ _ h => h) (by rfl) (by assumption) ?_ ?_
      rotate_left
      · (intro w' hSw; (try dsimp only at hSw); go_simp; try with_reducible rfl)
      try simp only [Act.put, List.setIfInBounds_toArray, List.set_cons_zero, List.set_cons_succ]
      refine take_yes 3 (some 89) (v := ?_) rfl (by kernel_rfl) (by kernel_rfl) (by kernel_rfl) (by kernel_rfl) (fun _ _ _ h => h) (by rfl) (by assumption) ?_ ?_
      rotate_left
      · (intro w' hSw; (try dsimp only at hSw); go_simp; try with_reducible rfl)
      try simp only [Act.put, List.setIfInBounds_toArray, List.set_cons_zero, List.set_cons_succ]
      refine take_yes 5 (some 91) (v := ?_) rfl (by kernel_rfl) (by kernel_rfl) (by kernel_rfl) (by kernel_rfl) (fun _ _ _ h => h) (by rfl) (by assumption) ?_ ?_
      rotate_left
      · (intro w' hSw; (try dsimp only at hSw); go_simp; try with_reducible rfl)
      try simp only [Act.put, List.setIfInBounds_toArray, List.set_cons_zero, List.set_cons_succ]
      refine take_yes 6 (some 92) (v := ?_) rfl (by kernel_rfl) (by kernel_rfl) (by kernel_rfl) (by kernel_rfl) (fun _ _ _ h => h) (by rfl) (by assumption) ?_ ?_
      rotate_left
      · (intro w' hSw; (try dsimp only at hSw); go_simp; try with_reducible rfl)
      try simp only [Act.put, List.setIfInBounds_toArray, List.set_cons_zero, List.set_cons_succ]
      refine take_yes 7 (some 93) (v := ?_) rfl (by kernel_rfl) (by kernel_rfl) (by kernel_rfl) (by kernel_rfl) (fun _ _ _ h => h) (by rfl) (by assumption) ?_ ?_
      rotate_left
      · (intro w' hSw; (try dsimp only at hSw); go_simp; try with_reducible rfl)
      try simp only [Act.put, List.setIfInBounds_toArray, List.set_cons_zero, List.set_cons_succ]
      refine take_yes 8 (some 94) (v := ?_) rfl (by kernel_rfl) (by kernel_rfl) (by kernel_rfl) (by kernel_rfl) (fun _ _ _ h => h) (by rfl) (by assumption) ?_ ?_
      rotate_left
      · (intro w' hSw; (try dsimp only at hSw); go_simp; try with_reducible rfl)
      try simp only [Act.put, List.setIfInBounds_toArray, List.set_cons_zero, List.set_cons_succ]
      refine take_yes 9 (some 95) (v := ?_) rfl (by kernel_rfl) (by kernel_rfl) (by kernel_rfl) (by kernel_rfl) (fun _ _ _ h => h) (by rfl) (by assumption) ?_ ?_
      rotate_left
      · (intro w' hSw; (try dsimp only at hSw); go_simp; try with_reducible rfl)
      try simp only [Act.put, List.setIfInBounds_toArray, List.set_cons_zero, List.set_cons_succ]
      refine take_yes 10 (some 96) (v := ?_) rfl (by kernel_rfl) (by kernel_rfl) (by kernel_rfl) (by kernel_rfl) (fun _ _ _ h => h) (by rfl) (by assumption) ?_ ?_
      rotate_left
      · (intro w' hSw; (try dsimp only at hSw); go_simp; try with_reducible rfl)
      try simp only [Act.put, List.setIfInBounds_toArray, List.set_cons_zero, List.set_cons_succ]
      refine take_yes 11 (some 97) (v := ?_) rfl (by kernel_rfl) (by kernel_rfl) (by kernel_rfl) (by kernel_rfl) (fun _ _ _ h => h) (by rfl) (by assumption) ?_ ?_
      rotate_left
      · (intro w' hSw; (try dsimp only at hSw); go_simp; try with_reducible rfl)
      try simp only [Act.put, List.setIfInBounds_toArray, List.set_cons_zero, List.set_cons_succ]
      refine take_yes 13 (some 99) (v := ?_) rfl (by kernel_rfl) (by kernel_rfl) (by kernel_rfl) (by kernel_rfl) (fun _ _ _ h => h) (by rfl) (by assumption) ?_ ?_
      rotate_left
      · (intro w' hSw; (try dsimp only at hSw); go_simp; try with_reducible rfl)
      try simp only [Act.put, List.setIfInBounds_toArray, List.set_cons_zero, List.set_cons_succ]
      refine take_yes 14 (some 100) (v := ?_) rfl (by kernel_rfl) (by kernel_rfl) (by kernel_rfl) (by kernel_rfl) (fun _ _ _ h => h) (by rfl) (by assumption) ?_ ?_
      rotate_left
      · (intro w' hSw; (try dsimp only at hSw); go_simp; try with_reducible rfl)
      try simp only [Act.put, List.setIfInBounds_toArray, List.set_cons_zero, List.set_cons_succ]
      refine take_yes 15 (some 101) (v := ?_) rfl (by kernel_rfl) (by kernel_rfl) (by kernel_rfl) (by kernel_rfl) (fun _ _ _ h => h) (by rfl) (by assumption) ?_ ?_
      rotate_left
      · (intro w' hSw; (try dsimp only at hSw); go_simp; try with_reducible rfl)
      try simp only [Act.put, List.setIfInBounds_toArray, List.set_cons_zero, List.set_cons_succ]
      refine take_two 4 12 rfl rfl (by kernel_rfl) (by rfl) (by rfl) (fun K hK => ?_) (fun K hK => ?_)
      · skip
        have dr_270 : Since y y.drew := (Since.refl _).drew
        have c_271 := Since.trans hsy dr_270
        have M_272 := Lib.hid (BT2.out.since dr_270)
        clear BT2
        have M_273 := Lib.hid (BR2.out.since dr_270)
        clear BR2
        clear dr_270
        go_simp
        try rw [show ((q : Int) + (m : Int)).toNat - q = m from by omega]
        try rw [show ((q : Int) + (m : Int)).toNat = q + m from by omega]
        refine (hl (some ⟨b, off, none⟩) (q + m) ac _ hlo (HT1.out.since c_271) (by omega) hlq.out (by omega) HINL.out).mono ?_
        rintro en q_265 ⟨v_266, rfl, ⟨v_266b, rfl, ho_267, _⟩, hs_268⟩
        obtain ⟨u_269o, u_269n, u_269c, u_269N, rfl⟩ := ho_267.lenN
        have O_274 := Lib.hid (ho_267.mono (base' := w.heap.size) c_271.size)
        clear ho_267
        have c_275 := Since.trans c_271 hs_268
        have M_276 := Lib.hid (M_272.out.since hs_268)
        clear M_272
        have M_277 := Lib.hid (M_273.out.since hs_268)
        clear M_273
        clear hs_268
        refine hK.out _ _ (HKC.out _ M_276.out) (fun hHeld_278 => ?_)
        clear hK K hHeld
        try simp only [Act.put, List.setIfInBounds_toArray, List.set_cons_zero, List.set_cons_succ]
        refine take_run 12 rfl (by kernel_rfl) (by rfl) (fun K hK => ?_)
        go_simp
        refine hK.out _ _ (HKC.out _ M_276.out) (fun hHeld_279 => ?_)
        clear hK K hHeld_278
        try simp only [Act.put, List.setIfInBounds_toArray, List.set_cons_zero, List.set_cons_succ]
        refine take_run 16 rfl (by kernel_rfl) (by rfl) (fun K hK => ?_)
        go_simp
        try rw [show ((q : Int) + (m : Int)).toNat - q = m from by omega]
        try rw [show ((q : Int) + (m : Int)).toNat = q + m from by omega]
        rw [HMX.out]
        refine (specPE8_any _ l.post (max 0 (lo - 1)) (hi - 1) _ ⟨_, rfl, (HT1.out.since c_275)⟩ (by have := HPL.out; omega) (by unfold InI; omega) (by unfold InI; omega)).mono ?_
        rintro en q_280 ⟨v_281, rfl, ⟨v_281b, rfl, ho_282, _⟩, hs_283⟩
        obtain ⟨p_284o, p_284n, p_284c, p_284N, rfl⟩ := ho_282.lenN
        have O_285 := Lib.hid (ho_282.mono (base' := w.heap.size) c_275.size)
        clear ho_282
        have c_286 := Since.trans c_275 hs_283
        have M_287 := Lib.hid (M_276.out.since hs_283)
        clear M_276
        have M_288 := Lib.hid (M_277.out.since hs_283)
        clear M_277
        have M_289 := Lib.hid (O_274.out.since hs_283)
        clear O_274
        clear hs_283
        refine hK.out _ _ (HKC.out _ M_287.out) (fun hHeld_290 => ?_)
        clear hK K hHeld_279
        try simp only [Act.put, List.setIfInBounds_toArray, List.set_cons_zero, List.set_cons_succ]
        refine take_run 17 rfl (by kernel_rfl) (by rfl) (fun K hK => ?_)
        go_simp
        refine (specCE_any _ _ (derT c l) (repX l.post (max 0 (lo - 1)) (hi - 1)) _ ⟨_, rfl, M_289.out.at⟩ ⟨_, rfl, O_285.out.at⟩ (by omega) (by have := repX_len l.post (max 0 (lo - 1)) (hi - 1); have := HPL.out; omega)).mono ?_
        rintro en q_291 ⟨v_292, rfl, ⟨v_292b, rfl, ho_293, _⟩, hs_294⟩
        obtain ⟨Z_295o, Z_295n, Z_295c, Z_295N, rfl⟩ := ho_293.lenN
        have O_296 := Lib.hid (ho_293.mono (base' := w.heap.size) c_286.size)
        clear ho_293
        have c_297 := Since.trans c_286 hs_294
        have M_298 := Lib.hid (M_287.out.since hs_294)
        clear M_287
        have M_299 := Lib.hid (M_288.out.since hs_294)
        clear M_288
        have M_300 := Lib.hid (M_289.out.since hs_294)
        clear M_289
        have M_301 := Lib.hid (O_285.out.since hs_294)
        clear O_285
        clear hs_294
        refine hK.out _ _ (HKC.out _ M_298.out) (fun hHeld_302 => ?_)
        clear hK K hHeld_290
        try simp only [Act.put, List.setIfInBounds_toArray, List.set_cons_zero, List.set_cons_succ]
        refine take_run 18 rfl (by kernel_rfl) (by rfl) (fun K hK => ?_)
        obtain ⟨q0, q1⟩ := M_299.out.one
        go_simp
        clear q0 q1
        have c_303 := Since.setCell c_297 (a := ⟨w.heap.size, 0, none⟩) (by show w.heap.size ≤ w.heap.size; omega) (.slice Z_295o Z_295n Z_295c)
        have M_305 := Lib.hid (M_300.out.farT M_299.out (by decide) 0 (.slice Z_295o Z_295n Z_295c))
        clear M_300
        have M_306 := Lib.hid (M_301.out.farT M_299.out (by decide) 0 (.slice Z_295o Z_295n Z_295c))
        clear M_301
        have M_307 := Lib.hid (O_296.out.farT M_299.out (by decide) 0 (.slice Z_295o Z_295n Z_295c))
        clear O_296
        have M_308 := Lib.hid (M_298.out.far (p := ⟨w.heap.size, 0, none⟩) (by show w.heap.size + 1 ≠ w.heap.size; omega) (.slice Z_295o Z_295n Z_295c))
        clear M_298
        have B_309 := Lib.hid (M_299.out.set 0 (.slice Z_295o Z_295n Z_295c))
        clear M_299
        refine hK.out _ _ (HKC.out _ M_308.out) (fun hHeld_310 => ?_)
        clear hK K hHeld_302
        try simp only [Act.put, List.setIfInBounds_toArray, List.set_cons_zero, List.set_cons_succ]
        generalize q_291.setCell ⟨w.heap.size, 0, none⟩ (.slice Z_295o Z_295n Z_295c) = wS_304 at M_308 B_309 M_305 M_306 M_307 c_303 hHeld_310 ⊢
        refine wpAnyH_done (by kernel_rfl) ?_ _
        clear hHeld_310
        obtain ⟨r0, r1⟩ := B_309.out.one
        go_wp2
        refine bodyPost_ret (v := .agg #[.slice Z_295o Z_295n Z_295c]) (by simp [results, Tryd.results81, go_sem, *]) rfl ?_
        rw [HD.out]
        exact xout_mk M_307.out c_303
      · skip
        have dr_311 : Since y y.drew := (Since.refl _).drew
        have c_312 := Since.trans hsy dr_311
        have M_313 := Lib.hid (BT2.out.since dr_311)
        clear BT2
        have M_314 := Lib.hid (BR2.out.since dr_311)
        clear BR2
        clear dr_311
        go_simp
        refine hK.out _ _ (HKC.out _ M_313.out) (fun hHeld_315 => ?_)
        clear hK K hHeld
        try simp only [Act.put, List.setIfInBounds_toArray, List.set_cons_zero, List.set_cons_succ]
        refine take_run 4 rfl (by kernel_rfl) (by rfl) (fun K hK => ?_)
        go_simp
        try rw [show ((q : Int) + (m : Int)).toNat - q = m from by omega]
        try rw [show ((q : Int) + (m : Int)).toNat = q + m from by omega]
        refine (hl (some ⟨b, off, none⟩) (q + m) ac _ hlo (HT1.out.since c_312) (by omega) hlq.out (by omega) HINL.out).mono ?_
        rintro en q_316 ⟨v_317, rfl, ⟨v_317b, rfl, ho_318, _⟩, hs_319⟩
        obtain ⟨u_320o, u_320n, u_320c, u_320N, rfl⟩ := ho_318.lenN
        have O_321 := Lib.hid (ho_318.mono (base' := w.heap.size) c_312.size)
        clear ho_318
        have c_322 := Since.trans c_312 hs_319
        have M_323 := Lib.hid (M_313.out.since hs_319)
        clear M_313
        have M_324 := Lib.hid (M_314.out.since hs_319)
        clear M_314
        clear hs_319
        refine hK.out _ _ (HKC.out _ M_323.out) (fun hHeld_325 => ?_)
        clear hK K hHeld_315
        try simp only [Act.put, List.setIfInBounds_toArray, List.set_cons_zero, List.set_cons_succ]
        refine take_run 16 rfl (by kernel_rfl) (by rfl) (fun K hK => ?_)
        go_simp
        try rw [show ((q : Int) + (m : Int)).toNat - q = m from by omega]
        try rw [show ((q : Int) + (m : Int)).toNat = q + m from by omega]
        rw [HMX.out]
        refine (specPE8_any _ l.post (max 0 (lo - 1)) (hi - 1) _ ⟨_, rfl, (HT1.out.since c_322)⟩ (by have := HPL.out; omega) (by unfold InI; omega) (by unfold InI; omega)).mono ?_
        rintro en q_326 ⟨v_327, rfl, ⟨v_327b, rfl, ho_328, _⟩, hs_329⟩
        obtain ⟨p_330o, p_330n, p_330c, p_330N, rfl⟩ := ho_328.lenN
        have O_331 := Lib.hid (ho_328.mono (base' := w.heap.size) c_322.size)
        clear ho_328
        have c_332 := Since.trans c_322 hs_329
        have M_333 := Lib.hid (M_323.out.since hs_329)
        clear M_323
        have M_334 := Lib.hid (M_324.out.since hs_329)
        clear M_324
        have M_335 := Lib.hid (O_321.out.since hs_329)
        clear O_321
        clear hs_329
        refine hK.out _ _ (HKC.out _ M_333.out) (fun hHeld_336 => ?_)
        clear hK K hHeld_325
        try simp only [Act.put, List.setIfInBounds_toArray, List.set_cons_zero, List.set_cons_succ]
        refine take_run 17 rfl (by kernel_rfl) (by rfl) (fun K hK => ?_)
        go_simp
        refine (specCE_any _ _ (derT c l) (repX l.post (max 0 (lo - 1)) (hi - 1)) _ ⟨_, rfl, M_335.out.at⟩ ⟨_, rfl, O_331.out.at⟩ (by omega) (by have := repX_len l.post (max 0 (lo - 1)) (hi - 1); have := HPL.out; omega)).mono ?_
        rintro en q_337 ⟨v_338, rfl, ⟨v_338b, rfl, ho_339, _⟩, hs_340⟩
        obtain ⟨Z_341o, Z_341n, Z_341c, Z_341N, rfl⟩ := ho_339.lenN
        have O_342 := Lib.hid (ho_339.mono (base' := w.heap.size) c_332.size)
        clear ho_339
        have c_343 := Since.trans c_332 hs_340
        have M_344 := Lib.hid (M_333.out.since hs_340)
        clear M_333
        have M_345 := Lib.hid (M_334.out.since hs_340)
        clear M_334
        have M_346 := Lib.hid (M_335.out.since hs_340)
        clear M_335
        have M_347 := Lib.hid (O_331.out.since hs_340)
        clear O_331
        clear hs_340
        refine hK.out _ _ (HKC.out _ M_344.out) (fun hHeld_348 => ?_)
        clear hK K hHeld_336
        try simp only [Act.put, List.setIfInBounds_toArray, List.set_cons_zero, List.set_cons_succ]
        refine take_run 18 rfl (by kernel_rfl) (by rfl) (fun K hK => ?_)
        obtain ⟨q0, q1⟩ := M_345.out.one
        go_simp
        clear q0 q1
        have c_349 := Since.setCell c_343 (a := ⟨w.heap.size, 0, none⟩) (by show w.heap.size ≤ w.heap.size; omega) (.slice Z_341o Z_341n Z_341c)
        have M_351 := Lib.hid (M_346.out.farT M_345.out (by decide) 0 (.slice Z_341o Z_341n Z_341c))
        clear M_346
        have M_352 := Lib.hid (M_347.out.farT M_345.out (by decide) 0 (.slice Z_341o Z_341n Z_341c))
        clear M_347
        have M_353 := Lib.hid (O_342.out.farT M_345.out (by decide) 0 (.slice Z_341o Z_341n Z_341c))
        clear O_342
        have M_354 := Lib.hid (M_344.out.far (p := ⟨w.heap.size, 0, none⟩) (by show w.heap.size + 1 ≠ w.heap.size; omega) (.slice Z_341o Z_341n Z_341c))
        clear M_344
        have B_355 := Lib.hid (M_345.out.set 0 (.slice Z_341o Z_341n Z_341c))
        clear M_345
        refine hK.out _ _ (HKC.out _ M_354.out) (fun hHeld_356 => ?_)
        clear hK K hHeld_348
        try simp only [Act.put, List.setIfInBounds_toArray, List.set_cons_zero, List.set_cons_succ]
        generalize q_337.setCell ⟨w.heap.size, 0, none⟩ (.slice Z_341o Z_341n Z_341c) = wS_350 at M_354 B_355 M_351 M_352 M_353 c_349 hHeld_356 ⊢
        refine wpAnyH_done (by kernel_rfl) ?_ _
        clear hHeld_356
        obtain ⟨r0, r1⟩ := B_355.out.one
        go_wp2
        refine bodyPost_ret (v := .agg #[.slice Z_341o Z_341n Z_341c]) (by simp [results, Tryd.results81, go_sem, *]) rfl ?_
        rw [HD.out]
        exact xout_mk M_353.out c_349
end Go.Proofs.YtiojgahjfndmdaaDoor

/- Derivatives of trees, the model's: concatenations. -/
namespace Go.Proofs.YtiojgahjfndmdaaDoor
set_option maxRecDepth 100000
open Go.ChangeShapes Go.WideShapes Go.ChangeAt Go.RowKit
set_option linter.unusedVariables false
set_option linter.unusedSimpArgs false


set_option maxHeartbeats 4000000 in
set_option maxRecDepth 100000 in
theorem derS_cat (c lr lo hi : Int) (l r : Tr) (hl : DerS c l) (hr : DerS c r) : DerS c (.node ⟨4, lr, lo, hi⟩ l r) := by
    obtain ⟨t, hte⟩ : ∃ t : Tok, t = ⟨4, lr, lo, hi⟩ := ⟨_, rfl⟩
    rw [← hte]
    intro ao n ac w hok ha hac hn hn4 hin
    have hn9 : n ≤ 1048577 := by omega
    obtain ⟨htok, hcase⟩ := hok
    have HA := Lib.hid ha
    obtain ⟨_, _, e0, HC⟩ := ha.row
    injection e0 with e1 e2 e3
    subst e1; subst e3
    clear e2 ha
    obtain ⟨q, hq⟩ : ∃ q, q = l.post.length := ⟨_, rfl⟩
    obtain ⟨m, hm⟩ : ∃ m, m = r.post.length := ⟨_, rfl⟩
    have hnn : n = q + m + 1 := by rw [hn, hq, hm, post_len, post_len]; rfl
    have hxl : (Tr.node t l r).post.length = q + m + 1 := by rw [hq, hm]; simp [Tr.post]; omega
    clear hn
    subst hnn
    have hxq : q + m < (Tr.node t l r).post.length := by omega
    have hxt : (Tr.node t l r).post[q + m] = t := by subst hq; subst hm; exact (last_post t l r).2
    have HQ := Lib.hid hq
    have HMM := Lib.hid hm
    clear hq hm
    have HTK1 : Hid ((Tr.node t l r).post.take (q + m) = l.post ++ r.post) := by unfold Hid; rw [show (Tr.node t l r).post = (l.post ++ r.post) ++ [t] from rfl]; exact List.take_left' (by rw [HQ.out, HMM.out, List.length_append])
    obtain ⟨b, off, rfl, hb, c0, c1, c2, c3⟩ := HC.out (q + m) hxq
    rw [hxt] at c0 c1 c2 c3
    have HTI : Hid (t.In) := by have hmem := List.getElem_mem hxq; rw [hxt] at hmem; exact hin t hmem
    have HINL : Hid (∀ x ∈ l.post, x.In) := fun x hx => hin x (by simp [Tr.post, hx])
    have HINR : Hid (∀ x ∈ r.post, x.In) := fun x hx => hin x (by simp [Tr.post, hx])
    clear hxt hin hxl
    have HTA : Hid (ToksAt w (.slice (some ⟨b, off, none⟩) (q + m) ac) (l.post ++ r.post)) := by
      unfold Hid; rw [← HTK1.out]; exact toks_takeO HA.out (by omega) _ _ (fun _ _ e => e)
    have hql : Hid (q = l.len) := by unfold Hid; rw [← post_len]; exact HQ.out
    have hmr : Hid (m = r.len) := by unfold Hid; rw [← post_len]; exact HMM.out
    have hkq : ((q + m : Nat) : Int) < ((q + m + 1 : Nat) : Int) := by omega
    have hk0 : (0 : Int) ≤ ((q + m : Nat) : Int) := by omega
    have hqa : q + m ≤ ac := by omega
    have hqai : (q : Int) + (m : Int) ≤ (ac : Int) := by omega
    have hqm0 : (0 : Int) ≤ (q : Int) + (m : Int) := by omega
    have hne : ¬ (ac = q + m) := by omega
    obtain ⟨y, hy⟩ : ∃ y, y = (w.alloc (.cells #[.slice none 0 0] 26)).alloc (.cells #[.int .i64 t.kd, .int .i64 t.lr, .int .i64 t.lo, .int .i64 t.hi] 65) := ⟨_, rfl⟩
    have hsy : Since w y := by rw [hy]; exact ((Since.refl w).alloc _).alloc _
    have BT : Hid (Blk y (w.heap.size + 1) 65 #[.int .i64 t.kd, .int .i64 t.lr, .int .i64 t.lo, .int .i64 t.hi]) := by rw [hy]; exact Blk.new (by simp) _ _
    have BR : Hid (Blk y w.heap.size 26 #[.slice none 0 0]) := by rw [hy]; exact (Blk.new rfl _ _).alloc _
    have hzy : w.heap.size + 2 ≤ y.heap.size := by rw [hy]; simp
    have HY := Lib.hid hy
    obtain ⟨d0, d1, d2, d3, _⟩ := BT.out.four
    rw [hy] at d0 d1 d2 d3
    clear hy
    subst hte
    have hk17 := okT_kd htok
    rw [opN_of] at hcase
    dsimp only at c0 c1 c2 c3 d0 d1 d2 d3 BT HTI HY
    have hll : q + m + 1 ≤ 400 := hn4
    · obtain ⟨hlo, hro⟩ : l.ok ∧ r.ok := by
        rcases hcase with ⟨h0, _⟩ | ⟨h1, _⟩ | ⟨_, a, b⟩
        · simp at h0
        · simp at h1
        · exact ⟨a, b⟩
      have hdl : (derT c l).length ≤ 160000 := derT_400 c hlo (by have := hql.out; omega)
      have hdr : (derT c r).length ≤ 160000 := derT_400 c hro (by have := hmr.out; omega)
      have HPL : Hid (l.post.length = q) := HQ.out.symm
      have HPR : Hid (r.post.length = m) := HMM.out.symm
      have HSC : Hid (Scan (l.post ++ r.post) l.post.length (l.post ++ r.post).length 1) := scan_two l.post r hro
      have hmp : 0 < m := by rw [HMM.out]; exact post_pos hro
      clear hcase
      have hne2 : ¬ (ac = q) := by omega
      have hqac : q ≤ ac := by omega
      have hqaci : (q : Int) ≤ (ac : Int) := by omega
      have hqmi : (q : Int) ≤ (q : Int) + (m : Int) := by omega
      have hqma : (q : Int) + (m : Int) ≤ (ac : Int) := by omega
      have hq0 : (0 : Int) ≤ (q : Int) := by omega
      have HT1 : Hid (ToksAt w (.slice (some ⟨b, off, none⟩) q ac) l.post) := by
        have := toks_takeO HTA.out (k := q) (by omega) (some ⟨b, off, none⟩) ac (fun _ _ e => e)
        rwa [show (l.post ++ r.post).take q = l.post from List.take_left' HQ.out.symm] at this
      have HT2 : Hid (ToksAt w (.slice (some ⟨b, off + q * 4, none⟩) m (ac - q)) r.post) := by
        have := toks_dropO HTA.out (k := q) (by omega) (some ⟨b, off + q * 4, none⟩) m (ac - q) (by omega) (fun _ b1 o1 e => by injection e with e; injection e with e1 e2; rw [e1, e2])
        rwa [show (l.post ++ r.post).drop q = r.post from List.drop_left' HQ.out.symm] at this
      go_enter Tryd.func81, Tryd.ntmps81
      go_wp2_with fail
      rw [← HY.out]
      clear c0 c1 c2 c3 d0 d1 d2 d3
      refine (l8Start_any _ (l.post ++ r.post) l.post.length _ (HTA.out.since hsy) HSC.out (by rw [List.length_append, ← HQ.out, ← HMM.out]; omega)).mono ?_
      rintro e w2 ⟨rfl, hs2⟩
      rw [← HQ.out]
      have hyw2 := hsy.trans hs2
      have BT2 := Lib.hid (BT.out.since hs2)
      have BR2 := Lib.hid (BR.out.since hs2)
      have hz2 : w.heap.size + 2 ≤ w2.heap.size := Nat.le_trans hzy hs2.size
      clear BT BR hs2
      go_upto_region 9 with fail
      have HKC : Hid (∀ w', Blk w' w.heap.size 26 #[.slice none 0 0] → w'.cell? ⟨w.heap.size, 0, none⟩ = some (.slice none 0 0)) := by
        intro w' hb0
        obtain ⟨r00, _⟩ := hb0.one
        exact r00
      refine wp_region_held_drew (S := (fun w' => w'.cell? ⟨w.heap.size, 0, none⟩ = some (.slice none 0 0))) (by kernel_rfl) (HKC.out _ (BR2.out.drew)) (fun hHeld => ?_)
      refine take_yes 0 (some 32) (v := ?_) rfl (by kernel_rfl) (by kernel_rfl) (by kernel_rfl) (by kernel_rfl) (fun _ _ _ h => h) (by rfl) (by assumption) ?_ ?_
      rotate_left
      · (intro w' hSw; (try dsimp only at hSw); go_simp; try with_reducible rfl)
      try simp only [Act.put, List.setIfInBounds_toArray, List.set_cons_zero, List.set_cons_succ]
      refine take_yes 1 (some 33) (v := ?_) rfl (by kernel_rfl) (by kernel_rfl) (by kernel_rfl) (by kernel_rfl) (fun _ _ _ h => h) (by rfl) (by assumption) ?_ ?_
      rotate_left
      · (intro w' hSw; (try dsimp only at hSw); go_simp; try with_reducible rfl)
      try simp only [Act.put, List.setIfInBounds_toArray, List.set_cons_zero, List.set_cons_succ]
      refine take_yes 2 (some 34) (v := ?_) rfl (by kernel_rfl) (by kernel_rfl) (by kernel_rfl) (by kernel_rfl) (fun _ _ _ h => h) (by rfl) (by assumption) ?_ ?_
      rotate_left
      · (intro w' hSw; (try dsimp only at hSw); go_simp; try with_reducible rfl)
      try simp only [Act.put, List.setIfInBounds_toArray, List.set_cons_zero, List.set_cons_succ]
      refine take_yes 3 (some 35) (v := ?_) rfl (by kernel_rfl) (by kernel_rfl) (by kernel_rfl) (by kernel_rfl) (fun _ _ _ h => h) (by rfl) (by assumption) ?_ ?_
      rotate_left
      · (intro w' hSw; (try dsimp only at hSw); go_simp; try with_reducible rfl)
      try simp only [Act.put, List.setIfInBounds_toArray, List.set_cons_zero, List.set_cons_succ]
      refine take_yes 5 (some 37) (v := ?_) rfl (by kernel_rfl) (by kernel_rfl) (by kernel_rfl) (by kernel_rfl) (fun _ _ _ h => h) (by rfl) (by assumption) ?_ ?_
      rotate_left
      · (intro w' hSw; (try dsimp only at hSw); go_simp; try with_reducible rfl)
      try simp only [Act.put, List.setIfInBounds_toArray, List.set_cons_zero, List.set_cons_succ]
      refine take_yes 6 (some 38) (v := ?_) rfl (by kernel_rfl) (by kernel_rfl) (by kernel_rfl) (by kernel_rfl) (fun _ _ _ h => h) (by rfl) (by assumption) ?_ ?_
      rotate_left
      · (intro w' hSw; (try dsimp only at hSw); go_simp; try with_reducible rfl)
      try simp only [Act.put, List.setIfInBounds_toArray, List.set_cons_zero, List.set_cons_succ]
      refine take_yes 7 (some 39) (v := ?_) rfl (by kernel_rfl) (by kernel_rfl) (by kernel_rfl) (by kernel_rfl) (fun _ _ _ h => h) (by rfl) (by assumption) ?_ ?_
      rotate_left
      · (intro w' hSw; (try dsimp only at hSw); go_simp; try with_reducible rfl)
      try simp only [Act.put, List.setIfInBounds_toArray, List.set_cons_zero, List.set_cons_succ]
      refine take_yes 8 (some 40) (v := ?_) rfl (by kernel_rfl) (by kernel_rfl) (by kernel_rfl) (by kernel_rfl) (fun _ _ _ h => h) (by rfl) (by assumption) ?_ ?_
      rotate_left
      · (intro w' hSw; (try dsimp only at hSw); go_simp; try with_reducible rfl)
      try simp only [Act.put, List.setIfInBounds_toArray, List.set_cons_zero, List.set_cons_succ]
      refine take_yes 9 (some 41) (v := ?_) rfl (by kernel_rfl) (by kernel_rfl) (by kernel_rfl) (by kernel_rfl) (fun _ _ _ h => h) (by rfl) (by assumption) ?_ ?_
      rotate_left
      · (intro w' hSw; (try dsimp only at hSw); go_simp; try with_reducible rfl)
      try simp only [Act.put, List.setIfInBounds_toArray, List.set_cons_zero, List.set_cons_succ]
      refine take_two 4 11 rfl rfl (by kernel_rfl) (by rfl) (by rfl) (fun K hK => ?_) (fun K hK => ?_)
      · skip
        have dr_6 : Since w2 w2.drew := (Since.refl _).drew
        have c_7 := Since.trans hyw2 dr_6
        have M_8 := Lib.hid (BT2.out.since dr_6)
        clear BT2
        have M_9 := Lib.hid (BR2.out.since dr_6)
        clear BR2
        clear dr_6
        go_simp
        refine (hl (some ⟨b, off, none⟩) q ac _ hlo (HT1.out.since c_7) (by omega) hql.out (by omega) HINL.out).mono ?_
        rintro en q_1 ⟨v_2, rfl, ⟨v_2b, rfl, ho_3, _⟩, hs_4⟩
        obtain ⟨u_5o, u_5n, u_5c, u_5N, rfl⟩ := ho_3.lenN
        have O_10 := Lib.hid (ho_3.mono (base' := w.heap.size) c_7.size)
        clear ho_3
        have c_11 := Since.trans c_7 hs_4
        have M_12 := Lib.hid (M_8.out.since hs_4)
        clear M_8
        have M_13 := Lib.hid (M_9.out.since hs_4)
        clear M_9
        clear hs_4
        refine hK.out _ _ (HKC.out _ M_13.out) (fun hHeld_14 => ?_)
        clear hK K hHeld
        try simp only [Act.put, List.setIfInBounds_toArray, List.set_cons_zero, List.set_cons_succ]
        refine take_two 10 11 rfl rfl (by kernel_rfl) (by rfl) (by rfl) (fun K hK => ?_) (fun K hK => ?_)
        · skip
          go_simp
          try rw [show ((q : Int) + (m : Int)).toNat - q = m from by omega]
          try rw [show ((q : Int) + (m : Int)).toNat = q + m from by omega]
          refine (specCE_any _ _ (derT c l) r.post _ ⟨_, rfl, O_10.out.at⟩ ⟨_, rfl, (HT2.out.since c_11)⟩ (by omega) (by have := HPR.out; omega)).mono ?_
          rintro en q_15 ⟨v_16, rfl, ⟨v_16b, rfl, ho_17, _⟩, hs_18⟩
          obtain ⟨X_19o, X_19n, X_19c, X_19N, rfl⟩ := ho_17.lenN
          have O_20 := Lib.hid (ho_17.mono (base' := w.heap.size) c_11.size)
          clear ho_17
          have c_21 := Since.trans c_11 hs_18
          have M_22 := Lib.hid (M_12.out.since hs_18)
          clear M_12
          have M_23 := Lib.hid (M_13.out.since hs_18)
          clear M_13
          have M_24 := Lib.hid (O_10.out.since hs_18)
          clear O_10
          clear hs_18
          refine hK.out _ _ (HKC.out _ M_23.out) (fun hHeld_25 => ?_)
          clear hK K hHeld_14
          try simp only [Act.put, List.setIfInBounds_toArray, List.set_cons_zero, List.set_cons_succ]
          refine take_run 11 rfl (by kernel_rfl) (by rfl) (fun K hK => ?_)
          go_simp
          have al_27 : Since q_15 (q_15.alloc (.cells #[.slice none 0 0] 26)) := ((Since.refl _).alloc _)
          have B_28 : Hid (Blk (q_15.alloc (.cells #[.slice none 0 0] 26)) q_15.heap.size 26 #[.slice none 0 0]) := (Blk.new rfl _ _ : Blk (q_15.alloc (.cells #[.slice none 0 0] 26)) _ _ _)
          have zA_26 : w.heap.size ≤ q_15.heap.size := c_21.size
          have yA_26_T : w.heap.size + 1 < q_15.heap.size := M_22.out.lt
          have yA_26_R : w.heap.size < q_15.heap.size := M_23.out.lt
          have c_29 := Since.trans c_21 al_27
          have M_30 := Lib.hid (M_22.out.since al_27)
          clear M_22
          have M_31 := Lib.hid (M_23.out.since al_27)
          clear M_23
          have M_32 := Lib.hid (M_24.out.since al_27)
          clear M_24
          have M_33 := Lib.hid (O_20.out.since al_27)
          clear O_20
          clear al_27
          refine hK.out _ _ (HKC.out _ M_31.out) (fun hHeld_34 => ?_)
          clear hK K hHeld_25
          try simp only [Act.put, List.setIfInBounds_toArray, List.set_cons_zero, List.set_cons_succ]
          obtain ⟨A_26, hA_26⟩ : ∃ A, A = q_15.heap.size := ⟨_, rfl⟩
          rw [← hA_26] at B_28 zA_26 yA_26_T yA_26_R
          try rw [← hA_26]
          clear hA_26
          generalize q_15.alloc (.cells #[.slice none 0 0] 26) = wA_35 at M_30 M_31 B_28 M_32 M_33 c_29 hHeld_34 ⊢
          refine take_run 12 rfl (by kernel_rfl) (by rfl) (fun K hK => ?_)
          obtain ⟨q0, q1⟩ := B_28.out.one
          go_simp
          clear q0 q1
          have c_36 := Since.setCell c_29 (a := ⟨A_26, 0, none⟩) (by show w.heap.size ≤ A_26; omega) (.slice X_19o X_19n X_19c)
          have M_38 := Lib.hid (M_32.out.farT B_28.out (by decide) 0 (.slice X_19o X_19n X_19c))
          clear M_32
          have M_39 := Lib.hid (M_33.out.farT B_28.out (by decide) 0 (.slice X_19o X_19n X_19c))
          clear M_33
          have M_40 := Lib.hid (M_30.out.far (p := ⟨A_26, 0, none⟩) (by show w.heap.size + 1 ≠ A_26; omega) (.slice X_19o X_19n X_19c))
          clear M_30
          have M_41 := Lib.hid (M_31.out.far (p := ⟨A_26, 0, none⟩) (by show w.heap.size ≠ A_26; omega) (.slice X_19o X_19n X_19c))
          clear M_31
          have B_42 := Lib.hid (B_28.out.set 0 (.slice X_19o X_19n X_19c))
          clear B_28
          refine hK.out _ _ (HKC.out _ M_41.out) (fun hHeld_43 => ?_)
          clear hK K hHeld_34
          try simp only [Act.put, List.setIfInBounds_toArray, List.set_cons_zero, List.set_cons_succ]
          generalize wA_35.setCell ⟨A_26, 0, none⟩ (.slice X_19o X_19n X_19c) = wS_37 at M_40 M_41 B_42 M_38 M_39 c_36 hHeld_43 ⊢
          refine wpAnyH_done (by kernel_rfl) ?_ _
          clear hHeld_43
          clear HKC
          go_wp2_with fail
          refine (l9Null_any l (some ⟨b, off, none⟩) q ac _ hlo (HT1.out.since c_36) (by omega) hql.out (by omega) HINL.out).mono ?_
          rintro e w5 ⟨rfl, hs5⟩
          have BX5 := Lib.hid (B_42.out.since hs5)
          have BR5 := Lib.hid (M_41.out.since hs5)
          have HO5 := Lib.hid (M_39.out.since hs5)
          have c5 := Since.trans c_36 hs5
          obtain ⟨nl, hnl⟩ : ∃ nl, nl = nulT l := ⟨_, rfl⟩
          rw [← hnl]
          have HNL := Lib.hid hnl
          clear hnl
          cases nl with
          | false =>
            have HD : Hid (derT c (Tr.node ⟨4, lr, lo, hi⟩ l r) = catX (derT c l) r.post) := by unfold Hid; simp [derT, ← HNL.out]
            obtain ⟨p0, p1⟩ := BX5.out.one
            obtain ⟨r0, r1⟩ := BR5.out.one
            go_wp2
            refine bodyPost_ret (v := .agg #[.slice X_19o X_19n X_19c]) (by simp [results, Tryd.results81, go_sem, *]) rfl ?_
            rw [HD.out]
            exact xout_boxT HO5.out c5 BR5.out (by decide) (Nat.le_refl _) _
          | true =>
            have HD : Hid (derT c (Tr.node ⟨4, lr, lo, hi⟩ l r) = uniX (catX (derT c l) r.post) (derT c r)) := by unfold Hid; simp [derT, ← HNL.out]
            go_upto_region 11 with fail
            have HKC : Hid (∀ w', Blk w' A_26 26 #[.slice X_19o X_19n X_19c] → w'.cell? ⟨A_26, 0, none⟩ = some (.slice X_19o X_19n X_19c)) := by
              intro w' hb0
              obtain ⟨r00, _⟩ := hb0.one
              exact r00
            refine wp_region_held_drew (S := (fun w' => w'.cell? ⟨A_26, 0, none⟩ = some (.slice X_19o X_19n X_19c))) (by kernel_rfl) (HKC.out _ (BX5.out.drew)) (fun hHeld => ?_)
            refine take_yes 0 (some 47) (v := ?_) rfl (by kernel_rfl) (by kernel_rfl) (by kernel_rfl) (by kernel_rfl) (fun _ _ _ h => h) (by rfl) (by assumption) ?_ ?_
            rotate_left
            · (intro w' hSw; (try dsimp only at hSw); go_simp; try with_reducible rfl)
            try simp only [Act.put, List.setIfInBounds_toArray, List.set_cons_zero, List.set_cons_succ]
            refine take_yes 1 (some 48) (v := ?_) rfl (by kernel_rfl) (by kernel_rfl) (by kernel_rfl) (by kernel_rfl) (fun _ _ _ h => h) (by rfl) (by assumption) ?_ ?_
            rotate_left
            · (intro w' hSw; (try dsimp only at hSw); go_simp; try with_reducible rfl)
            try simp only [Act.put, List.setIfInBounds_toArray, List.set_cons_zero, List.set_cons_succ]
            refine take_yes 2 (some 49) (v := ?_) rfl (by kernel_rfl) (by kernel_rfl) (by kernel_rfl) (by kernel_rfl) (fun _ _ _ h => h) (by rfl) (by assumption) ?_ ?_
            rotate_left
            · (intro w' hSw; (try dsimp only at hSw); go_simp; try with_reducible rfl)
            try simp only [Act.put, List.setIfInBounds_toArray, List.set_cons_zero, List.set_cons_succ]
            refine take_yes 3 (some 50) (v := ?_) rfl (by kernel_rfl) (by kernel_rfl) (by kernel_rfl) (by kernel_rfl) (fun _ _ _ h => h) (by rfl) (by assumption) ?_ ?_
            rotate_left
            · (intro w' hSw; (try dsimp only at hSw); go_simp; try with_reducible rfl)
            try simp only [Act.put, List.setIfInBounds_toArray, List.set_cons_zero, List.set_cons_succ]
            refine take_yes 4 (some 51) (v := ?_) rfl (by kernel_rfl) (by kernel_rfl) (by kernel_rfl) (by kernel_rfl) (fun _ _ _ h => h) (by rfl) (by assumption) ?_ ?_
            rotate_left
            · (intro w' hSw; (try dsimp only at hSw); go_simp; try with_reducible rfl)
            try simp only [Act.put, List.setIfInBounds_toArray, List.set_cons_zero, List.set_cons_succ]
            refine take_yes 5 (some 52) (v := ?_) rfl (by kernel_rfl) (by kernel_rfl) (by kernel_rfl) (by kernel_rfl) (fun _ _ _ h => h) (by rfl) (by assumption) ?_ ?_
            rotate_left
            · (intro w' hSw; (try dsimp only at hSw); go_simp; try with_reducible rfl)
            try simp only [Act.put, List.setIfInBounds_toArray, List.set_cons_zero, List.set_cons_succ]
            refine take_run 6 rfl (by kernel_rfl) (by rfl) (fun K hK => ?_)
            have dr_49 : Since w5 w5.drew := (Since.refl _).drew
            have c_50 := Since.trans c5 dr_49
            have M_51 := Lib.hid (BX5.out.since dr_49)
            clear BX5
            have M_52 := Lib.hid (BR5.out.since dr_49)
            clear BR5
            have M_53 := Lib.hid (HO5.out.since dr_49)
            clear HO5
            clear dr_49
            go_simp
            try rw [show ((q : Int) + (m : Int)).toNat - q = m from by omega]
            try rw [show ((q : Int) + (m : Int)).toNat = q + m from by omega]
            refine (hr (some ⟨b, off + q * 4, none⟩) m (ac - q) _ hro (HT2.out.since c_50) (by omega) hmr.out (by omega) HINR.out).mono ?_
            rintro en q_44 ⟨v_45, rfl, ⟨v_45b, rfl, ho_46, _⟩, hs_47⟩
            obtain ⟨x_48o, x_48n, x_48c, x_48N, rfl⟩ := ho_46.lenN
            have O_54 := Lib.hid (ho_46.mono (base' := w.heap.size) c_50.size)
            clear ho_46
            have c_55 := Since.trans c_50 hs_47
            have M_56 := Lib.hid (M_51.out.since hs_47)
            clear M_51
            have M_57 := Lib.hid (M_52.out.since hs_47)
            clear M_52
            have M_58 := Lib.hid (M_53.out.since hs_47)
            clear M_53
            clear hs_47
            refine hK.out _ _ (HKC.out _ M_56.out) (fun hHeld_59 => ?_)
            clear hK K hHeld
            try simp only [Act.put, List.setIfInBounds_toArray, List.set_cons_zero, List.set_cons_succ]
            refine take_run 7 rfl (by kernel_rfl) (by rfl) (fun K hK => ?_)
            go_simp
            refine (specUE_any _ _ (catX (derT c l) r.post) (derT c r) _ ⟨_, rfl, M_58.out.at⟩ ⟨_, rfl, O_54.out.at⟩ (by have := catX_len (derT c l) r.post; have := HPR.out; omega) (by omega)).mono ?_
            rintro en q_60 ⟨v_61, rfl, ⟨v_61b, rfl, ho_62, _⟩, hs_63⟩
            obtain ⟨Z_64o, Z_64n, Z_64c, Z_64N, rfl⟩ := ho_62.lenN
            have O_65 := Lib.hid (ho_62.mono (base' := w.heap.size) c_55.size)
            clear ho_62
            have c_66 := Since.trans c_55 hs_63
            have M_67 := Lib.hid (M_56.out.since hs_63)
            clear M_56
            have M_68 := Lib.hid (M_57.out.since hs_63)
            clear M_57
            have M_69 := Lib.hid (M_58.out.since hs_63)
            clear M_58
            have M_70 := Lib.hid (O_54.out.since hs_63)
            clear O_54
            clear hs_63
            refine hK.out _ _ (HKC.out _ M_67.out) (fun hHeld_71 => ?_)
            clear hK K hHeld_59
            try simp only [Act.put, List.setIfInBounds_toArray, List.set_cons_zero, List.set_cons_succ]
            refine take_run 8 rfl (by kernel_rfl) (by rfl) (fun K hK => ?_)
            obtain ⟨q0, q1⟩ := M_68.out.one
            go_simp
            clear q0 q1
            have c_72 := Since.setCell c_66 (a := ⟨w.heap.size, 0, none⟩) (by show w.heap.size ≤ w.heap.size; omega) (.slice Z_64o Z_64n Z_64c)
            have M_74 := Lib.hid (M_69.out.farT M_68.out (by decide) 0 (.slice Z_64o Z_64n Z_64c))
            clear M_69
            have M_75 := Lib.hid (M_70.out.farT M_68.out (by decide) 0 (.slice Z_64o Z_64n Z_64c))
            clear M_70
            have M_76 := Lib.hid (O_65.out.farT M_68.out (by decide) 0 (.slice Z_64o Z_64n Z_64c))
            clear O_65
            have M_77 := Lib.hid (M_67.out.far (p := ⟨w.heap.size, 0, none⟩) (by show A_26 ≠ w.heap.size; omega) (.slice Z_64o Z_64n Z_64c))
            clear M_67
            have B_78 := Lib.hid (M_68.out.set 0 (.slice Z_64o Z_64n Z_64c))
            clear M_68
            refine hK.out _ _ (HKC.out _ M_77.out) (fun hHeld_79 => ?_)
            clear hK K hHeld_71
            try simp only [Act.put, List.setIfInBounds_toArray, List.set_cons_zero, List.set_cons_succ]
            generalize q_60.setCell ⟨w.heap.size, 0, none⟩ (.slice Z_64o Z_64n Z_64c) = wS_73 at M_77 B_78 M_74 M_75 M_76 c_72 hHeld_79 ⊢
            refine wpAnyH_done (by kernel_rfl) ?_ _
            clear hHeld_79
            obtain ⟨r0, r1⟩ := B_78.out.one
            go_wp2
            refine bodyPost_ret (v := .agg #[.slice Z_64o Z_64n Z_64c]) (by simp [results, Tryd.results81, go_sem, *]) rfl ?_
            rw [HD.out]
            exact xout_mk M_76.out c_72
        · skip
          go_simp
          have al_81 : Since q_1 (q_1.alloc (.cells #[.slice none 0 0] 26)) := ((Since.refl _).alloc _)
          have B_82 : Hid (Blk (q_1.alloc (.cells #[.slice none 0 0] 26)) q_1.heap.size 26 #[.slice none 0 0]) := (Blk.new rfl _ _ : Blk (q_1.alloc (.cells #[.slice none 0 0] 26)) _ _ _)
          have zA_80 : w.heap.size ≤ q_1.heap.size := c_11.size
          have yA_80_T : w.heap.size + 1 < q_1.heap.size := M_12.out.lt
          have yA_80_R : w.heap.size < q_1.heap.size := M_13.out.lt
          have c_83 := Since.trans c_11 al_81
          have M_84 := Lib.hid (M_12.out.since al_81)
          clear M_12
          have M_85 := Lib.hid (M_13.out.since al_81)
          clear M_13
          have M_86 := Lib.hid (O_10.out.since al_81)
          clear O_10
          clear al_81
          refine hK.out _ _ (HKC.out _ M_85.out) (fun hHeld_87 => ?_)
          clear hK K hHeld_14
          try simp only [Act.put, List.setIfInBounds_toArray, List.set_cons_zero, List.set_cons_succ]
          obtain ⟨A_80, hA_80⟩ : ∃ A, A = q_1.heap.size := ⟨_, rfl⟩
          rw [← hA_80] at B_82 zA_80 yA_80_T yA_80_R
          try rw [← hA_80]
          clear hA_80
          generalize q_1.alloc (.cells #[.slice none 0 0] 26) = wA_88 at M_84 M_85 B_82 M_86 c_83 hHeld_87 ⊢
          refine take_run 10 rfl (by kernel_rfl) (by rfl) (fun K hK => ?_)
          go_simp
          try rw [show ((q : Int) + (m : Int)).toNat - q = m from by omega]
          try rw [show ((q : Int) + (m : Int)).toNat = q + m from by omega]
          refine (specCE_any _ _ (derT c l) r.post _ ⟨_, rfl, M_86.out.at⟩ ⟨_, rfl, (HT2.out.since c_83)⟩ (by omega) (by have := HPR.out; omega)).mono ?_
          rintro en q_89 ⟨v_90, rfl, ⟨v_90b, rfl, ho_91, _⟩, hs_92⟩
          obtain ⟨X_93o, X_93n, X_93c, X_93N, rfl⟩ := ho_91.lenN
          have O_94 := Lib.hid (ho_91.mono (base' := w.heap.size) c_83.size)
          clear ho_91
          have c_95 := Since.trans c_83 hs_92
          have M_96 := Lib.hid (M_84.out.since hs_92)
          clear M_84
          have M_97 := Lib.hid (M_85.out.since hs_92)
          clear M_85
          have M_98 := Lib.hid (B_82.out.since hs_92)
          clear B_82
          have M_99 := Lib.hid (M_86.out.since hs_92)
          clear M_86
          clear hs_92
          refine hK.out _ _ (HKC.out _ M_97.out) (fun hHeld_100 => ?_)
          clear hK K hHeld_87
          try simp only [Act.put, List.setIfInBounds_toArray, List.set_cons_zero, List.set_cons_succ]
          refine take_run 12 rfl (by kernel_rfl) (by rfl) (fun K hK => ?_)
          obtain ⟨q0, q1⟩ := M_98.out.one
          go_simp
          clear q0 q1
          have c_101 := Since.setCell c_95 (a := ⟨A_80, 0, none⟩) (by show w.heap.size ≤ A_80; omega) (.slice X_93o X_93n X_93c)
          have M_103 := Lib.hid (M_99.out.farT M_98.out (by decide) 0 (.slice X_93o X_93n X_93c))
          clear M_99
          have M_104 := Lib.hid (O_94.out.farT M_98.out (by decide) 0 (.slice X_93o X_93n X_93c))
          clear O_94
          have M_105 := Lib.hid (M_96.out.far (p := ⟨A_80, 0, none⟩) (by show w.heap.size + 1 ≠ A_80; omega) (.slice X_93o X_93n X_93c))
          clear M_96
          have M_106 := Lib.hid (M_97.out.far (p := ⟨A_80, 0, none⟩) (by show w.heap.size ≠ A_80; omega) (.slice X_93o X_93n X_93c))
          clear M_97
          have B_107 := Lib.hid (M_98.out.set 0 (.slice X_93o X_93n X_93c))
          clear M_98
          refine hK.out _ _ (HKC.out _ M_106.out) (fun hHeld_108 => ?_)
          clear hK K hHeld_100
          try simp only [Act.put, List.setIfInBounds_toArray, List.set_cons_zero, List.set_cons_succ]
          generalize q_89.setCell ⟨A_80, 0, none⟩ (.slice X_93o X_93n X_93c) = wS_102 at M_105 M_106 B_107 M_103 M_104 c_101 hHeld_108 ⊢
          refine wpAnyH_done (by kernel_rfl) ?_ _
          clear hHeld_108
          clear HKC
          go_wp2_with fail
          refine (l9Null_any l (some ⟨b, off, none⟩) q ac _ hlo (HT1.out.since c_101) (by omega) hql.out (by omega) HINL.out).mono ?_
          rintro e w5 ⟨rfl, hs5⟩
          have BX5 := Lib.hid (B_107.out.since hs5)
          have BR5 := Lib.hid (M_106.out.since hs5)
          have HO5 := Lib.hid (M_104.out.since hs5)
          have c5 := Since.trans c_101 hs5
          obtain ⟨nl, hnl⟩ : ∃ nl, nl = nulT l := ⟨_, rfl⟩
          rw [← hnl]
          have HNL := Lib.hid hnl
          clear hnl
          cases nl with
          | false =>
            have HD : Hid (derT c (Tr.node ⟨4, lr, lo, hi⟩ l r) = catX (derT c l) r.post) := by unfold Hid; simp [derT, ← HNL.out]
            obtain ⟨p0, p1⟩ := BX5.out.one
            obtain ⟨r0, r1⟩ := BR5.out.one
            go_wp2
            refine bodyPost_ret (v := .agg #[.slice X_93o X_93n X_93c]) (by simp [results, Tryd.results81, go_sem, *]) rfl ?_
            rw [HD.out]
            exact xout_boxT HO5.out c5 BR5.out (by decide) (Nat.le_refl _) _
          | true =>
            have HD : Hid (derT c (Tr.node ⟨4, lr, lo, hi⟩ l r) = uniX (catX (derT c l) r.post) (derT c r)) := by unfold Hid; simp [derT, ← HNL.out]
            go_upto_region 11 with fail
            have HKC : Hid (∀ w', Blk w' A_80 26 #[.slice X_93o X_93n X_93c] → w'.cell? ⟨A_80, 0, none⟩ = some (.slice X_93o X_93n X_93c)) := by
              intro w' hb0
              obtain ⟨r00, _⟩ := hb0.one
              exact r00
            refine wp_region_held_drew (S := (fun w' => w'.cell? ⟨A_80, 0, none⟩ = some (.slice X_93o X_93n X_93c))) (by kernel_rfl) (HKC.out _ (BX5.out.drew)) (fun hHeld => ?_)
            refine take_yes 0 (some 47) (v := ?_) rfl (by kernel_rfl) (by kernel_rfl) (by kernel_rfl) (by kernel_rfl) (fun _ _ _ h => h) (by rfl) (by assumption) ?_ ?_
            rotate_left
            · (intro w' hSw; (try dsimp only at hSw); go_simp; try with_reducible rfl)
            try simp only [Act.put, List.setIfInBounds_toArray, List.set_cons_zero, List.set_cons_succ]
            refine take_yes 1 (some 48) (v := ?_) rfl (by kernel_rfl) (by kernel_rfl) (by kernel_rfl) (by kernel_rfl) (fun _ _ _ h => h) (by rfl) (by assumption) ?_ ?_
            rotate_left
            · (intro w' hSw; (try dsimp only at hSw); go_simp; try with_reducible rfl)
            try simp only [Act.put, List.setIfInBounds_toArray, List.set_cons_zero, List.set_cons_succ]
            refine take_yes 2 (some 49) (v := ?_) rfl (by kernel_rfl) (by kernel_rfl) (by kernel_rfl) (by kernel_rfl) (fun _ _ _ h => h) (by rfl) (by assumption) ?_ ?_
            rotate_left
            · (intro w' hSw; (try dsimp only at hSw); go_simp; try with_reducible rfl)
            try simp only [Act.put, List.setIfInBounds_toArray, List.set_cons_zero, List.set_cons_succ]
            refine take_yes 3 (some 50) (v := ?_) rfl (by kernel_rfl) (by kernel_rfl) (by kernel_rfl) (by kernel_rfl) (fun _ _ _ h => h) (by rfl) (by assumption) ?_ ?_
            rotate_left
            · (intro w' hSw; (try dsimp only at hSw); go_simp; try with_reducible rfl)
            try simp only [Act.put, List.setIfInBounds_toArray, List.set_cons_zero, List.set_cons_succ]
            refine take_yes 4 (some 51) (v := ?_) rfl (by kernel_rfl) (by kernel_rfl) (by kernel_rfl) (by kernel_rfl) (fun _ _ _ h => h) (by rfl) (by assumption) ?_ ?_
            rotate_left
            · (intro w' hSw; (try dsimp only at hSw); go_simp; try with_reducible rfl)
            try simp only [Act.put, List.setIfInBounds_toArray, List.set_cons_zero, List.set_cons_succ]
            refine take_yes 5 (some 52) (v := ?_) rfl (by kernel_rfl) (by kernel_rfl) (by kernel_rfl) (by kernel_rfl) (fun _ _ _ h => h) (by rfl) (by assumption) ?_ ?_
            rotate_left
            · (intro w' hSw; (try dsimp only at hSw); go_simp; try with_reducible rfl)
            try simp only [Act.put, List.setIfInBounds_toArray, List.set_cons_zero, List.set_cons_succ]
            refine take_run 6 rfl (by kernel_rfl) (by rfl) (fun K hK => ?_)
            have dr_114 : Since w5 w5.drew := (Since.refl _).drew
            have c_115 := Since.trans c5 dr_114
            have M_116 := Lib.hid (BX5.out.since dr_114)
            clear BX5
            have M_117 := Lib.hid (BR5.out.since dr_114)
            clear BR5
            have M_118 := Lib.hid (HO5.out.since dr_114)
            clear HO5
            clear dr_114
            go_simp
            try rw [show ((q : Int) + (m : Int)).toNat - q = m from by omega]
            try rw [show ((q : Int) + (m : Int)).toNat = q + m from by omega]
            refine (hr (some ⟨b, off + q * 4, none⟩) m (ac - q) _ hro (HT2.out.since c_115) (by omega) hmr.out (by omega) HINR.out).mono ?_
            rintro en q_109 ⟨v_110, rfl, ⟨v_110b, rfl, ho_111, _⟩, hs_112⟩
            obtain ⟨x_113o, x_113n, x_113c, x_113N, rfl⟩ := ho_111.lenN
            have O_119 := Lib.hid (ho_111.mono (base' := w.heap.size) c_115.size)
            clear ho_111
            have c_120 := Since.trans c_115 hs_112
            have M_121 := Lib.hid (M_116.out.since hs_112)
            clear M_116
            have M_122 := Lib.hid (M_117.out.since hs_112)
            clear M_117
            have M_123 := Lib.hid (M_118.out.since hs_112)
            clear M_118
            clear hs_112
            refine hK.out _ _ (HKC.out _ M_121.out) (fun hHeld_124 => ?_)
            clear hK K hHeld
            try simp only [Act.put, List.setIfInBounds_toArray, List.set_cons_zero, List.set_cons_succ]
            refine take_run 7 rfl (by kernel_rfl) (by rfl) (fun K hK => ?_)
            go_simp
            refine (specUE_any _ _ (catX (derT c l) r.post) (derT c r) _ ⟨_, rfl, M_123.out.at⟩ ⟨_, rfl, O_119.out.at⟩ (by have := catX_len (derT c l) r.post; have := HPR.out; omega) (by omega)).mono ?_
            rintro en q_125 ⟨v_126, rfl, ⟨v_126b, rfl, ho_127, _⟩, hs_128⟩
            obtain ⟨Z_129o, Z_129n, Z_129c, Z_129N, rfl⟩ := ho_127.lenN
            have O_130 := Lib.hid (ho_127.mono (base' := w.heap.size) c_120.size)
            clear ho_127
            have c_131 := Since.trans c_120 hs_128
            have M_132 := Lib.hid (M_121.out.since hs_128)
            clear M_121
            have M_133 := Lib.hid (M_122.out.since hs_128)
            clear M_122
            have M_134 := Lib.hid (M_123.out.since hs_128)
            clear M_123
            have M_135 := Lib.hid (O_119.out.since hs_128)
            clear O_119
            clear hs_128
            refine hK.out _ _ (HKC.out _ M_132.out) (fun hHeld_136 => ?_)
            clear hK K hHeld_124
            try simp only [Act.put, List.setIfInBounds_toArray, List.set_cons_zero, List.set_cons_succ]
            refine take_run 8 rfl (by kernel_rfl) (by rfl) (fun K hK => ?_)
            obtain ⟨q0, q1⟩ := M_133.out.one
            go_simp
            clear q0 q1
            have c_137 := Since.setCell c_131 (a := ⟨w.heap.size, 0, none⟩) (by show w.heap.size ≤ w.heap.size; omega) (.slice Z_129o Z_129n Z_129c)
            have M_139 := Lib.hid (M_134.out.farT M_133.out (by decide) 0 (.slice Z_129o Z_129n Z_129c))
            clear M_134
            have M_140 := Lib.hid (M_135.out.farT M_133.out (by decide) 0 (.slice Z_129o Z_129n Z_129c))
            clear M_135
            have M_141 := Lib.hid (O_130.out.farT M_133.out (by decide) 0 (.slice Z_129o Z_129n Z_129c))
            clear O_130
            have M_142 := Lib.hid (M_132.out.far (p := ⟨w.heap.size, 0, none⟩) (by show A_80 ≠ w.heap.size; omega) (.slice Z_129o Z_129n Z_129c))
            clear M_132
            have B_143 := Lib.hid (M_133.out.set 0 (.slice Z_129o Z_129n Z_129c))
            clear M_133
            refine hK.out _ _ (HKC.out _ M_142.out) (fun hHeld_144 => ?_)
            clear hK K hHeld_136
            try simp only [Act.put, List.setIfInBounds_toArray, List.set_cons_zero, List.set_cons_succ]
            generalize q_125.setCell ⟨w.heap.size, 0, none⟩ (.slice Z_129o Z_129n Z_129c) = wS_138 at M_142 B_143 M_139 M_140 M_141 c_137 hHeld_144 ⊢
            refine wpAnyH_done (by kernel_rfl) ?_ _
            clear hHeld_144
            obtain ⟨r0, r1⟩ := B_143.out.one
            go_wp2
            refine bodyPost_ret (v := .agg #[.slice Z_129o Z_129n Z_129c]) (by simp [results, Tryd.results81, go_sem, *]) rfl ?_
            rw [HD.out]
            exact xout_mk M_141.out c_137
      · skip
        go_simp
        have al_146 : Since w2 ((w2.alloc (.cells #[.slice none 0 0] 26)).drew) := ((Since.refl _).alloc _).drew
        have B_147 : Hid (Blk ((w2.alloc (.cells #[.slice none 0 0] 26)).drew) w2.heap.size 26 #[.slice none 0 0]) := (Blk.new rfl _ _ : Blk (w2.alloc (.cells #[.slice none 0 0] 26)) _ _ _).drew
        have zA_145 : w.heap.size ≤ w2.heap.size := hyw2.size
        have yA_145_T : w.heap.size + 1 < w2.heap.size := BT2.out.lt
        have yA_145_R : w.heap.size < w2.heap.size := BR2.out.lt
        have c_148 := Since.trans hyw2 al_146
        have M_149 := Lib.hid (BT2.out.since al_146)
        clear BT2
        have M_150 := Lib.hid (BR2.out.since al_146)
        clear BR2
        clear al_146
        refine hK.out _ _ (HKC.out _ M_150.out) (fun hHeld_151 => ?_)
        clear hK K hHeld
        try simp only [Act.put, List.setIfInBounds_toArray, List.set_cons_zero, List.set_cons_succ]
        obtain ⟨A_145, hA_145⟩ : ∃ A, A = w2.heap.size := ⟨_, rfl⟩
        rw [← hA_145] at B_147 zA_145 yA_145_T yA_145_R
        try rw [← hA_145]
        clear hA_145
        generalize (w2.alloc (.cells #[.slice none 0 0] 26)).drew = wA_152 at M_149 M_150 B_147 c_148 hHeld_151 ⊢
        refine take_run 4 rfl (by kernel_rfl) (by rfl) (fun K hK => ?_)
        go_simp
        refine (hl (some ⟨b, off, none⟩) q ac _ hlo (HT1.out.since c_148) (by omega) hql.out (by omega) HINL.out).mono ?_
        rintro en q_153 ⟨v_154, rfl, ⟨v_154b, rfl, ho_155, _⟩, hs_156⟩
        obtain ⟨u_157o, u_157n, u_157c, u_157N, rfl⟩ := ho_155.lenN
        have O_158 := Lib.hid (ho_155.mono (base' := w.heap.size) c_148.size)
        clear ho_155
        have c_159 := Since.trans c_148 hs_156
        have M_160 := Lib.hid (M_149.out.since hs_156)
        clear M_149
        have M_161 := Lib.hid (M_150.out.since hs_156)
        clear M_150
        have M_162 := Lib.hid (B_147.out.since hs_156)
        clear B_147
        clear hs_156
        refine hK.out _ _ (HKC.out _ M_161.out) (fun hHeld_163 => ?_)
        clear hK K hHeld_151
        try simp only [Act.put, List.setIfInBounds_toArray, List.set_cons_zero, List.set_cons_succ]
        refine take_run 10 rfl (by kernel_rfl) (by rfl) (fun K hK => ?_)
        go_simp
        try rw [show ((q : Int) + (m : Int)).toNat - q = m from by omega]
        try rw [show ((q : Int) + (m : Int)).toNat = q + m from by omega]
        refine (specCE_any _ _ (derT c l) r.post _ ⟨_, rfl, O_158.out.at⟩ ⟨_, rfl, (HT2.out.since c_159)⟩ (by omega) (by have := HPR.out; omega)).mono ?_
        rintro en q_164 ⟨v_165, rfl, ⟨v_165b, rfl, ho_166, _⟩, hs_167⟩
        obtain ⟨X_168o, X_168n, X_168c, X_168N, rfl⟩ := ho_166.lenN
        have O_169 := Lib.hid (ho_166.mono (base' := w.heap.size) c_159.size)
        clear ho_166
        have c_170 := Since.trans c_159 hs_167
        have M_171 := Lib.hid (M_160.out.since hs_167)
        clear M_160
        have M_172 := Lib.hid (M_161.out.since hs_167)
        clear M_161
        have M_173 := Lib.hid (M_162.out.since hs_167)
        clear M_162
        have M_174 := Lib.hid (O_158.out.since hs_167)
        clear O_158
        clear hs_167
        refine hK.out _ _ (HKC.out _ M_172.out) (fun hHeld_175 => ?_)
        clear hK K hHeld_163
        try simp only [Act.put, List.setIfInBounds_toArray, List.set_cons_zero, List.set_cons_succ]
        refine take_run 12 rfl (by kernel_rfl) (by rfl) (fun K hK => ?_)
        obtain ⟨q0, q1⟩ := M_173.out.one
        go_simp
        clear q0 q1
        have c_176 := Since.setCell c_170 (a := ⟨A_145, 0, none⟩) (by show w.heap.size ≤ A_145; omega) (.slice X_168o X_168n X_168c)
        have M_178 := Lib.hid (M_174.out.farT M_173.out (by decide) 0 (.slice X_168o X_168n X_168c))
        clear M_174
        have M_179 := Lib.hid (O_169.out.farT M_173.out (by decide) 0 (.slice X_168o X_168n X_168c))
        clear O_169
        have M_180 := Lib.hid (M_171.out.far (p := ⟨A_145, 0, none⟩) (by show w.heap.size + 1 ≠ A_145; omega) (.slice X_168o X_168n X_168c))
        clear M_171
        have M_181 := Lib.hid (M_172.out.far (p := ⟨A_145, 0, none⟩) (by show w.heap.size ≠ A_145; omega) (.slice X_168o X_168n X_168c))
        clear M_172
        have B_182 := Lib.hid (M_173.out.set 0 (.slice X_168o X_168n X_168c))
        clear M_173
        refine hK.out _ _ (HKC.out _ M_181.out) (fun hHeld_183 => ?_)
        clear hK K hHeld_175
        try simp only [Act.put, List.setIfInBounds_toArray, List.set_cons_zero, List.set_cons_succ]
        generalize q_164.setCell ⟨A_145, 0, none⟩ (.slice X_168o X_168n X_168c) = wS_177 at M_180 M_181 B_182 M_178 M_179 c_176 hHeld_183 ⊢
        refine wpAnyH_done (by kernel_rfl) ?_ _
        clear hHeld_183
        clear HKC
        go_wp2_with fail
        refine (l9Null_any l (some ⟨b, off, none⟩) q ac _ hlo (HT1.out.since c_176) (by omega) hql.out (by omega) HINL.out).mono ?_
        rintro e w5 ⟨rfl, hs5⟩
        have BX5 := Lib.hid (B_182.out.since hs5)
        have BR5 := Lib.hid (M_181.out.since hs5)
        have HO5 := Lib.hid (M_179.out.since hs5)
        have c5 := Since.trans c_176 hs5
        obtain ⟨nl, hnl⟩ : ∃ nl, nl = nulT l := ⟨_, rfl⟩
        rw [← hnl]
        have HNL := Lib.hid hnl
        clear hnl
        cases nl with
        | false =>
          have HD : Hid (derT c (Tr.node ⟨4, lr, lo, hi⟩ l r) = catX (derT c l) r.post) := by unfold Hid; simp [derT, ← HNL.out]
          obtain ⟨p0, p1⟩ := BX5.out.one
          obtain ⟨r0, r1⟩ := BR5.out.one
          go_wp2
          refine bodyPost_ret (v := .agg #[.slice X_168o X_168n X_168c]) (by simp [results, Tryd.results81, go_sem, *]) rfl ?_
          rw [HD.out]
          exact xout_boxT HO5.out c5 BR5.out (by decide) (Nat.le_refl _) _
        | true =>
          have HD : Hid (derT c (Tr.node ⟨4, lr, lo, hi⟩ l r) = uniX (catX (derT c l) r.post) (derT c r)) := by unfold Hid; simp [derT, ← HNL.out]
          go_upto_region 11 with fail
          have HKC : Hid (∀ w', Blk w' A_145 26 #[.slice X_168o X_168n X_168c] → w'.cell? ⟨A_145, 0, none⟩ = some (.slice X_168o X_168n X_168c)) := by
            intro w' hb0
            obtain ⟨r00, _⟩ := hb0.one
            exact r00
          refine wp_region_held_drew (S := (fun w' => w'.cell? ⟨A_145, 0, none⟩ = some (.slice X_168o X_168n X_168c))) (by kernel_rfl) (HKC.out _ (BX5.out.drew)) (fun hHeld => ?_)
          refine take_yes 0 (some 47) (v := ?_) rfl (by kernel_rfl) (by kernel_rfl) (by kernel_rfl) (by kernel_rfl) (fun _ _ _ h => h) (by rfl) (by assumption) ?_ ?_
          rotate_left
          · (intro w' hSw; (try dsimp only at hSw); go_simp; try with_reducible rfl)
          try simp only [Act.put, List.setIfInBounds_toArray, List.set_cons_zero, List.set_cons_succ]
          refine take_yes 1 (some 48) (v := ?_) rfl (by kernel_rfl) (by kernel_rfl) (by kernel_rfl) (by kernel_rfl) (fun _ _ _ h => h) (by rfl) (by assumption) ?_ ?_
          rotate_left
          · (intro w' hSw; (try dsimp only at hSw); go_simp; try with_reducible rfl)
          try simp only [Act.put, List.setIfInBounds_toArray, List.set_cons_zero, List.set_cons_succ]
          refine take_yes 2 (some 49) (v := ?_) rfl (by kernel_rfl) (by kernel_rfl) (by kernel_rfl) (by kernel_rfl) (fun _ _ _ h => h) (by rfl) (by assumption) ?_ ?_
          rotate_left
          · (intro w' hSw; (try dsimp only at hSw); go_simp; try with_reducible rfl)
          try simp only [Act.put, List.setIfInBounds_toArray, List.set_cons_zero, List.set_cons_succ]
          refine take_yes 3 (some 50) (v := ?_) rfl (by kernel_rfl) (by kernel_rfl) (by kernel_rfl) (by kernel_rfl) (fun _ _ _ h => h) (by rfl) (by assumption) ?_ ?_
          rotate_left
          · (intro w' hSw; (try dsimp only at hSw); go_simp; try with_reducible rfl)
          try simp only [Act.put, List.setIfInBounds_toArray, List.set_cons_zero, List.set_cons_succ]
          refine take_yes 4 (some 51) (v := ?_) rfl (by kernel_rfl) (by kernel_rfl) (by kernel_rfl) (by kernel_rfl) (fun _ _ _ h => h) (by rfl) (by assumption) ?_ ?_
          rotate_left
          · (intro w' hSw; (try dsimp only at hSw); go_simp; try with_reducible rfl)
          try simp only [Act.put, List.setIfInBounds_toArray, List.set_cons_zero, List.set_cons_succ]
          refine take_yes 5 (some 52) (v := ?_) rfl (by kernel_rfl) (by kernel_rfl) (by kernel_rfl) (by kernel_rfl) (fun _ _ _ h => h) (by rfl) (by assumption) ?_ ?_
          rotate_left
          · (intro w' hSw; (try dsimp only at hSw); go_simp; try with_reducible rfl)
          try simp only [Act.put, List.setIfInBounds_toArray, List.set_cons_zero, List.set_cons_succ]
          refine take_run 6 rfl (by kernel_rfl) (by rfl) (fun K hK => ?_)
          have dr_189 : Since w5 w5.drew := (Since.refl _).drew
          have c_190 := Since.trans c5 dr_189
          have M_191 := Lib.hid (BX5.out.since dr_189)
          clear BX5
          have M_192 := Lib.hid (BR5.out.since dr_189)
          clear BR5
          have M_193 := Lib.hid (HO5.out.since dr_189)
          clear HO5
          clear dr_189
          go_simp
          try rw [show ((q : Int) + (m : Int)).toNat - q = m from by omega]
          try rw [show ((q : Int) + (m : Int)).toNat = q + m from by omega]
          refine (hr (some ⟨b, off + q * 4, none⟩) m (ac - q) _ hro (HT2.out.since c_190) (by omega) hmr.out (by omega) HINR.out).mono ?_
          rintro en q_184 ⟨v_185, rfl, ⟨v_185b, rfl, ho_186, _⟩, hs_187⟩
          obtain ⟨x_188o, x_188n, x_188c, x_188N, rfl⟩ := ho_186.lenN
          have O_194 := Lib.hid (ho_186.mono (base' := w.heap.size) c_190.size)
          clear ho_186
          have c_195 := Since.trans c_190 hs_187
          have M_196 := Lib.hid (M_191.out.since hs_187)
          clear M_191
          have M_197 := Lib.hid (M_192.out.since hs_187)
          clear M_192
          have M_198 := Lib.hid (M_193.out.since hs_187)
          clear M_193
          clear hs_187
          refine hK.out _ _ (HKC.out _ M_196.out) (fun hHeld_199 => ?_)
          clear hK K hHeld
          try simp only [Act.put, List.setIfInBounds_toArray, List.set_cons_zero, List.set_cons_succ]
          refine take_run 7 rfl (by kernel_rfl) (by rfl) (fun K hK => ?_)
          go_simp
          refine (specUE_any _ _ (catX (derT c l) r.post) (derT c r) _ ⟨_, rfl, M_198.out.at⟩ ⟨_, rfl, O_194.out.at⟩ (by have := catX_len (derT c l) r.post; have := HPR.out; omega) (by omega)).mono ?_
          rintro en q_200 ⟨v_201, rfl, ⟨v_201b, rfl, ho_202, _⟩, hs_203⟩
          obtain ⟨Z_204o, Z_204n, Z_204c, Z_204N, rfl⟩ := ho_202.lenN
          have O_205 := Lib.hid (ho_202.mono (base' := w.heap.size) c_195.size)
          clear ho_202
          have c_206 := Since.trans c_195 hs_203
          have M_207 := Lib.hid (M_196.out.since hs_203)
          clear M_196
          have M_208 := Lib.hid (M_197.out.since hs_203)
          clear M_197
          have M_209 := Lib.hid (M_198.out.since hs_203)
          clear M_198
          have M_210 := Lib.hid (O_194.out.since hs_203)
          clear O_194
          clear hs_203
          refine hK.out _ _ (HKC.out _ M_207.out) (fun hHeld_211 => ?_)
          clear hK K hHeld_199
          try simp only [Act.put, List.setIfInBounds_toArray, List.set_cons_zero, List.set_cons_succ]
          refine take_run 8 rfl (by kernel_rfl) (by rfl) (fun K hK => ?_)
          obtain ⟨q0, q1⟩ := M_208.out.one
          go_simp
          clear q0 q1
          have c_212 := Since.setCell c_206 (a := ⟨w.heap.size, 0, none⟩) (by show w.heap.size ≤ w.heap.size; omega) (.slice Z_204o Z_204n Z_204c)
          have M_214 := Lib.hid (M_209.out.farT M_208.out (by decide) 0 (.slice Z_204o Z_204n Z_204c))
          clear M_209
          have M_215 := Lib.hid (M_210.out.farT M_208.out (by decide) 0 (.slice Z_204o Z_204n Z_204c))
          clear M_210
          have M_216 := Lib.hid (O_205.out.farT M_208.out (by decide) 0 (.slice Z_204o Z_204n Z_204c))
          clear O_205
          have M_217 := Lib.hid (M_207.out.far (p := ⟨w.heap.size, 0, none⟩) (by show A_145 ≠ w.heap.size; omega) (.slice Z_204o Z_204n Z_204c))
          clear M_207
          have B_218 := Lib.hid (M_208.out.set 0 (.slice Z_204o Z_204n Z_204c))
          clear M_208
          refine hK.out _ _ (HKC.out _ M_217.out) (fun hHeld_219 => ?_)
          clear hK K hHeld_211
          try simp only [Act.put, List.setIfInBounds_toArray, List.set_cons_zero, List.set_cons_succ]
          generalize q_200.setCell ⟨w.heap.size, 0, none⟩ (.slice Z_204o Z_204n Z_204c) = wS_213 at M_217 B_218 M_214 M_215 M_216 c_212 hHeld_219 ⊢
          refine wpAnyH_done (by kernel_rfl) ?_ _
          clear hHeld_219
          obtain ⟨r0, r1⟩ := B_218.out.one
          go_wp2
          refine bodyPost_ret (v := .agg #[.slice Z_204o Z_204n Z_204c]) (by simp [results, Tryd.results81, go_sem, *]) rfl ?_
          rw [HD.out]
          exact xout_mk M_216.out c_212
end Go.Proofs.YtiojgahjfndmdaaDoor

/- Derivatives of trees, the model's: all trees. -/
namespace Go.Proofs.YtiojgahjfndmdaaDoor
set_option maxRecDepth 100000
open Go.ChangeShapes Go.WideShapes Go.ChangeAt Go.RowKit
set_option linter.unusedVariables false
set_option linter.unusedSimpArgs false

theorem l9Deriv_any (c : Int) (T : Tr) : DerS c T := by
  induction T with
  | nil => intro ao n ac w h; exact h.elim
  | node t l r hl hr =>
    intro ao n ac w hok
    obtain ⟨kd, lr, lo, hi⟩ := t
    have hk := okT_kd hok.1
    dsimp only at hk
    rcases (by omega : kd = 1 ∨ kd = 2 ∨ kd = 3 ∨ kd = 4 ∨ kd = 5 ∨ kd = 6 ∨ kd = 7) with rfl | rfl | rfl | rfl | rfl | rfl | rfl
    · exact derS_none c lr lo hi l r hl hr ao n ac w hok
    · exact derS_empty c lr lo hi l r hl hr ao n ac w hok
    · exact derS_letter c lr lo hi l r hl hr ao n ac w hok
    · exact derS_cat c lr lo hi l r hl hr ao n ac w hok
    · exact derS_uni c lr lo hi l r hl hr ao n ac w hok
    · exact derS_star c lr lo hi l r hl hr ao n ac w hok
    · exact derS_rep c lr lo hi l r hl hr ao n ac w hok
end Go.Proofs.YtiojgahjfndmdaaDoor
