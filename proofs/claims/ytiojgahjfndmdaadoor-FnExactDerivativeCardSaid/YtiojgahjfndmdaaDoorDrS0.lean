/- Derivatives of trees, the model's: leaves and stars. -/
import Derived.Test.YtiojgahjfndmdaaDoorNul
namespace Go.Proofs.YtiojgahjfndmdaaDoor
set_option maxRecDepth 100000
open Go.ChangeShapes Go.WideShapes Go.ChangeAt Go.RowKit
set_option linter.unusedVariables false
set_option linter.unusedSimpArgs false

theorem derT_400 (c : Int) {T : Tr} (h : T.ok) (hl : T.len ≤ 400) : (derT c T).length ≤ 160000 := Nat.le_trans (derT_len c h) (Nat.le_trans (Nat.mul_le_mul hl hl) (by decide))
/-- What is shown of a tree's derivative, by trees. -/
def DerS (c : Int) (T : Tr) : Prop := ∀ (ao : Option Addr) (n ac : Nat) (w : World), T.ok → ToksAt w (.slice ao n ac) T.post → n ≤ ac → n = T.len → n ≤ 400 → (∀ x ∈ T.post, x.In) →
    Calls Tryd.prog 81 #[.slice ao n ac, .int .i64 c] w (XOut w (derT c T))
set_option maxHeartbeats 4000000 in
set_option maxRecDepth 100000 in
theorem derS_none (c lr lo hi : Int) (l r : Tr) (hl : DerS c l) (hr : DerS c r) : DerS c (.node ⟨1, lr, lo, hi⟩ l r) := by
    obtain ⟨t, hte⟩ : ∃ t : Tok, t = ⟨1, lr, lo, hi⟩ := ⟨_, rfl⟩
    rw [← hte]
    intro ao n ac w hok ha hac hn hn4 hin
    have hn9 : n ≤ 1048577 := by omega
    obtain ⟨htok, hcase⟩ := hok
    have HA := Lib.hid ha
    obtain ⟨_, _, e0, HC⟩ := ha.row
    injection e0 with e1 e2 e3
    subst e1; subst e3
    clear e2 ha
    obtain ⟨q, hq⟩ : ∃ q, q = l.post.length := ⟨_, rfl⟩
    obtain ⟨m, hm⟩ : ∃ m, m = r.post.length := ⟨_, rfl⟩
    have hnn : n = q + m + 1 := by rw [hn, hq, hm, post_len, post_len]; rfl
    have hxl : (Tr.node t l r).post.length = q + m + 1 := by rw [hq, hm]; simp [Tr.post]; omega
    clear hn
    subst hnn
    have hxq : q + m < (Tr.node t l r).post.length := by omega
    have hxt : (Tr.node t l r).post[q + m] = t := by subst hq; subst hm; exact (last_post t l r).2
    have HQ := Lib.hid hq
    have HMM := Lib.hid hm
    clear hq hm
    have HTK1 : Hid ((Tr.node t l r).post.take (q + m) = l.post ++ r.post) := by unfold Hid; rw [show (Tr.node t l r).post = (l.post ++ r.post) ++ [t] from rfl]; exact List.take_left' (by rw [HQ.out, HMM.out, List.length_append])
    obtain ⟨b, off, rfl, hb, c0, c1, c2, c3⟩ := HC.out (q + m) hxq
    rw [hxt] at c0 c1 c2 c3
    have HTI : Hid (t.In) := by have hmem := List.getElem_mem hxq; rw [hxt] at hmem; exact hin t hmem
    have HINL : Hid (∀ x ∈ l.post, x.In) := fun x hx => hin x (by simp [Tr.post, hx])
    have HINR : Hid (∀ x ∈ r.post, x.In) := fun x hx => hin x (by simp [Tr.post, hx])
    clear hxt hin hxl
    have HTA : Hid (ToksAt w (.slice (some ⟨b, off, none⟩) (q + m) ac) (l.post ++ r.post)) := by
      unfold Hid; rw [← HTK1.out]; exact toks_takeO HA.out (by omega) _ _ (fun _ _ e => e)
    have hql : Hid (q = l.len) := by unfold Hid; rw [← post_len]; exact HQ.out
    have hmr : Hid (m = r.len) := by unfold Hid; rw [← post_len]; exact HMM.out
    have hkq : ((q + m : Nat) : Int) < ((q + m + 1 : Nat) : Int) := by omega
    have hk0 : (0 : Int) ≤ ((q + m : Nat) : Int) := by omega
    have hqa : q + m ≤ ac := by omega
    have hqai : (q : Int) + (m : Int) ≤ (ac : Int) := by omega
    have hqm0 : (0 : Int) ≤ (q : Int) + (m : Int) := by omega
    have hne : ¬ (ac = q + m) := by omega
    obtain ⟨y, hy⟩ : ∃ y, y = (w.alloc (.cells #[.slice none 0 0] 26)).alloc (.cells #[.int .i64 t.kd, .int .i64 t.lr, .int .i64 t.lo, .int .i64 t.hi] 65) := ⟨_, rfl⟩
    have hsy : Since w y := by rw [hy]; exact ((Since.refl w).alloc _).alloc _
    have BT : Hid (Blk y (w.heap.size + 1) 65 #[.int .i64 t.kd, .int .i64 t.lr, .int .i64 t.lo, .int .i64 t.hi]) := by rw [hy]; exact Blk.new (by simp) _ _
    have BR : Hid (Blk y w.heap.size 26 #[.slice none 0 0]) := by rw [hy]; exact (Blk.new rfl _ _).alloc _
    have hzy : w.heap.size + 2 ≤ y.heap.size := by rw [hy]; simp
    have HY := Lib.hid hy
    obtain ⟨d0, d1, d2, d3, _⟩ := BT.out.four
    rw [hy] at d0 d1 d2 d3
    clear hy
    subst hte
    have hk17 := okT_kd htok
    rw [opN_of] at hcase
    dsimp only at c0 c1 c2 c3 d0 d1 d2 d3 BT HTI HY
    have hll : q + m + 1 ≤ 400 := hn4
    · have HD : Hid (derT c (Tr.node ⟨1, lr, lo, hi⟩ l r) = [leafK 1]) := by unfold Hid; simp [derT]
      clear hcase
      go_enter Tryd.func81, Tryd.ntmps81
      go_wp2_with fail
      rw [← HY.out]
      clear c0 c1 c2 c3 d0 d1 d2 d3
      refine (l8Leaf_any 1 _ (by decide)).mono ?_
      rintro e w9 ⟨v, rfl, ⟨b9, rfl, ho, _⟩, hs9⟩
      obtain ⟨ro, N, rc, hN, rfl⟩ := ho.lenN
      have HO : Hid (OwnK w.heap.size w9 (.slice ro N rc) _) := ho.mono hsy.size
      have hcc := hsy.trans hs9
      have BR9 := Lib.hid (BR.out.since hs9)
      clear ho
      obtain ⟨r0, r1⟩ := BR9.out.one
      go_wp2_with fail
      refine bodyPost_ret (v := .agg #[.slice ro N rc]) (by simp [results, Tryd.results81, go_sem, *]) rfl ?_
      rw [HD.out]
      exact xout_boxT HO.out hcc BR9.out (by decide) (Nat.le_refl _) _
set_option maxHeartbeats 4000000 in
set_option maxRecDepth 100000 in
theorem derS_empty (c lr lo hi : Int) (l r : Tr) (hl : DerS c l) (hr : DerS c r) : DerS c (.node ⟨2, lr, lo, hi⟩ l r) := by
    obtain ⟨t, hte⟩ : ∃ t : Tok, t = ⟨2, lr, lo, hi⟩ := ⟨_, rfl⟩
    rw [← hte]
    intro ao n ac w hok ha hac hn hn4 hin
    have hn9 : n ≤ 1048577 := by omega
    obtain ⟨htok, hcase⟩ := hok
    have HA := Lib.hid ha
    obtain ⟨_, _, e0, HC⟩ := ha.row
    injection e0 with e1 e2 e3
    subst e1; subst e3
    clear e2 ha
    obtain ⟨q, hq⟩ : ∃ q, q = l.post.length := ⟨_, rfl⟩
    obtain ⟨m, hm⟩ : ∃ m, m = r.post.length := ⟨_, rfl⟩
    have hnn : n = q + m + 1 := by rw [hn, hq, hm, post_len, post_len]; rfl
    have hxl : (Tr.node t l r).post.length = q + m + 1 := by rw [hq, hm]; simp [Tr.post]; omega
    clear hn
    subst hnn
    have hxq : q + m < (Tr.node t l r).post.length := by omega
    have hxt : (Tr.node t l r).post[q + m] = t := by subst hq; subst hm; exact (last_post t l r).2
    have HQ := Lib.hid hq
    have HMM := Lib.hid hm
    clear hq hm
    have HTK1 : Hid ((Tr.node t l r).post.take (q + m) = l.post ++ r.post) := by unfold Hid; rw [show (Tr.node t l r).post = (l.post ++ r.post) ++ [t] from rfl]; exact List.take_left' (by rw [HQ.out, HMM.out, List.length_append])
    obtain ⟨b, off, rfl, hb, c0, c1, c2, c3⟩ := HC.out (q + m) hxq
    rw [hxt] at c0 c1 c2 c3
    have HTI : Hid (t.In) := by have hmem := List.getElem_mem hxq; rw [hxt] at hmem; exact hin t hmem
    have HINL : Hid (∀ x ∈ l.post, x.In) := fun x hx => hin x (by simp [Tr.post, hx])
    have HINR : Hid (∀ x ∈ r.post, x.In) := fun x hx => hin x (by simp [Tr.post, hx])
    clear hxt hin hxl
    have HTA : Hid (ToksAt w (.slice (some ⟨b, off, none⟩) (q + m) ac) (l.post ++ r.post)) := by
      unfold Hid; rw [← HTK1.out]; exact toks_takeO HA.out (by omega) _ _ (fun _ _ e => e)
    have hql : Hid (q = l.len) := by unfold Hid; rw [← post_len]; exact HQ.out
    have hmr : Hid (m = r.len) := by unfold Hid; rw [← post_len]; exact HMM.out
    have hkq : ((q + m : Nat) : Int) < ((q + m + 1 : Nat) : Int) := by omega
    have hk0 : (0 : Int) ≤ ((q + m : Nat) : Int) := by omega
    have hqa : q + m ≤ ac := by omega
    have hqai : (q : Int) + (m : Int) ≤ (ac : Int) := by omega
    have hqm0 : (0 : Int) ≤ (q : Int) + (m : Int) := by omega
    have hne : ¬ (ac = q + m) := by omega
    obtain ⟨y, hy⟩ : ∃ y, y = (w.alloc (.cells #[.slice none 0 0] 26)).alloc (.cells #[.int .i64 t.kd, .int .i64 t.lr, .int .i64 t.lo, .int .i64 t.hi] 65) := ⟨_, rfl⟩
    have hsy : Since w y := by rw [hy]; exact ((Since.refl w).alloc _).alloc _
    have BT : Hid (Blk y (w.heap.size + 1) 65 #[.int .i64 t.kd, .int .i64 t.lr, .int .i64 t.lo, .int .i64 t.hi]) := by rw [hy]; exact Blk.new (by simp) _ _
    have BR : Hid (Blk y w.heap.size 26 #[.slice none 0 0]) := by rw [hy]; exact (Blk.new rfl _ _).alloc _
    have hzy : w.heap.size + 2 ≤ y.heap.size := by rw [hy]; simp
    have HY := Lib.hid hy
    obtain ⟨d0, d1, d2, d3, _⟩ := BT.out.four
    rw [hy] at d0 d1 d2 d3
    clear hy
    subst hte
    have hk17 := okT_kd htok
    rw [opN_of] at hcase
    dsimp only at c0 c1 c2 c3 d0 d1 d2 d3 BT HTI HY
    have hll : q + m + 1 ≤ 400 := hn4
    · have HD : Hid (derT c (Tr.node ⟨2, lr, lo, hi⟩ l r) = [leafK 1]) := by unfold Hid; simp [derT]
      clear hcase
      go_enter Tryd.func81, Tryd.ntmps81
      go_wp2_with fail
      rw [← HY.out]
      clear c0 c1 c2 c3 d0 d1 d2 d3
      refine (l8Leaf_any 1 _ (by decide)).mono ?_
      rintro e w9 ⟨v, rfl, ⟨b9, rfl, ho, _⟩, hs9⟩
      obtain ⟨ro, N, rc, hN, rfl⟩ := ho.lenN
      have HO : Hid (OwnK w.heap.size w9 (.slice ro N rc) _) := ho.mono hsy.size
      have hcc := hsy.trans hs9
      have BR9 := Lib.hid (BR.out.since hs9)
      clear ho
      obtain ⟨r0, r1⟩ := BR9.out.one
      go_wp2_with fail
      refine bodyPost_ret (v := .agg #[.slice ro N rc]) (by simp [results, Tryd.results81, go_sem, *]) rfl ?_
      rw [HD.out]
      exact xout_boxT HO.out hcc BR9.out (by decide) (Nat.le_refl _) _
set_option maxHeartbeats 4000000 in
set_option maxRecDepth 100000 in
theorem derS_letter (c lr lo hi : Int) (l r : Tr) (hl : DerS c l) (hr : DerS c r) : DerS c (.node ⟨3, lr, lo, hi⟩ l r) := by
    obtain ⟨t, hte⟩ : ∃ t : Tok, t = ⟨3, lr, lo, hi⟩ := ⟨_, rfl⟩
    rw [← hte]
    intro ao n ac w hok ha hac hn hn4 hin
    have hn9 : n ≤ 1048577 := by omega
    obtain ⟨htok, hcase⟩ := hok
    have HA := Lib.hid ha
    obtain ⟨_, _, e0, HC⟩ := ha.row
    injection e0 with e1 e2 e3
    subst e1; subst e3
    clear e2 ha
    obtain ⟨q, hq⟩ : ∃ q, q = l.post.length := ⟨_, rfl⟩
    obtain ⟨m, hm⟩ : ∃ m, m = r.post.length := ⟨_, rfl⟩
    have hnn : n = q + m + 1 := by rw [hn, hq, hm, post_len, post_len]; rfl
    have hxl : (Tr.node t l r).post.length = q + m + 1 := by rw [hq, hm]; simp [Tr.post]; omega
    clear hn
    subst hnn
    have hxq : q + m < (Tr.node t l r).post.length := by omega
    have hxt : (Tr.node t l r).post[q + m] = t := by subst hq; subst hm; exact (last_post t l r).2
    have HQ := Lib.hid hq
    have HMM := Lib.hid hm
    clear hq hm
    have HTK1 : Hid ((Tr.node t l r).post.take (q + m) = l.post ++ r.post) := by unfold Hid; rw [show (Tr.node t l r).post = (l.post ++ r.post) ++ [t] from rfl]; exact List.take_left' (by rw [HQ.out, HMM.out, List.length_append])
    obtain ⟨b, off, rfl, hb, c0, c1, c2, c3⟩ := HC.out (q + m) hxq
    rw [hxt] at c0 c1 c2 c3
    have HTI : Hid (t.In) := by have hmem := List.getElem_mem hxq; rw [hxt] at hmem; exact hin t hmem
    have HINL : Hid (∀ x ∈ l.post, x.In) := fun x hx => hin x (by simp [Tr.post, hx])
    have HINR : Hid (∀ x ∈ r.post, x.In) := fun x hx => hin x (by simp [Tr.post, hx])
    clear hxt hin hxl
    have HTA : Hid (ToksAt w (.slice (some ⟨b, off, none⟩) (q + m) ac) (l.post ++ r.post)) := by
      unfold Hid; rw [← HTK1.out]; exact toks_takeO HA.out (by omega) _ _ (fun _ _ e => e)
    have hql : Hid (q = l.len) := by unfold Hid; rw [← post_len]; exact HQ.out
    have hmr : Hid (m = r.len) := by unfold Hid; rw [← post_len]; exact HMM.out
    have hkq : ((q + m : Nat) : Int) < ((q + m + 1 : Nat) : Int) := by omega
    have hk0 : (0 : Int) ≤ ((q + m : Nat) : Int) := by omega
    have hqa : q + m ≤ ac := by omega
    have hqai : (q : Int) + (m : Int) ≤ (ac : Int) := by omega
    have hqm0 : (0 : Int) ≤ (q : Int) + (m : Int) := by omega
    have hne : ¬ (ac = q + m) := by omega
    obtain ⟨y, hy⟩ : ∃ y, y = (w.alloc (.cells #[.slice none 0 0] 26)).alloc (.cells #[.int .i64 t.kd, .int .i64 t.lr, .int .i64 t.lo, .int .i64 t.hi] 65) := ⟨_, rfl⟩
    have hsy : Since w y := by rw [hy]; exact ((Since.refl w).alloc _).alloc _
    have BT : Hid (Blk y (w.heap.size + 1) 65 #[.int .i64 t.kd, .int .i64 t.lr, .int .i64 t.lo, .int .i64 t.hi]) := by rw [hy]; exact Blk.new (by simp) _ _
    have BR : Hid (Blk y w.heap.size 26 #[.slice none 0 0]) := by rw [hy]; exact (Blk.new rfl _ _).alloc _
    have hzy : w.heap.size + 2 ≤ y.heap.size := by rw [hy]; simp
    have HY := Lib.hid hy
    obtain ⟨d0, d1, d2, d3, _⟩ := BT.out.four
    rw [hy] at d0 d1 d2 d3
    clear hy
    subst hte
    have hk17 := okT_kd htok
    rw [opN_of] at hcase
    dsimp only at c0 c1 c2 c3 d0 d1 d2 d3 BT HTI HY
    have hll : q + m + 1 ≤ 400 := hn4
    · clear hcase
      by_cases hc : lr = c
      · have HD : Hid (derT c (Tr.node ⟨3, lr, lo, hi⟩ l r) = [leafK 2]) := by unfold Hid; simp [derT, hc]
        have ec : (lr == c) = true := by simp [hc]
        clear hc
        go_enter Tryd.func81, Tryd.ntmps81
        go_wp2_with fail
        rw [← HY.out]
        clear c0 c1 c2 c3 d0 d1 d2 d3
        refine (l8Leaf_any 2 _ (by decide)).mono ?_
        rintro e w9 ⟨v, rfl, ⟨b9, rfl, ho, _⟩, hs9⟩
        obtain ⟨ro, N, rc, hN, rfl⟩ := ho.lenN
        have HO : Hid (OwnK w.heap.size w9 (.slice ro N rc) _) := ho.mono hsy.size
        have hcc := hsy.trans hs9
        have BR9 := Lib.hid (BR.out.since hs9)
        clear ho
        obtain ⟨r0, r1⟩ := BR9.out.one
        go_wp2_with fail
        refine bodyPost_ret (v := .agg #[.slice ro N rc]) (by simp [results, Tryd.results81, go_sem, *]) rfl ?_
        rw [HD.out]
        exact xout_boxT HO.out hcc BR9.out (by decide) (Nat.le_refl _) _
      · have HD : Hid (derT c (Tr.node ⟨3, lr, lo, hi⟩ l r) = [leafK 1]) := by unfold Hid; simp [derT, hc]
        have ec : (lr == c) = false := by simp [hc]
        clear hc
        go_enter Tryd.func81, Tryd.ntmps81
        go_wp2_with fail
        rw [← HY.out]
        clear c0 c1 c2 c3 d0 d1 d2 d3
        refine (l8Leaf_any 1 _ (by decide)).mono ?_
        rintro e w9 ⟨v, rfl, ⟨b9, rfl, ho, _⟩, hs9⟩
        obtain ⟨ro, N, rc, hN, rfl⟩ := ho.lenN
        have HO : Hid (OwnK w.heap.size w9 (.slice ro N rc) _) := ho.mono hsy.size
        have hcc := hsy.trans hs9
        have BR9 := Lib.hid (BR.out.since hs9)
        clear ho
        obtain ⟨r0, r1⟩ := BR9.out.one
        go_wp2_with fail
        refine bodyPost_ret (v := .agg #[.slice ro N rc]) (by simp [results, Tryd.results81, go_sem, *]) rfl ?_
        rw [HD.out]
        exact xout_boxT HO.out hcc BR9.out (by decide) (Nat.le_refl _) _
set_option maxHeartbeats 4000000 in
set_option maxRecDepth 100000 in
theorem derS_star (c lr lo hi : Int) (l r : Tr) (hl : DerS c l) (hr : DerS c r) : DerS c (.node ⟨6, lr, lo, hi⟩ l r) := by
    obtain ⟨t, hte⟩ : ∃ t : Tok, t = ⟨6, lr, lo, hi⟩ := ⟨_, rfl⟩
    rw [← hte]
    intro ao n ac w hok ha hac hn hn4 hin
    have hn9 : n ≤ 1048577 := by omega
    obtain ⟨htok, hcase⟩ := hok
    have HA := Lib.hid ha
    obtain ⟨_, _, e0, HC⟩ := ha.row
    injection e0 with e1 e2 e3
    subst e1; subst e3
    clear e2 ha
    obtain ⟨q, hq⟩ : ∃ q, q = l.post.length := ⟨_, rfl⟩
    obtain ⟨m, hm⟩ : ∃ m, m = r.post.length := ⟨_, rfl⟩
    have hnn : n = q + m + 1 := by rw [hn, hq, hm, post_len, post_len]; rfl
    have hxl : (Tr.node t l r).post.length = q + m + 1 := by rw [hq, hm]; simp [Tr.post]; omega
    clear hn
    subst hnn
    have hxq : q + m < (Tr.node t l r).post.length := by omega
    have hxt : (Tr.node t l r).post[q + m] = t := by subst hq; subst hm; exact (last_post t l r).2
    have HQ := Lib.hid hq
    have HMM := Lib.hid hm
    clear hq hm
    have HTK1 : Hid ((Tr.node t l r).post.take (q + m) = l.post ++ r.post) := by unfold Hid; rw [show (Tr.node t l r).post = (l.post ++ r.post) ++ [t] from rfl]; exact List.take_left' (by rw [HQ.out, HMM.out, List.length_append])
    obtain ⟨b, off, rfl, hb, c0, c1, c2, c3⟩ := HC.out (q + m) hxq
    rw [hxt] at c0 c1 c2 c3
    have HTI : Hid (t.In) := by have hmem := List.getElem_mem hxq; rw [hxt] at hmem; exact hin t hmem
    have HINL : Hid (∀ x ∈ l.post, x.In) := fun x hx => hin x (by simp [Tr.post, hx])
    have HINR : Hid (∀ x ∈ r.post, x.In) := fun x hx => hin x (by simp [Tr.post, hx])
    clear hxt hin hxl
    have HTA : Hid (ToksAt w (.slice (some ⟨b, off, none⟩) (q + m) ac) (l.post ++ r.post)) := by
      unfold Hid; rw [← HTK1.out]; exact toks_takeO HA.out (by omega) _ _ (fun _ _ e => e)
    have hql : Hid (q = l.len) := by unfold Hid; rw [← post_len]; exact HQ.out
    have hmr : Hid (m = r.len) := by unfold Hid; rw [← post_len]; exact HMM.out
    have hkq : ((q + m : Nat) : Int) < ((q + m + 1 : Nat) : Int) := by omega
    have hk0 : (0 : Int) ≤ ((q + m : Nat) : Int) := by omega
    have hqa : q + m ≤ ac := by omega
    have hqai : (q : Int) + (m : Int) ≤ (ac : Int) := by omega
    have hqm0 : (0 : Int) ≤ (q : Int) + (m : Int) := by omega
    have hne : ¬ (ac = q + m) := by omega
    obtain ⟨y, hy⟩ : ∃ y, y = (w.alloc (.cells #[.slice none 0 0] 26)).alloc (.cells #[.int .i64 t.kd, .int .i64 t.lr, .int .i64 t.lo, .int .i64 t.hi] 65) := ⟨_, rfl⟩
    have hsy : Since w y := by rw [hy]; exact ((Since.refl w).alloc _).alloc _
    have BT : Hid (Blk y (w.heap.size + 1) 65 #[.int .i64 t.kd, .int .i64 t.lr, .int .i64 t.lo, .int .i64 t.hi]) := by rw [hy]; exact Blk.new (by simp) _ _
    have BR : Hid (Blk y w.heap.size 26 #[.slice none 0 0]) := by rw [hy]; exact (Blk.new rfl _ _).alloc _
    have hzy : w.heap.size + 2 ≤ y.heap.size := by rw [hy]; simp
    have HY := Lib.hid hy
    obtain ⟨d0, d1, d2, d3, _⟩ := BT.out.four
    rw [hy] at d0 d1 d2 d3
    clear hy
    subst hte
    have hk17 := okT_kd htok
    rw [opN_of] at hcase
    dsimp only at c0 c1 c2 c3 d0 d1 d2 d3 BT HTI HY
    have hll : q + m + 1 ≤ 400 := hn4
    · obtain ⟨hlo, rfl⟩ : l.ok ∧ r = .nil := by
        rcases hcase with ⟨h0, _⟩ | ⟨_, a, b⟩ | ⟨h2, _⟩
        · simp at h0
        · exact ⟨a, b⟩
        · simp at h2
      have hm0 : m = 0 := HMM.out
      have hlq : Hid (q + m = l.len) := by unfold Hid; rw [← post_len, hm0, HQ.out]; rfl
      have hdl : (derT c l).length ≤ 160000 := derT_400 c hlo (by have := hlq.out; omega)
      have HPL : Hid (l.post.length = q + m) := by unfold Hid; rw [hm0, HQ.out]; rfl
      clear hcase hm0
      have HT1 : Hid (ToksAt w (.slice (some ⟨b, off, none⟩) (q + m) ac) l.post) := by have := HTA.out; rwa [show l.post ++ Tr.nil.post = l.post from List.append_nil _] at this
      have HD : Hid (derT c (Tr.node ⟨6, lr, lo, hi⟩ l .nil) = catX (derT c l) (Tr.node ⟨6, lr, lo, hi⟩ l .nil).post) := by unfold Hid; simp [derT]
      have HPN : Hid ((Tr.node ⟨6, lr, lo, hi⟩ l .nil).post.length = q + m + 1) := by unfold Hid; have := HPL.out; simp [Tr.post]; omega
      go_enter Tryd.func81, Tryd.ntmps81
      go_wp2_with fail
      rw [← HY.out]
      clear c0 c1 c2 c3 d0 d1 d2 d3
      try rw [show ((q : Int) + (m : Int)).toNat - q = m from by omega]
      try rw [show ((q : Int) + (m : Int)).toNat = q + m from by omega]
      refine (hl _ (q + m) ac _ hlo (HT1.out.since hsy) (by omega) hlq.out (by omega) HINL.out).mono ?_
      rintro e w3 ⟨v3, rfl, ⟨b3, rfl, ho3, _⟩, hs3⟩
      obtain ⟨uo, un, uc, huN, rfl⟩ := ho3.lenN
      have HO3 := Lib.hid ho3
      clear ho3
      have hyw3 := hsy.trans hs3
      go_wp2_with fail
      refine (specCE_any _ _ (derT c l) (Tr.node ⟨6, lr, lo, hi⟩ l .nil).post _ ⟨_, rfl, HO3.out.at⟩ ⟨_, rfl, HA.out.since hyw3⟩ (by omega) (by have := HPN.out; omega)).mono ?_
      rintro e w9 ⟨v, rfl, ⟨b9, rfl, ho, _⟩, hs9⟩
      have BR3 := Lib.hid (BR.out.since hs3)
      obtain ⟨ro, N, rc, hN, rfl⟩ := ho.lenN
      have HO : Hid (OwnK w.heap.size w9 (.slice ro N rc) _) := ho.mono hyw3.size
      have hcc := hyw3.trans hs9
      have BR9 := Lib.hid (BR3.out.since hs9)
      clear ho
      obtain ⟨r0, r1⟩ := BR9.out.one
      go_wp2_with fail
      refine bodyPost_ret (v := .agg #[.slice ro N rc]) (by simp [results, Tryd.results81, go_sem, *]) rfl ?_
      rw [HD.out]
      exact xout_boxT HO.out hcc BR9.out (by decide) (Nat.le_refl _) _
end Go.Proofs.YtiojgahjfndmdaaDoor
