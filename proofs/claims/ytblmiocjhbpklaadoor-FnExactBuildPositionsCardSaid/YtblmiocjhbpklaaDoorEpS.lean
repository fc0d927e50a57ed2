/- The expansion, the model's. -/
import Derived.Test.YtblmiocjhbpklaaDoorEpT
namespace Go.Proofs.YtblmiocjhbpklaaDoor
set_option maxRecDepth 100000
open Go.ChangeShapes Go.WideShapes Go.ChangeAt Go.RowKit
set_option linter.unusedVariables false
set_option linter.unusedSimpArgs false

/-- What is shown of a tree's expansion, by trees. -/
def ExpS (T : Tr) : Prop := ∀ (ao : Option Addr) (n ac : Nat) (w : World), T.ok → ToksAt w (.slice ao n ac) T.post → n ≤ ac → n = T.len → n ≤ 1048577 → (∀ x ∈ T.post, x.In) → szT T ≤ 5000 →
    Calls Tryd.prog 67 #[.slice ao n ac] w (XOut w (exT T).post)
theorem exT_small {T : Tr} (h : T.ok) (hs : szT T ≤ 5000) : (exT T).post.length ≤ 5000 := by
  rw [post_len]; exact Nat.le_trans (exT_len h hs) hs
set_option maxHeartbeats 4000000 in
set_option maxRecDepth 100000 in
theorem expS_none (lr lo hi : Int) (l r : Tr) (hl : ExpS l) (hr : ExpS r) : ExpS (.node ⟨1, lr, lo, hi⟩ l r) := by
    obtain ⟨t, hte⟩ : ∃ t : Tok, t = ⟨1, lr, lo, hi⟩ := ⟨_, rfl⟩
    rw [← hte]
    intro ao n ac w hok ha hac hn hn9 hin hsz
    obtain ⟨htok, hcase⟩ := hok
    have HA := Lib.hid ha
    obtain ⟨_, _, e0, HC⟩ := ha.row
    injection e0 with e1 e2 e3
    subst e1; subst e3
    clear e2 ha
    obtain ⟨q, hq⟩ : ∃ q, q = l.post.length := ⟨_, rfl⟩
    obtain ⟨m, hm⟩ : ∃ m, m = r.post.length := ⟨_, rfl⟩
    have hnn : n = q + m + 1 := by rw [hn, hq, hm, post_len, post_len]; rfl
    have hxl : (Tr.node t l r).post.length = q + m + 1 := by rw [hq, hm]; simp [Tr.post]; omega
    clear hn
    subst hnn
    have hxq : q + m < (Tr.node t l r).post.length := by omega
    have hxt : (Tr.node t l r).post[q + m] = t := by subst hq; subst hm; exact (last_post t l r).2
    have HQ := Lib.hid hq
    have HMM := Lib.hid hm
    clear hq hm
    have HTK1 : Hid ((Tr.node t l r).post.take (q + m) = l.post ++ r.post) := by unfold Hid; rw [show (Tr.node t l r).post = (l.post ++ r.post) ++ [t] from rfl]; exact List.take_left' (by rw [HQ.out, HMM.out, List.length_append])
    obtain ⟨b, off, rfl, hb, c0, c1, c2, c3⟩ := HC.out (q + m) hxq
    rw [hxt] at c0 c1 c2 c3
    have HTI : Hid (t.In) := by have hmem := List.getElem_mem hxq; rw [hxt] at hmem; exact hin t hmem
    have HINL : Hid (∀ x ∈ l.post, x.In) := fun x hx => hin x (by simp [Tr.post, hx])
    have HINR : Hid (∀ x ∈ r.post, x.In) := fun x hx => hin x (by simp [Tr.post, hx])
    clear hxt hin hxl
    have HTA : Hid (ToksAt w (.slice (some ⟨b, off, none⟩) (q + m) ac) (l.post ++ r.post)) := by
      unfold Hid; rw [← HTK1.out]; exact toks_takeO HA.out (by omega) _ _ (fun _ _ e => e)
    have hql : Hid (q = l.len) := by unfold Hid; rw [← post_len]; exact HQ.out
    have hmr : Hid (m = r.len) := by unfold Hid; rw [← post_len]; exact HMM.out
    have hkq : ((q + m : Nat) : Int) < ((q + m + 1 : Nat) : Int) := by omega
    have hk0 : (0 : Int) ≤ ((q + m : Nat) : Int) := by omega
    have hqa : q + m ≤ ac := by omega
    have hqai : (q : Int) + (m : Int) ≤ (ac : Int) := by omega
    have hqm0 : (0 : Int) ≤ (q : Int) + (m : Int) := by omega
    have hne : ¬ (ac = q + m) := by omega
    obtain ⟨y, hy⟩ : ∃ y, y = (w.alloc (.cells #[.slice none 0 0] 26)).alloc (.cells #[.int .i64 t.kd, .int .i64 t.lr, .int .i64 t.lo, .int .i64 t.hi] 90) := ⟨_, rfl⟩
    have hsy : Since w y := by rw [hy]; exact ((Since.refl w).alloc _).alloc _
    have BT : Hid (Blk y (w.heap.size + 1) 90 #[.int .i64 t.kd, .int .i64 t.lr, .int .i64 t.lo, .int .i64 t.hi]) := by rw [hy]; exact Blk.new (by simp) _ _
    have BR : Hid (Blk y w.heap.size 26 #[.slice none 0 0]) := by rw [hy]; exact (Blk.new rfl _ _).alloc _
    have hzy : w.heap.size + 2 ≤ y.heap.size := by rw [hy]; simp
    have HY := Lib.hid hy
    obtain ⟨d0, d1, d2, d3, _⟩ := BT.out.four
    rw [hy] at d0 d1 d2 d3
    clear hy
    subst hte
    have hk17 := okT_kd htok
    rw [opN_of] at hcase
    dsimp only at c0 c1 c2 c3 d0 d1 d2 d3 BT HTI HY
    have HD : Hid ((exT (Tr.node ⟨1, lr, lo, hi⟩ l r)).post = [⟨1, lr, lo, hi⟩]) := by
      unfold Hid
      rcases hcase with ⟨_, rfl, rfl⟩ | ⟨h1, _⟩ | ⟨h2, _⟩
      · simp [exT, Tr.post]
      · simp at h1
      · simp at h2
    clear hcase hsz
    have HSX : Hid (Since w ((w.alloc (.cells #[.slice (some ⟨w.heap.size + 1 + 1, 0, none⟩) 1 1] 26)).alloc (.cells #[.int .i64 1, .int .i64 lr, .int .i64 lo, .int .i64 hi] 90))) := ((Since.refl w).alloc _).alloc _
    have HXO := Lib.hid (xout_mk (ownK_one w _ HSX.out ⟨1, lr, lo, hi⟩ HTI.out (w.heap.size + 1 + 1) (by simp)) (HSX.out.alloc (.cells #[.int .i64 1, .int .i64 lr, .int .i64 lo, .int .i64 hi] 90)))
    go_enter Tryd.func67, Tryd.ntmps67
    go_wp2_with fail
    refine bodyPost_ret (v := .agg #[.slice (some ⟨w.heap.size + 1 + 1, 0, none⟩) 1 1]) (by simp [results, Tryd.results67, go_sem, *]) rfl ?_
    rw [HD.out]
    exact HXO.out
set_option maxHeartbeats 4000000 in
set_option maxRecDepth 100000 in
theorem expS_empty (lr lo hi : Int) (l r : Tr) (hl : ExpS l) (hr : ExpS r) : ExpS (.node ⟨2, lr, lo, hi⟩ l r) := by
    obtain ⟨t, hte⟩ : ∃ t : Tok, t = ⟨2, lr, lo, hi⟩ := ⟨_, rfl⟩
    rw [← hte]
    intro ao n ac w hok ha hac hn hn9 hin hsz
    obtain ⟨htok, hcase⟩ := hok
    have HA := Lib.hid ha
    obtain ⟨_, _, e0, HC⟩ := ha.row
    injection e0 with e1 e2 e3
    subst e1; subst e3
    clear e2 ha
    obtain ⟨q, hq⟩ : ∃ q, q = l.post.length := ⟨_, rfl⟩
    obtain ⟨m, hm⟩ : ∃ m, m = r.post.length := ⟨_, rfl⟩
    have hnn : n = q + m + 1 := by rw [hn, hq, hm, post_len, post_len]; rfl
    have hxl : (Tr.node t l r).post.length = q + m + 1 := by rw [hq, hm]; simp [Tr.post]; omega
    clear hn
    subst hnn
    have hxq : q + m < (Tr.node t l r).post.length := by omega
    have hxt : (Tr.node t l r).post[q + m] = t := by subst hq; subst hm; exact (last_post t l r).2
    have HQ := Lib.hid hq
    have HMM := Lib.hid hm
    clear hq hm
    have HTK1 : Hid ((Tr.node t l r).post.take (q + m) = l.post ++ r.post) := by unfold Hid; rw [show (Tr.node t l r).post = (l.post ++ r.post) ++ [t] from rfl]; exact List.take_left' (by rw [HQ.out, HMM.out, List.length_append])
    obtain ⟨b, off, rfl, hb, c0, c1, c2, c3⟩ := HC.out (q + m) hxq
    rw [hxt] at c0 c1 c2 c3
    have HTI : Hid (t.In) := by have hmem := List.getElem_mem hxq; rw [hxt] at hmem; exact hin t hmem
    have HINL : Hid (∀ x ∈ l.post, x.In) := fun x hx => hin x (by simp [Tr.post, hx])
    have HINR : Hid (∀ x ∈ r.post, x.In) := fun x hx => hin x (by simp [Tr.post, hx])
    clear hxt hin hxl
    have HTA : Hid (ToksAt w (.slice (some ⟨b, off, none⟩) (q + m) ac) (l.post ++ r.post)) := by
      unfold Hid; rw [← HTK1.out]; exact toks_takeO HA.out (by omega) _ _ (fun _ _ e => e)
    have hql : Hid (q = l.len) := by unfold Hid; rw [← post_len]; exact HQ.out
    have hmr : Hid (m = r.len) := by unfold Hid; rw [← post_len]; exact HMM.out
    have hkq : ((q + m : Nat) : Int) < ((q + m + 1 : Nat) : Int) := by omega
    have hk0 : (0 : Int) ≤ ((q + m : Nat) : Int) := by omega
    have hqa : q + m ≤ ac := by omega
    have hqai : (q : Int) + (m : Int) ≤ (ac : Int) := by omega
    have hqm0 : (0 : Int) ≤ (q : Int) + (m : Int) := by omega
    have hne : ¬ (ac = q + m) := by omega
    obtain ⟨y, hy⟩ : ∃ y, y = (w.alloc (.cells #[.slice none 0 0] 26)).alloc (.cells #[.int .i64 t.kd, .int .i64 t.lr, .int .i64 t.lo, .int .i64 t.hi] 90) := ⟨_, rfl⟩
    have hsy : Since w y := by rw [hy]; exact ((Since.refl w).alloc _).alloc _
    have BT : Hid (Blk y (w.heap.size + 1) 90 #[.int .i64 t.kd, .int .i64 t.lr, .int .i64 t.lo, .int .i64 t.hi]) := by rw [hy]; exact Blk.new (by simp) _ _
    have BR : Hid (Blk y w.heap.size 26 #[.slice none 0 0]) := by rw [hy]; exact (Blk.new rfl _ _).alloc _
    have hzy : w.heap.size + 2 ≤ y.heap.size := by rw [hy]; simp
    have HY := Lib.hid hy
    obtain ⟨d0, d1, d2, d3, _⟩ := BT.out.four
    rw [hy] at d0 d1 d2 d3
    clear hy
    subst hte
    have hk17 := okT_kd htok
    rw [opN_of] at hcase
    dsimp only at c0 c1 c2 c3 d0 d1 d2 d3 BT HTI HY
    have HD : Hid ((exT (Tr.node ⟨2, lr, lo, hi⟩ l r)).post = [⟨2, lr, lo, hi⟩]) := by
      unfold Hid
      rcases hcase with ⟨_, rfl, rfl⟩ | ⟨h1, _⟩ | ⟨h2, _⟩
      · simp [exT, Tr.post]
      · simp at h1
      · simp at h2
    clear hcase hsz
    have HSX : Hid (Since w ((w.alloc (.cells #[.slice (some ⟨w.heap.size + 1 + 1, 0, none⟩) 1 1] 26)).alloc (.cells #[.int .i64 2, .int .i64 lr, .int .i64 lo, .int .i64 hi] 90))) := ((Since.refl w).alloc _).alloc _
    have HXO := Lib.hid (xout_mk (ownK_one w _ HSX.out ⟨2, lr, lo, hi⟩ HTI.out (w.heap.size + 1 + 1) (by simp)) (HSX.out.alloc (.cells #[.int .i64 2, .int .i64 lr, .int .i64 lo, .int .i64 hi] 90)))
    go_enter Tryd.func67, Tryd.ntmps67
    go_wp2_with fail
    refine bodyPost_ret (v := .agg #[.slice (some ⟨w.heap.size + 1 + 1, 0, none⟩) 1 1]) (by simp [results, Tryd.results67, go_sem, *]) rfl ?_
    rw [HD.out]
    exact HXO.out
set_option maxHeartbeats 4000000 in
set_option maxRecDepth 100000 in
theorem expS_letter (lr lo hi : Int) (l r : Tr) (hl : ExpS l) (hr : ExpS r) : ExpS (.node ⟨3, lr, lo, hi⟩ l r) := by
    obtain ⟨t, hte⟩ : ∃ t : Tok, t = ⟨3, lr, lo, hi⟩ := ⟨_, rfl⟩
    rw [← hte]
    intro ao n ac w hok ha hac hn hn9 hin hsz
    obtain ⟨htok, hcase⟩ := hok
    have HA := Lib.hid ha
    obtain ⟨_, _, e0, HC⟩ := ha.row
    injection e0 with e1 e2 e3
    subst e1; subst e3
    clear e2 ha
    obtain ⟨q, hq⟩ : ∃ q, q = l.post.length := ⟨_, rfl⟩
    obtain ⟨m, hm⟩ : ∃ m, m = r.post.length := ⟨_, rfl⟩
    have hnn : n = q + m + 1 := by rw [hn, hq, hm, post_len, post_len]; rfl
    have hxl : (Tr.node t l r).post.length = q + m + 1 := by rw [hq, hm]; simp [Tr.post]; omega
    clear hn
    subst hnn
    have hxq : q + m < (Tr.node t l r).post.length := by omega
    have hxt : (Tr.node t l r).post[q + m] = t := by subst hq; subst hm; exact (last_post t l r).2
    have HQ := Lib.hid hq
    have HMM := Lib.hid hm
    clear hq hm
    have HTK1 : Hid ((Tr.node t l r).post.take (q + m) = l.post ++ r.post) := by unfold Hid; rw [show (Tr.node t l r).post = (l.post ++ r.post) ++ [t] from rfl]; exact List.take_left' (by rw [HQ.out, HMM.out, List.length_append])
    obtain ⟨b, off, rfl, hb, c0, c1, c2, c3⟩ := HC.out (q + m) hxq
    rw [hxt] at c0 c1 c2 c3
    have HTI : Hid (t.In) := by have hmem := List.getElem_mem hxq; rw [hxt] at hmem; exact hin t hmem
    have HINL : Hid (∀ x ∈ l.post, x.In) := fun x hx => hin x (by simp [Tr.post, hx])
    have HINR : Hid (∀ x ∈ r.post, x.In) := fun x hx => hin x (by simp [Tr.post, hx])
    clear hxt hin hxl
    have HTA : Hid (ToksAt w (.slice (some ⟨b, off, none⟩) (q + m) ac) (l.post ++ r.post)) := by
      unfold Hid; rw [← HTK1.out]; exact toks_takeO HA.out (by omega) _ _ (fun _ _ e => e)
    have hql : Hid (q = l.len) := by unfold Hid; rw [← post_len]; exact HQ.out
    have hmr : Hid (m = r.len) := by unfold Hid; rw [← post_len]; exact HMM.out
    have hkq : ((q + m : Nat) : Int) < ((q + m + 1 : Nat) : Int) := by omega
    have hk0 : (0 : Int) ≤ ((q + m : Nat) : Int) := by omega
    have hqa : q + m ≤ ac := by omega
    have hqai : (q : Int) + (m : Int) ≤ (ac : Int) := by omega
    have hqm0 : (0 : Int) ≤ (q : Int) + (m : Int) := by omega
    have hne : ¬ (ac = q + m) := by omega
    obtain ⟨y, hy⟩ : ∃ y, y = (w.alloc (.cells #[.slice none 0 0] 26)).alloc (.cells #[.int .i64 t.kd, .int .i64 t.lr, .int .i64 t.lo, .int .i64 t.hi] 90) := ⟨_, rfl⟩
    have hsy : Since w y := by rw [hy]; exact ((Since.refl w).alloc _).alloc _
    have BT : Hid (Blk y (w.heap.size + 1) 90 #[.int .i64 t.kd, .int .i64 t.lr, .int .i64 t.lo, .int .i64 t.hi]) := by rw [hy]; exact Blk.new (by simp) _ _
    have BR : Hid (Blk y w.heap.size 26 #[.slice none 0 0]) := by rw [hy]; exact (Blk.new rfl _ _).alloc _
    have hzy : w.heap.size + 2 ≤ y.heap.size := by rw [hy]; simp
    have HY := Lib.hid hy
    obtain ⟨d0, d1, d2, d3, _⟩ := BT.out.four
    rw [hy] at d0 d1 d2 d3
    clear hy
    subst hte
    have hk17 := okT_kd htok
    rw [opN_of] at hcase
    dsimp only at c0 c1 c2 c3 d0 d1 d2 d3 BT HTI HY
    have HD : Hid ((exT (Tr.node ⟨3, lr, lo, hi⟩ l r)).post = [⟨3, lr, lo, hi⟩]) := by
      unfold Hid
      rcases hcase with ⟨_, rfl, rfl⟩ | ⟨h1, _⟩ | ⟨h2, _⟩
      · simp [exT, Tr.post]
      · simp at h1
      · simp at h2
    clear hcase hsz
    have HSX : Hid (Since w ((w.alloc (.cells #[.slice (some ⟨w.heap.size + 1 + 1, 0, none⟩) 1 1] 26)).alloc (.cells #[.int .i64 3, .int .i64 lr, .int .i64 lo, .int .i64 hi] 90))) := ((Since.refl w).alloc _).alloc _
    have HXO := Lib.hid (xout_mk (ownK_one w _ HSX.out ⟨3, lr, lo, hi⟩ HTI.out (w.heap.size + 1 + 1) (by simp)) (HSX.out.alloc (.cells #[.int .i64 3, .int .i64 lr, .int .i64 lo, .int .i64 hi] 90)))
    go_enter Tryd.func67, Tryd.ntmps67
    go_wp2_with fail
    refine bodyPost_ret (v := .agg #[.slice (some ⟨w.heap.size + 1 + 1, 0, none⟩) 1 1]) (by simp [results, Tryd.results67, go_sem, *]) rfl ?_
    rw [HD.out]
    exact HXO.out
set_option maxHeartbeats 4000000 in
set_option maxRecDepth 100000 in
theorem expS_cat (lr lo hi : Int) (l r : Tr) (hl : ExpS l) (hr : ExpS r) : ExpS (.node ⟨4, lr, lo, hi⟩ l r) := by
    obtain ⟨t, hte⟩ : ∃ t : Tok, t = ⟨4, lr, lo, hi⟩ := ⟨_, rfl⟩
    rw [← hte]
    intro ao n ac w hok ha hac hn hn9 hin hsz
    obtain ⟨htok, hcase⟩ := hok
    have HA := Lib.hid ha
    obtain ⟨_, _, e0, HC⟩ := ha.row
    injection e0 with e1 e2 e3
    subst e1; subst e3
    clear e2 ha
    obtain ⟨q, hq⟩ : ∃ q, q = l.post.length := ⟨_, rfl⟩
    obtain ⟨m, hm⟩ : ∃ m, m = r.post.length := ⟨_, rfl⟩
    have hnn : n = q + m + 1 := by rw [hn, hq, hm, post_len, post_len]; rfl
    have hxl : (Tr.node t l r).post.length = q + m + 1 := by rw [hq, hm]; simp [Tr.post]; omega
    clear hn
    subst hnn
    have hxq : q + m < (Tr.node t l r).post.length := by omega
    have hxt : (Tr.node t l r).post[q + m] = t := by subst hq; subst hm; exact (last_post t l r).2
    have HQ := Lib.hid hq
    have HMM := Lib.hid hm
    clear hq hm
    have HTK1 : Hid ((Tr.node t l r).post.take (q + m) = l.post ++ r.post) := by unfold Hid; rw [show (Tr.node t l r).post = (l.post ++ r.post) ++ [t] from rfl]; exact List.take_left' (by rw [HQ.out, HMM.out, List.length_append])
    obtain ⟨b, off, rfl, hb, c0, c1, c2, c3⟩ := HC.out (q + m) hxq
    rw [hxt] at c0 c1 c2 c3
    have HTI : Hid (t.In) := by have hmem := List.getElem_mem hxq; rw [hxt] at hmem; exact hin t hmem
    have HINL : Hid (∀ x ∈ l.post, x.In) := fun x hx => hin x (by simp [Tr.post, hx])
    have HINR : Hid (∀ x ∈ r.post, x.In) := fun x hx => hin x (by simp [Tr.post, hx])
    clear hxt hin hxl
    have HTA : Hid (ToksAt w (.slice (some ⟨b, off, none⟩) (q + m) ac) (l.post ++ r.post)) := by
      unfold Hid; rw [← HTK1.out]; exact toks_takeO HA.out (by omega) _ _ (fun _ _ e => e)
    have hql : Hid (q = l.len) := by unfold Hid; rw [← post_len]; exact HQ.out
    have hmr : Hid (m = r.len) := by unfold Hid; rw [← post_len]; exact HMM.out
    have hkq : ((q + m : Nat) : Int) < ((q + m + 1 : Nat) : Int) := by omega
    have hk0 : (0 : Int) ≤ ((q + m : Nat) : Int) := by omega
    have hqa : q + m ≤ ac := by omega
    have hqai : (q : Int) + (m : Int) ≤ (ac : Int) := by omega
    have hqm0 : (0 : Int) ≤ (q : Int) + (m : Int) := by omega
    have hne : ¬ (ac = q + m) := by omega
    obtain ⟨y, hy⟩ : ∃ y, y = (w.alloc (.cells #[.slice none 0 0] 26)).alloc (.cells #[.int .i64 t.kd, .int .i64 t.lr, .int .i64 t.lo, .int .i64 t.hi] 90) := ⟨_, rfl⟩
    have hsy : Since w y := by rw [hy]; exact ((Since.refl w).alloc _).alloc _
    have BT : Hid (Blk y (w.heap.size + 1) 90 #[.int .i64 t.kd, .int .i64 t.lr, .int .i64 t.lo, .int .i64 t.hi]) := by rw [hy]; exact Blk.new (by simp) _ _
    have BR : Hid (Blk y w.heap.size 26 #[.slice none 0 0]) := by rw [hy]; exact (Blk.new rfl _ _).alloc _
    have hzy : w.heap.size + 2 ≤ y.heap.size := by rw [hy]; simp
    have HY := Lib.hid hy
    obtain ⟨d0, d1, d2, d3, _⟩ := BT.out.four
    rw [hy] at d0 d1 d2 d3
    clear hy
    subst hte
    have hk17 := okT_kd htok
    rw [opN_of] at hcase
    dsimp only at c0 c1 c2 c3 d0 d1 d2 d3 BT HTI HY
    obtain ⟨hlo, hro⟩ : l.ok ∧ r.ok := by
      rcases hcase with ⟨h0, _⟩ | ⟨h1, _⟩ | ⟨_, a, b⟩
      · simp at h0
      · simp at h1
      · exact ⟨a, b⟩
    have HPL : Hid (l.post.length = q) := HQ.out.symm
    have HPR : Hid (r.post.length = m) := HMM.out.symm
    have HSC : Hid (Scan (l.post ++ r.post) l.post.length (l.post ++ r.post).length 1) := scan_two l.post r hro
    have hmp : 0 < m := by rw [HMM.out]; exact post_pos hro
    clear hcase
    obtain ⟨z1, z2⟩ := szT_parts htok hsz
    have z2 := z2 (by simp)
    have hdl := exT_small hlo z1
    have hdr := exT_small hro z2
    have HD : Hid ((exT (Tr.node ⟨4, lr, lo, hi⟩ l r)).post = (exT l).post ++ (exT r).post ++ [⟨4, lr, lo, hi⟩]) := by unfold Hid; simp [exT, Tr.post]
    have HLC : Hid (∀ W, ToksAt W (.slice (some ⟨b, off, none⟩) q ac) l.post → Calls Tryd.prog 67 #[.slice (some ⟨b, off, none⟩) q ac] W (XOut W (exT l).post)) := fun W k => hl _ q ac W hlo k (by omega) hql.out (by omega) HINL.out z1
    have HRC : Hid (∀ W, ToksAt W (.slice (some ⟨b, off + q * 4, none⟩) m (ac - q)) r.post → Calls Tryd.prog 67 #[.slice (some ⟨b, off + q * 4, none⟩) m (ac - q)] W (XOut W (exT r).post)) := fun W k => hr _ m (ac - q) W hro k (by omega) hmr.out (by omega) HINR.out z2
    clear z1 z2 hsz
    have hne2 : ¬ (ac = q) := by omega
    have hqac : q ≤ ac := by omega
    have hqaci : (q : Int) ≤ (ac : Int) := by omega
    have hqmi : (q : Int) ≤ (q : Int) + (m : Int) := by omega
    have hqma : (q : Int) + (m : Int) ≤ (ac : Int) := by omega
    have hq0 : (0 : Int) ≤ (q : Int) := by omega
    have HT1 : Hid (ToksAt w (.slice (some ⟨b, off, none⟩) q ac) l.post) := by
      have := toks_takeO HTA.out (k := q) (by omega) (some ⟨b, off, none⟩) ac (fun _ _ e => e)
      rwa [show (l.post ++ r.post).take q = l.post from List.take_left' HQ.out.symm] at this
    have HT2 : Hid (ToksAt w (.slice (some ⟨b, off + q * 4, none⟩) m (ac - q)) r.post) := by
      have := toks_dropO HTA.out (k := q) (by omega) (some ⟨b, off + q * 4, none⟩) m (ac - q) (by omega) (fun _ b1 o1 e => by injection e with e; injection e with e1 e2; rw [e1, e2])
      rwa [show (l.post ++ r.post).drop q = r.post from List.drop_left' HQ.out.symm] at this
    go_enter Tryd.func67, Tryd.ntmps67
    go_wp2_with fail
    rw [← HY.out]
    clear c0 c1 c2 c3 d0 d1 d2 d3
    refine (l8Start_any _ (l.post ++ r.post) l.post.length _ (HTA.out.since hsy) HSC.out (by rw [List.length_append, ← HQ.out, ← HMM.out]; omega)).mono ?_
    rintro e w2 ⟨rfl, hs2⟩
    rw [← HQ.out]
    have hyw2 := hsy.trans hs2
    have BT2 := Lib.hid (BT.out.since hs2)
    have BR2 := Lib.hid (BR.out.since hs2)
    clear BT BR hs2
    go_upto_region 7 with fail
    have HKC : Hid (∀ w', Blk w' (w.heap.size + 1) 90 #[.int .i64 4, .int .i64 lr, .int .i64 lo, .int .i64 hi] → w'.cell? ⟨w.heap.size + 1, 0, none⟩ = some (.int .i64 4) ∧ w'.cell? ⟨w.heap.size + 1, 1, none⟩ = some (.int .i64 lr) ∧ w'.cell? ⟨w.heap.size + 1, 2, none⟩ = some (.int .i64 lo) ∧ w'.cell? ⟨w.heap.size + 1, 3, none⟩ = some (.int .i64 hi)) := by
      intro w' hb0
      obtain ⟨r00, r01, r02, r03, _⟩ := hb0.four
      exact ⟨r00, r01, r02, r03⟩
    refine wp_region_held_drew (S := (fun w' => w'.cell? ⟨w.heap.size + 1, 0, none⟩ = some (.int .i64 4) ∧ w'.cell? ⟨w.heap.size + 1, 1, none⟩ = some (.int .i64 lr) ∧ w'.cell? ⟨w.heap.size + 1, 2, none⟩ = some (.int .i64 lo) ∧ w'.cell? ⟨w.heap.size + 1, 3, none⟩ = some (.int .i64 hi))) (by kernel_rfl) (HKC.out _ (BT2.out.drew)) (fun hHeld => ?_)
    refine take_yes 0 (some 22) (v := ?_) rfl (by kernel_rfl) (by kernel_rfl) (by kernel_rfl) (by kernel_rfl) (fun _ _ _ h => h) (by rfl) (by assumption) ?_ ?_
    rotate_left
    · (intro w' hSw; (try dsimp only at hSw); go_simp; try with_reducible rfl)
    try simp only [Act.put, List.setIfInBounds_toArray, List.set_cons_zero, List.set_cons_succ]
    refine take_yes 1 (some 23) (v := ?_) rfl (by kernel_rfl) (by kernel_rfl) (by kernel_rfl) (by kernel_rfl) (fun _ _ _ h => h) (by rfl) (by assumption) ?_ ?_
    rotate_left
    · (intro w' hSw; (try dsimp only at hSw); go_simp; try with_reducible rfl)
    try simp only [Act.put, List.setIfInBounds_toArray, List.set_cons_zero, List.set_cons_succ]
    refine take_yes 2 (some 24) (v := ?_) rfl (by kernel_rfl) (by kernel_rfl) (by kernel_rfl) (by kernel_rfl) (fun _ _ _ h => h) (by rfl) (by assumption) ?_ ?_
    rotate_left
    · (intro w' hSw; (try dsimp only at hSw); go_simp; try with_reducible rfl)
    try simp only [Act.put, List.setIfInBounds_toArray, List.set_cons_zero, List.set_cons_succ]
    refine take_yes 4 (some 26) (v := ?_) rfl (by kernel_rfl) (by kernel_rfl) (by kernel_rfl) (by kernel_rfl) (fun _ _ _ h => h) (by rfl) (by assumption) ?_ ?_
    rotate_left
    · (intro w' hSw; (try dsimp only at hSw); go_simp; try with_reducible rfl)
    try simp only [Act.put, List.setIfInBounds_toArray, List.set_cons_zero, List.set_cons_succ]
    refine take_yes 5 (some 27) (v := ?_) rfl (by kernel_rfl) (by kernel_rfl) (by kernel_rfl) (by kernel_rfl) (fun _ _ _ h => h) (by rfl) (by assumption) ?_ ?_
    rotate_left
    · (intro w' hSw; (try dsimp only at hSw); go_simp; try with_reducible rfl)
    try simp only [Act.put, List.setIfInBounds_toArray, List.set_cons_zero, List.set_cons_succ]
    refine take_yes 6 (some 28) (v := ?_) rfl (by kernel_rfl) (by kernel_rfl) (by kernel_rfl) (by kernel_rfl) (fun _ _ _ h => h) (by rfl) (by assumption) ?_ ?_
    rotate_left
    · (intro w' hSw; (try dsimp only at hSw); go_simp; try with_reducible rfl)
    try simp only [Act.put, List.setIfInBounds_toArray, List.set_cons_zero, List.set_cons_succ]
    refine take_yes 7 (some 29) (v := ?_) rfl (by kernel_rfl) (by kernel_rfl) (by kernel_rfl) (by kernel_rfl) (fun _ _ _ h => h) (by rfl) (by assumption) ?_ ?_
    rotate_left
    · (intro w' hSw; (try dsimp only at hSw); go_simp; try with_reducible rfl)
    try simp only [Act.put, List.setIfInBounds_toArray, List.set_cons_zero, List.set_cons_succ]
    refine take_yes 9 (some 31) (v := ?_) rfl (by kernel_rfl) (by kernel_rfl) (by kernel_rfl) (by kernel_rfl) (fun _ _ _ h => h) (by rfl) (by assumption) ?_ ?_
    rotate_left
    · (intro w' hSw; (try dsimp only at hSw); go_simp; try with_reducible rfl)
    try simp only [Act.put, List.setIfInBounds_toArray, List.set_cons_zero, List.set_cons_succ]
    refine take_run 3 rfl (by kernel_rfl) (by rfl) (fun K hK => ?_)
    have dr_339 : Since w2 w2.drew := (Since.refl _).drew
    have c_340 := Since.trans hyw2 dr_339
    have M_341 := Lib.hid (BT2.out.since dr_339)
    clear BT2
    have M_342 := Lib.hid (BR2.out.since dr_339)
    clear BR2
    clear dr_339
    go_simp
    try rw [show ((q : Int) + (m : Int)).toNat - q = m from by omega]
    try rw [show ((q : Int) + (m : Int)).toNat = q + m from by omega]
    refine (HLC.out _ (HT1.out.since c_340)).mono ?_
    rintro en q_334 ⟨v_335, rfl, ⟨v_335b, rfl, ho_336, _⟩, hs_337⟩
    obtain ⟨u_338o, u_338n, u_338c, u_338N, rfl⟩ := ho_336.lenN
    have O_343 := Lib.hid (ho_336.mono (base' := w.heap.size) c_340.size)
    clear ho_336
    have c_344 := Since.trans c_340 hs_337
    have M_345 := Lib.hid (M_341.out.since hs_337)
    clear M_341
    have M_346 := Lib.hid (M_342.out.since hs_337)
    clear M_342
    clear hs_337
    refine hK.out _ _ (HKC.out _ M_345.out) (fun hHeld_347 => ?_)
    clear hK K hHeld
    try simp only [Act.put, List.setIfInBounds_toArray, List.set_cons_zero, List.set_cons_succ]
    refine take_run 8 rfl (by kernel_rfl) (by rfl) (fun K hK => ?_)
    go_simp
    try rw [show ((q : Int) + (m : Int)).toNat - q = m from by omega]
    try rw [show ((q : Int) + (m : Int)).toNat = q + m from by omega]
    refine (HRC.out _ (HT2.out.since c_344)).mono ?_
    rintro en q_348 ⟨v_349, rfl, ⟨v_349b, rfl, ho_350, _⟩, hs_351⟩
    obtain ⟨x_352o, x_352n, x_352c, x_352N, rfl⟩ := ho_350.lenN
    have O_353 := Lib.hid (ho_350.mono (base' := w.heap.size) c_344.size)
    clear ho_350
    have c_354 := Since.trans c_344 hs_351
    have M_355 := Lib.hid (M_345.out.since hs_351)
    clear M_345
    have M_356 := Lib.hid (M_346.out.since hs_351)
    clear M_346
    have M_357 := Lib.hid (O_343.out.since hs_351)
    clear O_343
    clear hs_351
    refine hK.out _ _ (HKC.out _ M_355.out) (fun hHeld_358 => ?_)
    clear hK K hHeld_347
    try simp only [Act.put, List.setIfInBounds_toArray, List.set_cons_zero, List.set_cons_succ]
    refine take_run 10 rfl (by kernel_rfl) (by rfl) (fun K hK => ?_)
    go_simp
    refine (l8Join_any _ _ (exT l).post (exT r).post ⟨4, lr, lo, hi⟩ _ ⟨_, rfl, M_357.out.at⟩ ⟨_, rfl, O_353.out.at⟩ HTI.out (by omega) (by omega)).mono ?_
    rintro en q_359 ⟨v_360, rfl, ⟨v_360b, rfl, ho_361, _⟩, hs_362⟩
    obtain ⟨Z_363o, Z_363n, Z_363c, Z_363N, rfl⟩ := ho_361.lenN
    have O_364 := Lib.hid (ho_361.mono (base' := w.heap.size) c_354.size)
    clear ho_361
    have c_365 := Since.trans c_354 hs_362
    have M_366 := Lib.hid (M_355.out.since hs_362)
    clear M_355
    have M_367 := Lib.hid (M_356.out.since hs_362)
    clear M_356
    have M_368 := Lib.hid (M_357.out.since hs_362)
    clear M_357
    have M_369 := Lib.hid (O_353.out.since hs_362)
    clear O_353
    clear hs_362
    refine hK.out _ _ (HKC.out _ M_366.out) (fun hHeld_370 => ?_)
    clear hK K hHeld_358
    try simp only [Act.put, List.setIfInBounds_toArray, List.set_cons_zero, List.set_cons_succ]
    refine take_run 11 rfl (by kernel_rfl) (by rfl) (fun K hK => ?_)
    obtain ⟨q0, q1⟩ := M_367.out.one
    go_simp
    clear q0 q1
    have c_371 := Since.setCell c_365 (a := ⟨w.heap.size, 0, none⟩) (by show w.heap.size ≤ w.heap.size; omega) (.slice Z_363o Z_363n Z_363c)
    have M_373 := Lib.hid (M_368.out.farT M_367.out (by decide) 0 (.slice Z_363o Z_363n Z_363c))
    clear M_368
    have M_374 := Lib.hid (M_369.out.farT M_367.out (by decide) 0 (.slice Z_363o Z_363n Z_363c))
    clear M_369
    have M_375 := Lib.hid (O_364.out.farT M_367.out (by decide) 0 (.slice Z_363o Z_363n Z_363c))
    clear O_364
    have M_376 := Lib.hid (M_366.out.far (p := ⟨w.heap.size, 0, none⟩) (by show w.heap.size + 1 ≠ w.heap.size; omega) (.slice Z_363o Z_363n Z_363c))
    clear M_366
    have B_377 := Lib.hid (M_367.out.set 0 (.slice Z_363o Z_363n Z_363c))
    clear M_367
    refine hK.out _ _ (HKC.out _ M_376.out) (fun hHeld_378 => ?_)
    clear hK K hHeld_370
    try simp only [Act.put, List.setIfInBounds_toArray, List.set_cons_zero, List.set_cons_succ]
    generalize q_359.setCell ⟨w.heap.size, 0, none⟩ (.slice Z_363o Z_363n Z_363c) = wS_372 at M_376 B_377 M_373 M_374 M_375 c_371 hHeld_378 ⊢
    refine wpAnyH_done (by kernel_rfl) ?_ _
    clear hHeld_378
    obtain ⟨r0, r1⟩ := B_377.out.one
    go_wp2_with fail
    refine bodyPost_ret (v := .agg #[.slice Z_363o Z_363n Z_363c]) (by simp [results, Tryd.results67, go_sem, *]) rfl ?_
    rw [HD.out]
    exact xout_mk M_375.out c_371
set_option maxHeartbeats 4000000 in
set_option maxRecDepth 100000 in
theorem expS_uni (lr lo hi : Int) (l r : Tr) (hl : ExpS l) (hr : ExpS r) : ExpS (.node ⟨5, lr, lo, hi⟩ l r) := by
    obtain ⟨t, hte⟩ : ∃ t : Tok, t = ⟨5, lr, lo, hi⟩ := ⟨_, rfl⟩
    rw [← hte]
    intro ao n ac w hok ha hac hn hn9 hin hsz
    obtain ⟨htok, hcase⟩ := hok
    have HA := Lib.hid ha
    obtain ⟨_, _, e0, HC⟩ := ha.row
    injection e0 with e1 e2 e3
    subst e1; subst e3
    clear e2 ha
    obtain ⟨q, hq⟩ : ∃ q, q = l.post.length := ⟨_, rfl⟩
    obtain ⟨m, hm⟩ : ∃ m, m = r.post.length := ⟨_, rfl⟩
    have hnn : n = q + m + 1 := by rw [hn, hq, hm, post_len, post_len]; rfl
    have hxl : (Tr.node t l r).post.length = q + m + 1 := by rw [hq, hm]; simp [Tr.post]; omega
    clear hn
    subst hnn
    have hxq : q + m < (Tr.node t l r).post.length := by omega
    have hxt : (Tr.node t l r).post[q + m] = t := by subst hq; subst hm; exact (last_post t l r).2
    have HQ := Lib.hid hq
    have HMM := Lib.hid hm
    clear hq hm
    have HTK1 : Hid ((Tr.node t l r).post.take (q + m) = l.post ++ r.post) := by unfold Hid; rw [show (Tr.node t l r).post = (l.post ++ r.post) ++ [t] from rfl]; exact List.take_left' (by rw [HQ.out, HMM.out, List.length_append])
    obtain ⟨b, off, rfl, hb, c0, c1, c2, c3⟩ := HC.out (q + m) hxq
    rw [hxt] at c0 c1 c2 c3
    have HTI : Hid (t.In) := by have hmem := List.getElem_mem hxq; rw [hxt] at hmem; exact hin t hmem
    have HINL : Hid (∀ x ∈ l.post, x.In) := fun x hx => hin x (by simp [Tr.post, hx])
    have HINR : Hid (∀ x ∈ r.post, x.In) := fun x hx => hin x (by simp [Tr.post, hx])
    clear hxt hin hxl
    have HTA : Hid (ToksAt w (.slice (some ⟨b, off, none⟩) (q + m) ac) (l.post ++ r.post)) := by
      unfold Hid; rw [← HTK1.out]; exact toks_takeO HA.out (by omega) _ _ (fun _ _ e => e)
    have hql : Hid (q = l.len) := by unfold Hid; rw [← post_len]; exact HQ.out
    have hmr : Hid (m = r.len) := by unfold Hid; rw [← post_len]; exact HMM.out
    have hkq : ((q + m : Nat) : Int) < ((q + m + 1 : Nat) : Int) := by omega
    have hk0 : (0 : Int) ≤ ((q + m : Nat) : Int) := by omega
    have hqa : q + m ≤ ac := by omega
    have hqai : (q : Int) + (m : Int) ≤ (ac : Int) := by omega
    have hqm0 : (0 : Int) ≤ (q : Int) + (m : Int) := by omega
    have hne : ¬ (ac = q + m) := by omega
    obtain ⟨y, hy⟩ : ∃ y, y = (w.alloc (.cells #[.slice none 0 0] 26)).alloc (.cells #[.int .i64 t.kd, .int .i64 t.lr, .int .i64 t.lo, .int .i64 t.hi] 90) := ⟨_, rfl⟩
    have hsy : Since w y := by rw [hy]; exact ((Since.refl w).alloc _).alloc _
    have BT : Hid (Blk y (w.heap.size + 1) 90 #[.int .i64 t.kd, .int .i64 t.lr, .int .i64 t.lo, .int .i64 t.hi]) := by rw [hy]; exact Blk.new (by simp) _ _
    have BR : Hid (Blk y w.heap.size 26 #[.slice none 0 0]) := by rw [hy]; exact (Blk.new rfl _ _).alloc _
    have hzy : w.heap.size + 2 ≤ y.heap.size := by rw [hy]; simp
    have HY := Lib.hid hy
    obtain ⟨d0, d1, d2, d3, _⟩ := BT.out.four
    rw [hy] at d0 d1 d2 d3
    clear hy
    subst hte
    have hk17 := okT_kd htok
    rw [opN_of] at hcase
    dsimp only at c0 c1 c2 c3 d0 d1 d2 d3 BT HTI HY
    obtain ⟨hlo, hro⟩ : l.ok ∧ r.ok := by
      rcases hcase with ⟨h0, _⟩ | ⟨h1, _⟩ | ⟨_, a, b⟩
      · simp at h0
      · simp at h1
      · exact ⟨a, b⟩
    have HPL : Hid (l.post.length = q) := HQ.out.symm
    have HPR : Hid (r.post.length = m) := HMM.out.symm
    have HSC : Hid (Scan (l.post ++ r.post) l.post.length (l.post ++ r.post).length 1) := scan_two l.post r hro
    have hmp : 0 < m := by rw [HMM.out]; exact post_pos hro
    clear hcase
    obtain ⟨z1, z2⟩ := szT_parts htok hsz
    have z2 := z2 (by simp)
    have hdl := exT_small hlo z1
    have hdr := exT_small hro z2
    have HD : Hid ((exT (Tr.node ⟨5, lr, lo, hi⟩ l r)).post = (exT l).post ++ (exT r).post ++ [⟨5, lr, lo, hi⟩]) := by unfold Hid; simp [exT, Tr.post]
    have HLC : Hid (∀ W, ToksAt W (.slice (some ⟨b, off, none⟩) q ac) l.post → Calls Tryd.prog 67 #[.slice (some ⟨b, off, none⟩) q ac] W (XOut W (exT l).post)) := fun W k => hl _ q ac W hlo k (by omega) hql.out (by omega) HINL.out z1
    have HRC : Hid (∀ W, ToksAt W (.slice (some ⟨b, off + q * 4, none⟩) m (ac - q)) r.post → Calls Tryd.prog 67 #[.slice (some ⟨b, off + q * 4, none⟩) m (ac - q)] W (XOut W (exT r).post)) := fun W k => hr _ m (ac - q) W hro k (by omega) hmr.out (by omega) HINR.out z2
    clear z1 z2 hsz
    have hne2 : ¬ (ac = q) := by omega
    have hqac : q ≤ ac := by omega
    have hqaci : (q : Int) ≤ (ac : Int) := by omega
    have hqmi : (q : Int) ≤ (q : Int) + (m : Int) := by omega
    have hqma : (q : Int) + (m : Int) ≤ (ac : Int) := by omega
    have hq0 : (0 : Int) ≤ (q : Int) := by omega
    have HT1 : Hid (ToksAt w (.slice (some ⟨b, off, none⟩) q ac) l.post) := by
      have := toks_takeO HTA.out (k := q) (by omega) (some ⟨b, off, none⟩) ac (fun _ _ e => e)
      rwa [show (l.post ++ r.post).take q = l.post from List.take_left' HQ.out.symm] at this
    have HT2 : Hid (ToksAt w (.slice (some ⟨b, off + q * 4, none⟩) m (ac - q)) r.post) := by
      have := toks_dropO HTA.out (k := q) (by omega) (some ⟨b, off + q * 4, none⟩) m (ac - q) (by omega) (fun _ b1 o1 e => by injection e with e; injection e with e1 e2; rw [e1, e2])
      rwa [show (l.post ++ r.post).drop q = r.post from List.drop_left' HQ.out.symm] at this
    go_enter Tryd.func67, Tryd.ntmps67
    go_wp2_with fail
    rw [← HY.out]
    clear c0 c1 c2 c3 d0 d1 d2 d3
    refine (l8Start_any _ (l.post ++ r.post) l.post.length _ (HTA.out.since hsy) HSC.out (by rw [List.length_append, ← HQ.out, ← HMM.out]; omega)).mono ?_
    rintro e w2 ⟨rfl, hs2⟩
    rw [← HQ.out]
    have hyw2 := hsy.trans hs2
    have BT2 := Lib.hid (BT.out.since hs2)
    have BR2 := Lib.hid (BR.out.since hs2)
    clear BT BR hs2
    go_upto_region 7 with fail
    have HKC : Hid (∀ w', Blk w' (w.heap.size + 1) 90 #[.int .i64 5, .int .i64 lr, .int .i64 lo, .int .i64 hi] → w'.cell? ⟨w.heap.size + 1, 0, none⟩ = some (.int .i64 5) ∧ w'.cell? ⟨w.heap.size + 1, 1, none⟩ = some (.int .i64 lr) ∧ w'.cell? ⟨w.heap.size + 1, 2, none⟩ = some (.int .i64 lo) ∧ w'.cell? ⟨w.heap.size + 1, 3, none⟩ = some (.int .i64 hi)) := by
      intro w' hb0
      obtain ⟨r00, r01, r02, r03, _⟩ := hb0.four
      exact ⟨r00, r01, r02, r03⟩
    refine wp_region_held_drew (S := (fun w' => w'.cell? ⟨w.heap.size + 1, 0, none⟩ = some (.int .i64 5) ∧ w'.cell? ⟨w.heap.size + 1, 1, none⟩ = some (.int .i64 lr) ∧ w'.cell? ⟨w.heap.size + 1, 2, none⟩ = some (.int .i64 lo) ∧ w'.cell? ⟨w.heap.size + 1, 3, none⟩ = some (.int .i64 hi))) (by kernel_rfl) (HKC.out _ (BT2.out.drew)) (fun hHeld => ?_)
    refine take_yes 0 (some 22) (v := ?_) rfl (by kernel_rfl) (by kernel_rfl) (by kernel_rfl) (by kernel_rfl) (fun _ _ _ h => h) (by rfl) (by assumption) ?_ ?_
    rotate_left
    · (intro w' hSw; (try dsimp only at hSw); go_simp; try with_reducible rfl)
    try simp only [Act.put, List.setIfInBounds_toArray, List.set_cons_zero, List.set_cons_succ]
    refine take_yes 1 (some 23) (v := ?_) rfl (by kernel_rfl) (by kernel_rfl) (by kernel_rfl) (by kernel_rfl) (fun _ _ _ h => h) (by rfl) (by assumption) ?_ ?_
    rotate_left
    · (intro w' hSw; (try dsimp only at hSw); go_simp; try with_reducible rfl)
    try simp only [Act.put, List.setIfInBounds_toArray, List.set_cons_zero, List.set_cons_succ]
    refine take_yes 2 (some 24) (v := ?_) rfl (by kernel_rfl) (by kernel_rfl) (by kernel_rfl) (by kernel_rfl) (fun _ _ _ h => h) (by rfl) (by assumption) ?_ ?_
    rotate_left
    · (intro w' hSw; (try dsimp only at hSw); go_simp; try with_reducible rfl)
    try simp only [Act.put, List.setIfInBounds_toArray, List.set_cons_zero, List.set_cons_succ]
    refine take_yes 4 (some 26) (v := ?_) rfl (by kernel_rfl) (by kernel_rfl) (by kernel_rfl) (by kernel_rfl) (fun _ _ _ h => h) (by rfl) (by assumption) ?_ ?_
    rotate_left
    · (intro w' hSw; (try dsimp only at hSw); go_simp; try with_reducible rfl)
    try simp only [Act.put, List.setIfInBounds_toArray, List.set_cons_zero, List.set_cons_succ]
    refine take_yes 5 (some 27) (v := ?_) rfl (by kernel_rfl) (by kernel_rfl) (by kernel_rfl) (by kernel_rfl) (fun _ _ _ h => h) (by rfl) (by assumption) ?_ ?_
    rotate_left
    · (intro w' hSw; (try dsimp only at hSw); go_simp; try with_reducible rfl)
    try simp only [Act.put, List.setIfInBounds_toArray, List.set_cons_zero, List.set_cons_succ]
    refine take_yes 6 (some 28) (v := ?_) rfl (by kernel_rfl) (by kernel_rfl) (by kernel_rfl) (by kernel_rfl) (fun _ _ _ h => h) (by rfl) (by assumption) ?_ ?_
    rotate_left
    · (intro w' hSw; (try dsimp only at hSw); go_simp; try with_reducible rfl)
    try simp only [Act.put, List.setIfInBounds_toArray, List.set_cons_zero, List.set_cons_succ]
    refine take_yes 7 (some 29) (v := ?_) rfl (by kernel_rfl) (by kernel_rfl) (by kernel_rfl) (by kernel_rfl) (fun _ _ _ h => h) (by rfl) (by assumption) ?_ ?_
    rotate_left
    · (intro w' hSw; (try dsimp only at hSw); go_simp; try with_reducible rfl)
    try simp only [Act.put, List.setIfInBounds_toArray, List.set_cons_zero, List.set_cons_succ]
    refine take_yes 9 (some 31) (v := ?_) rfl (by kernel_rfl) (by kernel_rfl) (by kernel_rfl) (by kernel_rfl) (fun _ _ _ h => h) (by rfl) (by assumption) ?_ ?_
    rotate_left
    · (intro w' hSw; (try dsimp only at hSw); go_simp; try with_reducible rfl)
    try simp only [Act.put, List.setIfInBounds_toArray, List.set_cons_zero, List.set_cons_succ]
    refine take_run 3 rfl (by kernel_rfl) (by rfl) (fun K hK => ?_)
    have dr_384 : Since w2 w2.drew := (Since.refl _).drew
    have c_385 := Since.trans hyw2 dr_384
    have M_386 := Lib.hid (BT2.out.since dr_384)
    clear BT2
    have M_387 := Lib.hid (BR2.out.since dr_384)
    clear BR2
    clear dr_384
    go_simp
    try rw [show ((q : Int) + (m : Int)).toNat - q = m from by omega]
    try rw [show ((q : Int) + (m : Int)).toNat = q + m from by omega]
    refine (HLC.out _ (HT1.out.since c_385)).mono ?_
    rintro en q_379 ⟨v_380, rfl, ⟨v_380b, rfl, ho_381, _⟩, hs_382⟩
    obtain ⟨u_383o, u_383n, u_383c, u_383N, rfl⟩ := ho_381.lenN
    have O_388 := Lib.hid (ho_381.mono (base' := w.heap.size) c_385.size)
    clear ho_381
    have c_389 := Since.trans c_385 hs_382
    have M_390 := Lib.hid (M_386.out.since hs_382)
    clear M_386
    have M_391 := Lib.hid (M_387.out.since hs_382)
    clear M_387
    clear hs_382
    refine hK.out _ _ (HKC.out _ M_390.out) (fun hHeld_392 => ?_)
    clear hK K hHeld
    try simp only [Act.put, List.setIfInBounds_toArray, List.set_cons_zero, List.set_cons_succ]
    refine take_run 8 rfl (by kernel_rfl) (by rfl) (fun K hK => ?_)
    go_simp
    try rw [show ((q : Int) + (m : Int)).toNat - q = m from by omega]
    try rw [show ((q : Int) + (m : Int)).toNat = q + m from by omega]
    refine (HRC.out _ (HT2.out.since c_389)).mono ?_
    rintro en q_393 ⟨v_394, rfl, ⟨v_394b, rfl, ho_395, _⟩, hs_396⟩
    obtain ⟨x_397o, x_397n, x_397c, x_397N, rfl⟩ := ho_395.lenN
    have O_398 := Lib.hid (ho_395.mono (base' := w.heap.size) c_389.size)
    clear ho_395
    have c_399 := Since.trans c_389 hs_396
    have M_400 := Lib.hid (M_390.out.since hs_396)
    clear M_390
    have M_401 := Lib.hid (M_391.out.since hs_396)
    clear M_391
    have M_402 := Lib.hid (O_388.out.since hs_396)
    clear O_388
    clear hs_396
    refine hK.out _ _ (HKC.out _ M_400.out) (fun hHeld_403 => ?_)
    clear hK K hHeld_392
    try simp only [Act.put, List.setIfInBounds_toArray, List.set_cons_zero, List.set_cons_succ]
    refine take_run 10 rfl (by kernel_rfl) (by rfl) (fun K hK => ?_)
    go_simp
    refine (l8Join_any _ _ (exT l).post (exT r).post ⟨5, lr, lo, hi⟩ _ ⟨_, rfl, M_402.out.at⟩ ⟨_, rfl, O_398.out.at⟩ HTI.out (by omega) (by omega)).mono ?_
    rintro en q_404 ⟨v_405, rfl, ⟨v_405b, rfl, ho_406, _⟩, hs_407⟩
    obtain ⟨Z_408o, Z_408n, Z_408c, Z_408N, rfl⟩ := ho_406.lenN
    have O_409 := Lib.hid (ho_406.mono (base' := w.heap.size) c_399.size)
    clear ho_406
    have c_410 := Since.trans c_399 hs_407
    have M_411 := Lib.hid (M_400.out.since hs_407)
    clear M_400
    have M_412 := Lib.hid (M_401.out.since hs_407)
    clear M_401
    have M_413 := Lib.hid (M_402.out.since hs_407)
    clear M_402
    have M_414 := Lib.hid (O_398.out.since hs_407)
    clear O_398
    clear hs_407
    refine hK.out _ _ (HKC.out _ M_411.out) (fun hHeld_415 => ?_)
    clear hK K hHeld_403
    try simp only [Act.put, List.setIfInBounds_toArray, List.set_cons_zero, List.set_cons_succ]
    refine take_run 11 rfl (by kernel_rfl) (by rfl) (fun K hK => ?_)
    obtain ⟨q0, q1⟩ := M_412.out.one
    go_simp
    clear q0 q1
    have c_416 := Since.setCell c_410 (a := ⟨w.heap.size, 0, none⟩) (by show w.heap.size ≤ w.heap.size; omega) (.slice Z_408o Z_408n Z_408c)
    have M_418 := Lib.hid (M_413.out.farT M_412.out (by decide) 0 (.slice Z_408o Z_408n Z_408c))
    clear M_413
    have M_419 := Lib.hid (M_414.out.farT M_412.out (by decide) 0 (.slice Z_408o Z_408n Z_408c))
    clear M_414
    have M_420 := Lib.hid (O_409.out.farT M_412.out (by decide) 0 (.slice Z_408o Z_408n Z_408c))
    clear O_409
    have M_421 := Lib.hid (M_411.out.far (p := ⟨w.heap.size, 0, none⟩) (by show w.heap.size + 1 ≠ w.heap.size; omega) (.slice Z_408o Z_408n Z_408c))
    clear M_411
    have B_422 := Lib.hid (M_412.out.set 0 (.slice Z_408o Z_408n Z_408c))
    clear M_412
    refine hK.out _ _ (HKC.out _ M_421.out) (fun hHeld_423 => ?_)
    clear hK K hHeld_415
    try simp only [Act.put, List.setIfInBounds_toArray, List.set_cons_zero, List.set_cons_succ]
    generalize q_404.setCell ⟨w.heap.size, 0, none⟩ (.slice Z_408o Z_408n Z_408c) = wS_417 at M_421 B_422 M_418 M_419 M_420 c_416 hHeld_423 ⊢
    refine wpAnyH_done (by kernel_rfl) ?_ _
    clear hHeld_423
    obtain ⟨r0, r1⟩ := B_422.out.one
    go_wp2_with fail
    refine bodyPost_ret (v := .agg #[.slice Z_408o Z_408n Z_408c]) (by simp [results, Tryd.results67, go_sem, *]) rfl ?_
    rw [HD.out]
    exact xout_mk M_420.out c_416
set_option maxHeartbeats 4000000 in
set_option maxRecDepth 100000 in
theorem expS_star (lr lo hi : Int) (l r : Tr) (hl : ExpS l) (hr : ExpS r) : ExpS (.node ⟨6, lr, lo, hi⟩ l r) := by
    obtain ⟨t, hte⟩ : ∃ t : Tok, t = ⟨6, lr, lo, hi⟩ := ⟨_, rfl⟩
    rw [← hte]
    intro ao n ac w hok ha hac hn hn9 hin hsz
    obtain ⟨htok, hcase⟩ := hok
    have HA := Lib.hid ha
    obtain ⟨_, _, e0, HC⟩ := ha.row
    injection e0 with e1 e2 e3
    subst e1; subst e3
    clear e2 ha
    obtain ⟨q, hq⟩ : ∃ q, q = l.post.length := ⟨_, rfl⟩
    obtain ⟨m, hm⟩ : ∃ m, m = r.post.length := ⟨_, rfl⟩
    have hnn : n = q + m + 1 := by rw [hn, hq, hm, post_len, post_len]; rfl
    have hxl : (Tr.node t l r).post.length = q + m + 1 := by rw [hq, hm]; simp [Tr.post]; omega
    clear hn
    subst hnn
    have hxq : q + m < (Tr.node t l r).post.length := by omega
    have hxt : (Tr.node t l r).post[q + m] = t := by subst hq; subst hm; exact (last_post t l r).2
    have HQ := Lib.hid hq
    have HMM := Lib.hid hm
    clear hq hm
    have HTK1 : Hid ((Tr.node t l r).post.take (q + m) = l.post ++ r.post) := by unfold Hid; rw [show (Tr.node t l r).post = (l.post ++ r.post) ++ [t] from rfl]; exact List.take_left' (by rw [HQ.out, HMM.out, List.length_append])
    obtain ⟨b, off, rfl, hb, c0, c1, c2, c3⟩ := HC.out (q + m) hxq
    rw [hxt] at c0 c1 c2 c3
    have HTI : Hid (t.In) := by have hmem := List.getElem_mem hxq; rw [hxt] at hmem; exact hin t hmem
    have HINL : Hid (∀ x ∈ l.post, x.In) := fun x hx => hin x (by simp [Tr.post, hx])
    have HINR : Hid (∀ x ∈ r.post, x.In) := fun x hx => hin x (by simp [Tr.post, hx])
    clear hxt hin hxl
    have HTA : Hid (ToksAt w (.slice (some ⟨b, off, none⟩) (q + m) ac) (l.post ++ r.post)) := by
      unfold Hid; rw [← HTK1.out]; exact toks_takeO HA.out (by omega) _ _ (fun _ _ e => e)
    have hql : Hid (q = l.len) := by unfold Hid; rw [← post_len]; exact HQ.out
    have hmr : Hid (m = r.len) := by unfold Hid; rw [← post_len]; exact HMM.out
    have hkq : ((q + m : Nat) : Int) < ((q + m + 1 : Nat) : Int) := by omega
    have hk0 : (0 : Int) ≤ ((q + m : Nat) : Int) := by omega
    have hqa : q + m ≤ ac := by omega
    have hqai : (q : Int) + (m : Int) ≤ (ac : Int) := by omega
    have hqm0 : (0 : Int) ≤ (q : Int) + (m : Int) := by omega
    have hne : ¬ (ac = q + m) := by omega
    obtain ⟨y, hy⟩ : ∃ y, y = (w.alloc (.cells #[.slice none 0 0] 26)).alloc (.cells #[.int .i64 t.kd, .int .i64 t.lr, .int .i64 t.lo, .int .i64 t.hi] 90) := ⟨_, rfl⟩
    have hsy : Since w y := by rw [hy]; exact ((Since.refl w).alloc _).alloc _
    have BT : Hid (Blk y (w.heap.size + 1) 90 #[.int .i64 t.kd, .int .i64 t.lr, .int .i64 t.lo, .int .i64 t.hi]) := by rw [hy]; exact Blk.new (by simp) _ _
    have BR : Hid (Blk y w.heap.size 26 #[.slice none 0 0]) := by rw [hy]; exact (Blk.new rfl _ _).alloc _
    have hzy : w.heap.size + 2 ≤ y.heap.size := by rw [hy]; simp
    have HY := Lib.hid hy
    obtain ⟨d0, d1, d2, d3, _⟩ := BT.out.four
    rw [hy] at d0 d1 d2 d3
    clear hy
    subst hte
    have hk17 := okT_kd htok
    rw [opN_of] at hcase
    dsimp only at c0 c1 c2 c3 d0 d1 d2 d3 BT HTI HY
    obtain ⟨hlo, rfl⟩ : l.ok ∧ r = .nil := by
      rcases hcase with ⟨h0, _⟩ | ⟨_, a, b⟩ | ⟨h2, _⟩
      · simp at h0
      · exact ⟨a, b⟩
      · simp at h2
    have hm0 : m = 0 := HMM.out
    have hlq : Hid (q + m = l.len) := by unfold Hid; rw [← post_len, hm0, HQ.out]; rfl
    have HPL : Hid (l.post.length = q + m) := by unfold Hid; rw [hm0, HQ.out]; rfl
    clear hcase hm0
    have HT1 : Hid (ToksAt w (.slice (some ⟨b, off, none⟩) (q + m) ac) l.post) := by have := HTA.out; rwa [show l.post ++ Tr.nil.post = l.post from List.append_nil _] at this
    obtain ⟨z1, _⟩ := szT_parts htok hsz
    have hdl := exT_small hlo z1
    have HD : Hid ((exT (Tr.node ⟨6, lr, lo, hi⟩ l .nil)).post = (exT l).post ++ [] ++ [⟨6, lr, lo, hi⟩]) := by unfold Hid; simp [exT, Tr.post]
    have HLC : Hid (∀ W, ToksAt W (.slice (some ⟨b, off, none⟩) (q + m) ac) l.post → Calls Tryd.prog 67 #[.slice (some ⟨b, off, none⟩) (q + m) ac] W (XOut W (exT l).post)) := fun W k => hl _ (q + m) ac W hlo k (by omega) hlq.out (by omega) HINL.out z1
    clear z1 hsz
    go_enter Tryd.func67, Tryd.ntmps67
    go_upto_region 9 with fail
    rw [← HY.out]
    clear c0 c1 c2 c3 d0 d1 d2 d3
    have HKC : Hid (∀ w', Blk w' (w.heap.size + 1) 90 #[.int .i64 6, .int .i64 lr, .int .i64 lo, .int .i64 hi] → w'.cell? ⟨w.heap.size + 1, 0, none⟩ = some (.int .i64 6) ∧ w'.cell? ⟨w.heap.size + 1, 1, none⟩ = some (.int .i64 lr) ∧ w'.cell? ⟨w.heap.size + 1, 2, none⟩ = some (.int .i64 lo) ∧ w'.cell? ⟨w.heap.size + 1, 3, none⟩ = some (.int .i64 hi)) := by
      intro w' hb0
      obtain ⟨r00, r01, r02, r03, _⟩ := hb0.four
      exact ⟨r00, r01, r02, r03⟩
    refine wp_region_held_drew (S := (fun w' => w'.cell? ⟨w.heap.size + 1, 0, none⟩ = some (.int .i64 6) ∧ w'.cell? ⟨w.heap.size + 1, 1, none⟩ = some (.int .i64 lr) ∧ w'.cell? ⟨w.heap.size + 1, 2, none⟩ = some (.int .i64 lo) ∧ w'.cell? ⟨w.heap.size + 1, 3, none⟩ = some (.int .i64 hi))) (by kernel_rfl) (HKC.out _ (BT.out.drew)) (fun hHeld => ?_)
    refine take_yes 0 (some 35) (v := ?_) rfl (by kernel_rfl) (by kernel_rfl) (by kernel_rfl) (by kernel_rfl) (fun _ _ _ h => h) (by rfl) (by assumption) ?_ ?_
    rotate_left
    · (intro w' hSw; (try dsimp only at hSw); go_simp; try with_reducible rfl)
    try simp only [Act.put, List.setIfInBounds_toArray, List.set_cons_zero, List.set_cons_succ]
    refine take_yes 1 (some 36) (v := ?_) rfl (by kernel_rfl) (by kernel_rfl) (by kernel_rfl) (by kernel_rfl) (fun _ _ _ h => h) (by rfl) (by assumption) ?_ ?_
    rotate_left
    · (intro w' hSw; (try dsimp only at hSw); go_simp; try with_reducible rfl)
    try simp only [Act.put, List.setIfInBounds_toArray, List.set_cons_zero, List.set_cons_succ]
    refine take_yes 2 (some 37) (v := ?_) rfl (by kernel_rfl) (by kernel_rfl) (by kernel_rfl) (by kernel_rfl) (fun _ _ _ h => h) (by rfl) (by assumption) ?_ ?_
    rotate_left
    · (intro w' hSw; (try dsimp only at hSw); go_simp; try with_reducible rfl)
    try simp only [Act.put, List.setIfInBounds_toArray, List.set_cons_zero, List.set_cons_succ]
    refine take_yes 4 (some 39) (v := ?_) rfl (by kernel_rfl) (by kernel_rfl) (by kernel_rfl) (by kernel_rfl) (fun _ _ _ h => h) (by rfl) (by assumption) ?_ ?_
    rotate_left
    · (intro w' hSw; (try dsimp only at hSw); go_simp; try with_reducible rfl)
    try simp only [Act.put, List.setIfInBounds_toArray, List.set_cons_zero, List.set_cons_succ]
    refine take_yes 5 (some 40) (v := ?_) rfl (by kernel_rfl) (by kernel_rfl) (by kernel_rfl) (by kernel_rfl) (fun _ _ _ h => h) (by rfl) (by assumption) ?_ ?_
    rotate_left
    · (intro w' hSw; (try dsimp only at hSw); go_simp; try with_reducible rfl)
    try simp only [Act.put, List.setIfInBounds_toArray, List.set_cons_zero, List.set_cons_succ]
    refine take_run 3 rfl (by kernel_rfl) (by rfl) (fun K hK => ?_)
    have dr_429 : Since y y.drew := (Since.refl _).drew
    have c_430 := Since.trans hsy dr_429
    have M_431 := Lib.hid (BT.out.since dr_429)
    clear BT
    have M_432 := Lib.hid (BR.out.since dr_429)
    clear BR
    clear dr_429
    go_simp
    try rw [show ((q : Int) + (m : Int)).toNat - q = m from by omega]
    try rw [show ((q : Int) + (m : Int)).toNat = q + m from by omega]
    refine (HLC.out _ (HT1.out.since c_430)).mono ?_
    rintro en q_424 ⟨v_425, rfl, ⟨v_425b, rfl, ho_426, _⟩, hs_427⟩
    obtain ⟨u_428o, u_428n, u_428c, u_428N, rfl⟩ := ho_426.lenN
    have O_433 := Lib.hid (ho_426.mono (base' := w.heap.size) c_430.size)
    clear ho_426
    have c_434 := Since.trans c_430 hs_427
    have M_435 := Lib.hid (M_431.out.since hs_427)
    clear M_431
    have M_436 := Lib.hid (M_432.out.since hs_427)
    clear M_432
    clear hs_427
    refine hK.out _ _ (HKC.out _ M_435.out) (fun hHeld_437 => ?_)
    clear hK K hHeld
    try simp only [Act.put, List.setIfInBounds_toArray, List.set_cons_zero, List.set_cons_succ]
    refine take_run 6 rfl (by kernel_rfl) (by rfl) (fun K hK => ?_)
    go_simp
    refine (l8Join_any _ _ (exT l).post [] ⟨6, lr, lo, hi⟩ _ ⟨_, rfl, O_433.out.at⟩ ⟨_, rfl, ToksAt.nil _ none 0⟩ HTI.out (by omega) (by simp)).mono ?_
    rintro en q_438 ⟨v_439, rfl, ⟨v_439b, rfl, ho_440, _⟩, hs_441⟩
    obtain ⟨Z_442o, Z_442n, Z_442c, Z_442N, rfl⟩ := ho_440.lenN
    have O_443 := Lib.hid (ho_440.mono (base' := w.heap.size) c_434.size)
    clear ho_440
    have c_444 := Since.trans c_434 hs_441
    have M_445 := Lib.hid (M_435.out.since hs_441)
    clear M_435
    have M_446 := Lib.hid (M_436.out.since hs_441)
    clear M_436
    have M_447 := Lib.hid (O_433.out.since hs_441)
    clear O_433
    clear hs_441
    refine hK.out _ _ (HKC.out _ M_445.out) (fun hHeld_448 => ?_)
    clear hK K hHeld_437
    try simp only [Act.put, List.setIfInBounds_toArray, List.set_cons_zero, List.set_cons_succ]
    refine take_run 7 rfl (by kernel_rfl) (by rfl) (fun K hK => ?_)
    obtain ⟨q0, q1⟩ := M_446.out.one
    go_simp
    clear q0 q1
    have c_449 := Since.setCell c_444 (a := ⟨w.heap.size, 0, none⟩) (by show w.heap.size ≤ w.heap.size; omega) (.slice Z_442o Z_442n Z_442c)
    have M_451 := Lib.hid (M_447.out.farT M_446.out (by decide) 0 (.slice Z_442o Z_442n Z_442c))
    clear M_447
    have M_452 := Lib.hid (O_443.out.farT M_446.out (by decide) 0 (.slice Z_442o Z_442n Z_442c))
    clear O_443
    have M_453 := Lib.hid (M_445.out.far (p := ⟨w.heap.size, 0, none⟩) (by show w.heap.size + 1 ≠ w.heap.size; omega) (.slice Z_442o Z_442n Z_442c))
    clear M_445
    have B_454 := Lib.hid (M_446.out.set 0 (.slice Z_442o Z_442n Z_442c))
    clear M_446
    refine hK.out _ _ (HKC.out _ M_453.out) (fun hHeld_455 => ?_)
    clear hK K hHeld_448
    try simp only [Act.put, List.setIfInBounds_toArray, List.set_cons_zero, List.set_cons_succ]
    generalize q_438.setCell ⟨w.heap.size, 0, none⟩ (.slice Z_442o Z_442n Z_442c) = wS_450 at M_453 B_454 M_451 M_452 c_449 hHeld_455 ⊢
    refine wpAnyH_done (by kernel_rfl) ?_ _
    clear hHeld_455
    obtain ⟨r0, r1⟩ := B_454.out.one
    go_wp2_with fail
    refine bodyPost_ret (v := .agg #[.slice Z_442o Z_442n Z_442c]) (by simp [results, Tryd.results67, go_sem, *]) rfl ?_
    rw [HD.out]
    exact xout_mk M_452.out c_449
set_option maxHeartbeats 4000000 in
set_option maxRecDepth 100000 in
theorem expS_rep (lr lo hi : Int) (l r : Tr) (hl : ExpS l) (hr : ExpS r) : ExpS (.node ⟨7, lr, lo, hi⟩ l r) := by
    obtain ⟨t, hte⟩ : ∃ t : Tok, t = ⟨7, lr, lo, hi⟩ := ⟨_, rfl⟩
    rw [← hte]
    intro ao n ac w hok ha hac hn hn9 hin hsz
    obtain ⟨htok, hcase⟩ := hok
    have HA := Lib.hid ha
    obtain ⟨_, _, e0, HC⟩ := ha.row
    injection e0 with e1 e2 e3
    subst e1; subst e3
    clear e2 ha
    obtain ⟨q, hq⟩ : ∃ q, q = l.post.length := ⟨_, rfl⟩
    obtain ⟨m, hm⟩ : ∃ m, m = r.post.length := ⟨_, rfl⟩
    have hnn : n = q + m + 1 := by rw [hn, hq, hm, post_len, post_len]; rfl
    have hxl : (Tr.node t l r).post.length = q + m + 1 := by rw [hq, hm]; simp [Tr.post]; omega
    clear hn
    subst hnn
    have hxq : q + m < (Tr.node t l r).post.length := by omega
    have hxt : (Tr.node t l r).post[q + m] = t := by subst hq; subst hm; exact (last_post t l r).2
    have HQ := Lib.hid hq
    have HMM := Lib.hid hm
    clear hq hm
    have HTK1 : Hid ((Tr.node t l r).post.take (q + m) = l.post ++ r.post) := by unfold Hid; rw [show (Tr.node t l r).post = (l.post ++ r.post) ++ [t] from rfl]; exact List.take_left' (by rw [HQ.out, HMM.out, List.length_append])
    obtain ⟨b, off, rfl, hb, c0, c1, c2, c3⟩ := HC.out (q + m) hxq
    rw [hxt] at c0 c1 c2 c3
    have HTI : Hid (t.In) := by have hmem := List.getElem_mem hxq; rw [hxt] at hmem; exact hin t hmem
    have HINL : Hid (∀ x ∈ l.post, x.In) := fun x hx => hin x (by simp [Tr.post, hx])
    have HINR : Hid (∀ x ∈ r.post, x.In) := fun x hx => hin x (by simp [Tr.post, hx])
    clear hxt hin hxl
    have HTA : Hid (ToksAt w (.slice (some ⟨b, off, none⟩) (q + m) ac) (l.post ++ r.post)) := by
      unfold Hid; rw [← HTK1.out]; exact toks_takeO HA.out (by omega) _ _ (fun _ _ e => e)
    have hql : Hid (q = l.len) := by unfold Hid; rw [← post_len]; exact HQ.out
    have hmr : Hid (m = r.len) := by unfold Hid; rw [← post_len]; exact HMM.out
    have hkq : ((q + m : Nat) : Int) < ((q + m + 1 : Nat) : Int) := by omega
    have hk0 : (0 : Int) ≤ ((q + m : Nat) : Int) := by omega
    have hqa : q + m ≤ ac := by omega
    have hqai : (q : Int) + (m : Int) ≤ (ac : Int) := by omega
    have hqm0 : (0 : Int) ≤ (q : Int) + (m : Int) := by omega
    have hne : ¬ (ac = q + m) := by omega
    obtain ⟨y, hy⟩ : ∃ y, y = (w.alloc (.cells #[.slice none 0 0] 26)).alloc (.cells #[.int .i64 t.kd, .int .i64 t.lr, .int .i64 t.lo, .int .i64 t.hi] 90) := ⟨_, rfl⟩
    have hsy : Since w y := by rw [hy]; exact ((Since.refl w).alloc _).alloc _
    have BT : Hid (Blk y (w.heap.size + 1) 90 #[.int .i64 t.kd, .int .i64 t.lr, .int .i64 t.lo, .int .i64 t.hi]) := by rw [hy]; exact Blk.new (by simp) _ _
    have BR : Hid (Blk y w.heap.size 26 #[.slice none 0 0]) := by rw [hy]; exact (Blk.new rfl _ _).alloc _
    have hzy : w.heap.size + 2 ≤ y.heap.size := by rw [hy]; simp
    have HY := Lib.hid hy
    obtain ⟨d0, d1, d2, d3, _⟩ := BT.out.four
    rw [hy] at d0 d1 d2 d3
    clear hy
    subst hte
    have hk17 := okT_kd htok
    rw [opN_of] at hcase
    dsimp only at c0 c1 c2 c3 d0 d1 d2 d3 BT HTI HY
    obtain ⟨hlo, rfl⟩ : l.ok ∧ r = .nil := by
      rcases hcase with ⟨h0, _⟩ | ⟨_, a, b⟩ | ⟨h2, _⟩
      · simp at h0
      · exact ⟨a, b⟩
      · simp at h2
    have hm0 : m = 0 := HMM.out
    have hlq : Hid (q + m = l.len) := by unfold Hid; rw [← post_len, hm0, HQ.out]; rfl
    have HPL : Hid (l.post.length = q + m) := by unfold Hid; rw [hm0, HQ.out]; rfl
    clear hcase hm0
    have HT1 : Hid (ToksAt w (.slice (some ⟨b, off, none⟩) (q + m) ac) l.post) := by have := HTA.out; rwa [show l.post ++ Tr.nil.post = l.post from List.append_nil _] at this
    obtain ⟨k0, k1, k2, k3⟩ := okT_hi htok rfl
    dsimp only at k0 k1 k2 k3
    obtain ⟨z1, _⟩ := szT_parts htok hsz
    have hdl := exT_small hlo z1
    have HD : Hid ((exT (Tr.node ⟨7, lr, lo, hi⟩ l .nil)).post = (timT (exT l) hi.toNat lo.toNat).post) := by unfold Hid; simp [exT]
    have HLC : Hid (∀ W, ToksAt W (.slice (some ⟨b, off, none⟩) (q + m) ac) l.post → Calls Tryd.prog 67 #[.slice (some ⟨b, off, none⟩) (q + m) ac] W (XOut W (exT l).post)) := fun W k => hl _ (q + m) ac W hlo k (by omega) hlq.out (by omega) HINL.out z1
    have HTM : Hid (∀ V W, ExAt W V (exT l).post → Calls Tryd.prog 120 #[V, .int .i64 lo, .int .i64 hi] W (XOut W (timT (exT l) hi.toNat lo.toNat).post)) := fun V W k => l10Times_any (exT l) (by rw [← post_len]; exact hdl) hi.toNat lo hi V W (by omega) (by omega) k0 (by omega) k
    clear z1 hsz k0 k1 k2 k3
    go_enter Tryd.func67, Tryd.ntmps67
    go_upto_region 11 with fail
    rw [← HY.out]
    clear c0 c1 c2 c3 d0 d1 d2 d3
    have HKC : Hid (∀ w', Blk w' (w.heap.size + 1) 90 #[.int .i64 7, .int .i64 lr, .int .i64 lo, .int .i64 hi] → w'.cell? ⟨w.heap.size + 1, 0, none⟩ = some (.int .i64 7) ∧ w'.cell? ⟨w.heap.size + 1, 1, none⟩ = some (.int .i64 lr) ∧ w'.cell? ⟨w.heap.size + 1, 2, none⟩ = some (.int .i64 lo) ∧ w'.cell? ⟨w.heap.size + 1, 3, none⟩ = some (.int .i64 hi)) := by
      intro w' hb0
      obtain ⟨r00, r01, r02, r03, _⟩ := hb0.four
      exact ⟨r00, r01, r02, r03⟩
    refine wp_region_held_drew (S := (fun w' => w'.cell? ⟨w.heap.size + 1, 0, none⟩ = some (.int .i64 7) ∧ w'.cell? ⟨w.heap.size + 1, 1, none⟩ = some (.int .i64 lr) ∧ w'.cell? ⟨w.heap.size + 1, 2, none⟩ = some (.int .i64 lo) ∧ w'.cell? ⟨w.heap.size + 1, 3, none⟩ = some (.int .i64 hi))) (by kernel_rfl) (HKC.out _ (BT.out.drew)) (fun hHeld => ?_)
    refine take_yes 0 (some 44) (v := ?_) rfl (by kernel_rfl) (by kernel_rfl) (by kernel_rfl) (by kernel_rfl) (fun _ _ _ h => h) (by rfl) (by assumption) ?_ ?_
    rotate_left
    · (intro w' hSw; (try dsimp only at hSw); go_simp; try with_reducible rfl)
    try simp only [Act.put, List.setIfInBounds_toArray, List.set_cons_zero, List.set_cons_succ]
    refine take_yes 1 (some 45) (v := ?_) rfl (by kernel_rfl) (by kernel_rfl) (by kernel_rfl) (by kernel_rfl) (fun _ _ _ h => h) (by rfl) (by assumption) ?_ ?_
    rotate_left
    · (intro w' hSw; (try dsimp only at hSw); go_simp; try with_reducible rfl)
    try simp only [Act.put, List.setIfInBounds_toArray, List.set_cons_zero, List.set_cons_succ]
    refine take_yes 2 (some 46) (v := ?_) rfl (by kernel_rfl) (by kernel_rfl) (by kernel_rfl) (by kernel_rfl) (fun _ _ _ h => h) (by rfl) (by assumption) ?_ ?_
    rotate_left
    · (intro w' hSw; (try dsimp only at hSw); go_simp; try with_reducible rfl)
    try simp only [Act.put, List.setIfInBounds_toArray, List.set_cons_zero, List.set_cons_succ]
    refine take_yes 4 (some 48) (v := ?_) rfl (by kernel_rfl) (by kernel_rfl) (by kernel_rfl) (by kernel_rfl) (fun _ _ _ h => h) (by rfl) (by assumption) ?_ ?_
    rotate_left
    · (intro w' hSw; (try dsimp only at hSw); go_simp; try with_reducible rfl)
    try simp only [Act.put, List.setIfInBounds_toArray, List.set_cons_zero, List.set_cons_succ]
    refine take_yes 5 (some 49) (v := ?_) rfl (by kernel_rfl) (by kernel_rfl) (by kernel_rfl) (by kernel_rfl) (fun _ _ _ h => h) (by rfl) (by assumption) ?_ ?_
    rotate_left
    · (intro w' hSw; (try dsimp only at hSw); go_simp; try with_reducible rfl)
    try simp only [Act.put, List.setIfInBounds_toArray, List.set_cons_zero, List.set_cons_succ]
    refine take_yes 6 (some 50) (v := ?_) rfl (by kernel_rfl) (by kernel_rfl) (by kernel_rfl) (by kernel_rfl) (fun _ _ _ h => h) (by rfl) (by assumption) ?_ ?_
    rotate_left
    · (intro w' hSw; (try dsimp only at hSw); go_simp; try with_reducible rfl)
    try simp only [Act.put, List.setIfInBounds_toArray, List.set_cons_zero, List.set_cons_succ]
    refine take_yes 7 (some 51) (v := ?_) rfl (by kernel_rfl) (by kernel_rfl) (by kernel_rfl) (by kernel_rfl) (fun _ _ _ h => h) (by rfl) (by assumption) ?_ ?_
    rotate_left
    · (intro w' hSw; (try dsimp only at hSw); go_simp; try with_reducible rfl)
    try simp only [Act.put, List.setIfInBounds_toArray, List.set_cons_zero, List.set_cons_succ]
    refine take_run 3 rfl (by kernel_rfl) (by rfl) (fun K hK => ?_)
    have dr_461 : Since y y.drew := (Since.refl _).drew
    have c_462 := Since.trans hsy dr_461
    have M_463 := Lib.hid (BT.out.since dr_461)
    clear BT
    have M_464 := Lib.hid (BR.out.since dr_461)
    clear BR
    clear dr_461
    go_simp
    try rw [show ((q : Int) + (m : Int)).toNat - q = m from by omega]
    try rw [show ((q : Int) + (m : Int)).toNat = q + m from by omega]
    refine (HLC.out _ (HT1.out.since c_462)).mono ?_
    rintro en q_456 ⟨v_457, rfl, ⟨v_457b, rfl, ho_458, _⟩, hs_459⟩
    obtain ⟨u_460o, u_460n, u_460c, u_460N, rfl⟩ := ho_458.lenN
    have O_465 := Lib.hid (ho_458.mono (base' := w.heap.size) c_462.size)
    clear ho_458
    have c_466 := Since.trans c_462 hs_459
    have M_467 := Lib.hid (M_463.out.since hs_459)
    clear M_463
    have M_468 := Lib.hid (M_464.out.since hs_459)
    clear M_464
    clear hs_459
    refine hK.out _ _ (HKC.out _ M_467.out) (fun hHeld_469 => ?_)
    clear hK K hHeld
    try simp only [Act.put, List.setIfInBounds_toArray, List.set_cons_zero, List.set_cons_succ]
    refine take_run 8 rfl (by kernel_rfl) (by rfl) (fun K hK => ?_)
    go_simp
    refine (HTM.out _ _ ⟨_, rfl, O_465.out.at⟩).mono ?_
    rintro en q_470 ⟨v_471, rfl, ⟨v_471b, rfl, ho_472, _⟩, hs_473⟩
    obtain ⟨Z_474o, Z_474n, Z_474c, Z_474N, rfl⟩ := ho_472.lenN
    have O_475 := Lib.hid (ho_472.mono (base' := w.heap.size) c_466.size)
    clear ho_472
    have c_476 := Since.trans c_466 hs_473
    have M_477 := Lib.hid (M_467.out.since hs_473)
    clear M_467
    have M_478 := Lib.hid (M_468.out.since hs_473)
    clear M_468
    have M_479 := Lib.hid (O_465.out.since hs_473)
    clear O_465
    clear hs_473
    refine hK.out _ _ (HKC.out _ M_477.out) (fun hHeld_480 => ?_)
    clear hK K hHeld_469
    try simp only [Act.put, List.setIfInBounds_toArray, List.set_cons_zero, List.set_cons_succ]
    refine take_run 9 rfl (by kernel_rfl) (by rfl) (fun K hK => ?_)
    obtain ⟨q0, q1⟩ := M_478.out.one
    go_simp
    clear q0 q1
    have c_481 := Since.setCell c_476 (a := ⟨w.heap.size, 0, none⟩) (by show w.heap.size ≤ w.heap.size; omega) (.slice Z_474o Z_474n Z_474c)
    have M_483 := Lib.hid (M_479.out.farT M_478.out (by decide) 0 (.slice Z_474o Z_474n Z_474c))
    clear M_479
    have M_484 := Lib.hid (O_475.out.farT M_478.out (by decide) 0 (.slice Z_474o Z_474n Z_474c))
    clear O_475
    have M_485 := Lib.hid (M_477.out.far (p := ⟨w.heap.size, 0, none⟩) (by show w.heap.size + 1 ≠ w.heap.size; omega) (.slice Z_474o Z_474n Z_474c))
    clear M_477
    have B_486 := Lib.hid (M_478.out.set 0 (.slice Z_474o Z_474n Z_474c))
    clear M_478
    refine hK.out _ _ (HKC.out _ M_485.out) (fun hHeld_487 => ?_)
    clear hK K hHeld_480
    try simp only [Act.put, List.setIfInBounds_toArray, List.set_cons_zero, List.set_cons_succ]
    generalize q_470.setCell ⟨w.heap.size, 0, none⟩ (.slice Z_474o Z_474n Z_474c) = wS_482 at M_485 B_486 M_483 M_484 c_481 hHeld_487 ⊢
    refine wpAnyH_done (by kernel_rfl) ?_ _
    clear hHeld_487
    obtain ⟨r0, r1⟩ := B_486.out.one
    go_wp2_with fail
    refine bodyPost_ret (v := .agg #[.slice Z_474o Z_474n Z_474c]) (by simp [results, Tryd.results67, go_sem, *]) rfl ?_
    rw [HD.out]
    exact xout_mk M_484.out c_481
theorem l10Expand_any (T : Tr) : ExpS T := by
  induction T with
  | nil => intro ao n ac w h; exact h.elim
  | node t l r hl hr =>
    intro ao n ac w hok
    obtain ⟨kd, lr, lo, hi⟩ := t
    have hk := okT_kd hok.1
    dsimp only at hk
    rcases (by omega : kd = 1 ∨ kd = 2 ∨ kd = 3 ∨ kd = 4 ∨ kd = 5 ∨ kd = 6 ∨ kd = 7) with rfl | rfl | rfl | rfl | rfl | rfl | rfl
    · exact expS_none lr lo hi l r hl hr ao n ac w hok
    · exact expS_empty lr lo hi l r hl hr ao n ac w hok
    · exact expS_letter lr lo hi l r hl hr ao n ac w hok
    · exact expS_cat lr lo hi l r hl hr ao n ac w hok
    · exact expS_uni lr lo hi l r hl hr ao n ac w hok
    · exact expS_star lr lo hi l r hl hr ao n ac w hok
    · exact expS_rep lr lo hi l r hl hr ao n ac w hok
end Go.Proofs.YtblmiocjhbpklaaDoor
