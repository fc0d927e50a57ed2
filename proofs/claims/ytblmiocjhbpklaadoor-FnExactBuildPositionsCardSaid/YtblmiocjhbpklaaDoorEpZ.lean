/- The bound on an expansion's size, the model's. -/
import Derived.Test.YtblmiocjhbpklaaDoorEpM
namespace Go.Proofs.YtblmiocjhbpklaaDoor
set_option maxRecDepth 100000
open Go.ChangeShapes Go.WideShapes Go.ChangeAt Go.RowKit
set_option linter.unusedVariables false
set_option linter.unusedSimpArgs false

theorem min_ifH (a : Nat) : ((min 100000 a : Nat) : Int) = if (a : Int) < 100000 then (a : Int) else 100000 := by
  split <;> omega
theorem wrapI_in {x : Int} (h0 : -9223372036854775808 ≤ x) (h1 : x < 9223372036854775808) : IntKind.i64.wrap x = x := by
  rw [IntKind.wrap_i64]; omega
def IOut (w : World) (n : Nat) (e : Ending) (w' : World) : Prop := e = .returned (.int .i64 (n : Int)) ∧ Since w w'
/-- What is shown of a tree's bound, by trees. -/
def SizS (T : Tr) : Prop := ∀ (ao : Option Addr) (n ac : Nat) (w : World), T.ok → ToksAt w (.slice ao n ac) T.post → n ≤ ac → n = T.len → n ≤ 1048577 → (∀ x ∈ T.post, x.In) →
    Calls Tryd.prog 66 #[.slice ao n ac] w (IOut w (szT T))
set_option maxHeartbeats 4000000 in
set_option maxRecDepth 100000 in
theorem sizS_none (lr lo hi : Int) (l r : Tr) (hl : SizS l) (hr : SizS r) : SizS (.node ⟨1, lr, lo, hi⟩ l r) := by
    obtain ⟨t, hte⟩ : ∃ t : Tok, t = ⟨1, lr, lo, hi⟩ := ⟨_, rfl⟩
    rw [← hte]
    intro ao n ac w hok ha hac hn hn9 hin
    obtain ⟨htok, hcase⟩ := hok
    have HA := Lib.hid ha
    obtain ⟨_, _, e0, HC⟩ := ha.row
    injection e0 with e1 e2 e3
    subst e1; subst e3
    clear e2 ha
    obtain ⟨q, hq⟩ : ∃ q, q = l.post.length := ⟨_, rfl⟩
    obtain ⟨m, hm⟩ : ∃ m, m = r.post.length := ⟨_, rfl⟩
    have hnn : n = q + m + 1 := by rw [hn, hq, hm, post_len, post_len]; rfl
    have hxl : (Tr.node t l r).post.length = q + m + 1 := by rw [hq, hm]; simp [Tr.post]; omega
    clear hn
    subst hnn
    have hxq : q + m < (Tr.node t l r).post.length := by omega
    have hxt : (Tr.node t l r).post[q + m] = t := by subst hq; subst hm; exact (last_post t l r).2
    have HQ := Lib.hid hq
    have HMM := Lib.hid hm
    clear hq hm
    have HTK1 : Hid ((Tr.node t l r).post.take (q + m) = l.post ++ r.post) := by unfold Hid; rw [show (Tr.node t l r).post = (l.post ++ r.post) ++ [t] from rfl]; exact List.take_left' (by rw [HQ.out, HMM.out, List.length_append])
    obtain ⟨b, off, rfl, hb, c0, c1, c2, c3⟩ := HC.out (q + m) hxq
    rw [hxt] at c0 c1 c2 c3
    have HTI : Hid (t.In) := by have hmem := List.getElem_mem hxq; rw [hxt] at hmem; exact hin t hmem
    have HINL : Hid (∀ x ∈ l.post, x.In) := fun x hx => hin x (by simp [Tr.post, hx])
    have HINR : Hid (∀ x ∈ r.post, x.In) := fun x hx => hin x (by simp [Tr.post, hx])
    clear hxt hin hxl
    have HTA : Hid (ToksAt w (.slice (some ⟨b, off, none⟩) (q + m) ac) (l.post ++ r.post)) := by
      unfold Hid; rw [← HTK1.out]; exact toks_takeO HA.out (by omega) _ _ (fun _ _ e => e)
    have hql : Hid (q = l.len) := by unfold Hid; rw [← post_len]; exact HQ.out
    have hmr : Hid (m = r.len) := by unfold Hid; rw [← post_len]; exact HMM.out
    have hkq : ((q + m : Nat) : Int) < ((q + m + 1 : Nat) : Int) := by omega
    have hk0 : (0 : Int) ≤ ((q + m : Nat) : Int) := by omega
    have hqa : q + m ≤ ac := by omega
    have hqai : (q : Int) + (m : Int) ≤ (ac : Int) := by omega
    have hqm0 : (0 : Int) ≤ (q : Int) + (m : Int) := by omega
    have hne : ¬ (ac = q + m) := by omega
    obtain ⟨y, hy⟩ : ∃ y, y = w.alloc (.cells #[.int .i64 t.kd, .int .i64 t.lr, .int .i64 t.lo, .int .i64 t.hi] 90) := ⟨_, rfl⟩
    have hsy : Since w y := by rw [hy]; exact (Since.refl w).alloc _
    have BT : Hid (Blk y w.heap.size 90 #[.int .i64 t.kd, .int .i64 t.lr, .int .i64 t.lo, .int .i64 t.hi]) := by rw [hy]; exact Blk.new rfl _ _
    have HY := Lib.hid hy
    obtain ⟨d0, d1, d2, d3, _⟩ := BT.out.four
    rw [hy] at d0 d1 d2 d3
    clear hy
    subst hte
    have hk17 := okT_kd htok
    rw [opN_of] at hcase
    dsimp only at c0 c1 c2 c3 d0 d1 d2 d3 BT HTI HY
    have HD : Hid (szT (Tr.node ⟨1, lr, lo, hi⟩ l r) = 1) := by
      unfold Hid
      rcases hcase with ⟨_, rfl, rfl⟩ | ⟨h1, _⟩ | ⟨h2, _⟩
      · rfl
      · simp at h1
      · simp at h2
    clear hcase
    go_enter Tryd.func66, Tryd.ntmps66
    go_wp2
    go_ret
    exact ⟨ret_int (by rw [HD.out]; rfl), by rw [← HY.out]; exact hsy⟩
set_option maxHeartbeats 4000000 in
set_option maxRecDepth 100000 in
theorem sizS_empty (lr lo hi : Int) (l r : Tr) (hl : SizS l) (hr : SizS r) : SizS (.node ⟨2, lr, lo, hi⟩ l r) := by
    obtain ⟨t, hte⟩ : ∃ t : Tok, t = ⟨2, lr, lo, hi⟩ := ⟨_, rfl⟩
    rw [← hte]
    intro ao n ac w hok ha hac hn hn9 hin
    obtain ⟨htok, hcase⟩ := hok
    have HA := Lib.hid ha
    obtain ⟨_, _, e0, HC⟩ := ha.row
    injection e0 with e1 e2 e3
    subst e1; subst e3
    clear e2 ha
    obtain ⟨q, hq⟩ : ∃ q, q = l.post.length := ⟨_, rfl⟩
    obtain ⟨m, hm⟩ : ∃ m, m = r.post.length := ⟨_, rfl⟩
    have hnn : n = q + m + 1 := by rw [hn, hq, hm, post_len, post_len]; rfl
    have hxl : (Tr.node t l r).post.length = q + m + 1 := by rw [hq, hm]; simp [Tr.post]; omega
    clear hn
    subst hnn
    have hxq : q + m < (Tr.node t l r).post.length := by omega
    have hxt : (Tr.node t l r).post[q + m] = t := by subst hq; subst hm; exact (last_post t l r).2
    have HQ := Lib.hid hq
    have HMM := Lib.hid hm
    clear hq hm
    have HTK1 : Hid ((Tr.node t l r).post.take (q + m) = l.post ++ r.post) := by unfold Hid; rw [show (Tr.node t l r).post = (l.post ++ r.post) ++ [t] from rfl]; exact List.take_left' (by rw [HQ.out, HMM.out, List.length_append])
    obtain ⟨b, off, rfl, hb, c0, c1, c2, c3⟩ := HC.out (q + m) hxq
    rw [hxt] at c0 c1 c2 c3
    have HTI : Hid (t.In) := by have hmem := List.getElem_mem hxq; rw [hxt] at hmem; exact hin t hmem
    have HINL : Hid (∀ x ∈ l.post, x.In) := fun x hx => hin x (by simp [Tr.post, hx])
    have HINR : Hid (∀ x ∈ r.post, x.In) := fun x hx => hin x (by simp [Tr.post, hx])
    clear hxt hin hxl
    have HTA : Hid (ToksAt w (.slice (some ⟨b, off, none⟩) (q + m) ac) (l.post ++ r.post)) := by
      unfold Hid; rw [← HTK1.out]; exact toks_takeO HA.out (by omega) _ _ (fun _ _ e => e)
    have hql : Hid (q = l.len) := by unfold Hid; rw [← post_len]; exact HQ.out
    have hmr : Hid (m = r.len) := by unfold Hid; rw [← post_len]; exact HMM.out
    have hkq : ((q + m : Nat) : Int) < ((q + m + 1 : Nat) : Int) := by omega
    have hk0 : (0 : Int) ≤ ((q + m : Nat) : Int) := by omega
    have hqa : q + m ≤ ac := by omega
    have hqai : (q : Int) + (m : Int) ≤ (ac : Int) := by omega
    have hqm0 : (0 : Int) ≤ (q : Int) + (m : Int) := by omega
    have hne : ¬ (ac = q + m) := by omega
    obtain ⟨y, hy⟩ : ∃ y, y = w.alloc (.cells #[.int .i64 t.kd, .int .i64 t.lr, .int .i64 t.lo, .int .i64 t.hi] 90) := ⟨_, rfl⟩
    have hsy : Since w y := by rw [hy]; exact (Since.refl w).alloc _
    have BT : Hid (Blk y w.heap.size 90 #[.int .i64 t.kd, .int .i64 t.lr, .int .i64 t.lo, .int .i64 t.hi]) := by rw [hy]; exact Blk.new rfl _ _
    have HY := Lib.hid hy
    obtain ⟨d0, d1, d2, d3, _⟩ := BT.out.four
    rw [hy] at d0 d1 d2 d3
    clear hy
    subst hte
    have hk17 := okT_kd htok
    rw [opN_of] at hcase
    dsimp only at c0 c1 c2 c3 d0 d1 d2 d3 BT HTI HY
    have HD : Hid (szT (Tr.node ⟨2, lr, lo, hi⟩ l r) = 1) := by
      unfold Hid
      rcases hcase with ⟨_, rfl, rfl⟩ | ⟨h1, _⟩ | ⟨h2, _⟩
      · rfl
      · simp at h1
      · simp at h2
    clear hcase
    go_enter Tryd.func66, Tryd.ntmps66
    go_wp2
    go_ret
    exact ⟨ret_int (by rw [HD.out]; rfl), by rw [← HY.out]; exact hsy⟩
set_option maxHeartbeats 4000000 in
set_option maxRecDepth 100000 in
theorem sizS_letter (lr lo hi : Int) (l r : Tr) (hl : SizS l) (hr : SizS r) : SizS (.node ⟨3, lr, lo, hi⟩ l r) := by
    obtain ⟨t, hte⟩ : ∃ t : Tok, t = ⟨3, lr, lo, hi⟩ := ⟨_, rfl⟩
    rw [← hte]
    intro ao n ac w hok ha hac hn hn9 hin
    obtain ⟨htok, hcase⟩ := hok
    have HA := Lib.hid ha
    obtain ⟨_, _, e0, HC⟩ := ha.row
    injection e0 with e1 e2 e3
    subst e1; subst e3
    clear e2 ha
    obtain ⟨q, hq⟩ : ∃ q, q = l.post.length := ⟨_, rfl⟩
    obtain ⟨m, hm⟩ : ∃ m, m = r.post.length := ⟨_, rfl⟩
    have hnn : n = q + m + 1 := by rw [hn, hq, hm, post_len, post_len]; rfl
    have hxl : (Tr.node t l r).post.length = q + m + 1 := by rw [hq, hm]; simp [Tr.post]; omega
    clear hn
    subst hnn
    have hxq : q + m < (Tr.node t l r).post.length := by omega
    have hxt : (Tr.node t l r).post[q + m] = t := by subst hq; subst hm; exact (last_post t l r).2
    have HQ := Lib.hid hq
    have HMM := Lib.hid hm
    clear hq hm
    have HTK1 : Hid ((Tr.node t l r).post.take (q + m) = l.post ++ r.post) := by unfold Hid; rw [show (Tr.node t l r).post = (l.post ++ r.post) ++ [t] from rfl]; exact List.take_left' (by rw [HQ.out, HMM.out, List.length_append])
    obtain ⟨b, off, rfl, hb, c0, c1, c2, c3⟩ := HC.out (q + m) hxq
    rw [hxt] at c0 c1 c2 c3
    have HTI : Hid (t.In) := by have hmem := List.getElem_mem hxq; rw [hxt] at hmem; exact hin t hmem
    have HINL : Hid (∀ x ∈ l.post, x.In) := fun x hx => hin x (by simp [Tr.post, hx])
    have HINR : Hid (∀ x ∈ r.post, x.In) := fun x hx => hin x (by simp [Tr.post, hx])
    clear hxt hin hxl
    have HTA : Hid (ToksAt w (.slice (some ⟨b, off, none⟩) (q + m) ac) (l.post ++ r.post)) := by
      unfold Hid; rw [← HTK1.out]; exact toks_takeO HA.out (by omega) _ _ (fun _ _ e => e)
    have hql : Hid (q = l.len) := by unfold Hid; rw [← post_len]; exact HQ.out
    have hmr : Hid (m = r.len) := by unfold Hid; rw [← post_len]; exact HMM.out
    have hkq : ((q + m : Nat) : Int) < ((q + m + 1 : Nat) : Int) := by omega
    have hk0 : (0 : Int) ≤ ((q + m : Nat) : Int) := by omega
    have hqa : q + m ≤ ac := by omega
    have hqai : (q : Int) + (m : Int) ≤ (ac : Int) := by omega
    have hqm0 : (0 : Int) ≤ (q : Int) + (m : Int) := by omega
    have hne : ¬ (ac = q + m) := by omega
    obtain ⟨y, hy⟩ : ∃ y, y = w.alloc (.cells #[.int .i64 t.kd, .int .i64 t.lr, .int .i64 t.lo, .int .i64 t.hi] 90) := ⟨_, rfl⟩
    have hsy : Since w y := by rw [hy]; exact (Since.refl w).alloc _
    have BT : Hid (Blk y w.heap.size 90 #[.int .i64 t.kd, .int .i64 t.lr, .int .i64 t.lo, .int .i64 t.hi]) := by rw [hy]; exact Blk.new rfl _ _
    have HY := Lib.hid hy
    obtain ⟨d0, d1, d2, d3, _⟩ := BT.out.four
    rw [hy] at d0 d1 d2 d3
    clear hy
    subst hte
    have hk17 := okT_kd htok
    rw [opN_of] at hcase
    dsimp only at c0 c1 c2 c3 d0 d1 d2 d3 BT HTI HY
    have HD : Hid (szT (Tr.node ⟨3, lr, lo, hi⟩ l r) = 1) := by
      unfold Hid
      rcases hcase with ⟨_, rfl, rfl⟩ | ⟨h1, _⟩ | ⟨h2, _⟩
      · rfl
      · simp at h1
      · simp at h2
    clear hcase
    go_enter Tryd.func66, Tryd.ntmps66
    go_wp2
    go_ret
    exact ⟨ret_int (by rw [HD.out]; rfl), by rw [← HY.out]; exact hsy⟩
set_option maxHeartbeats 4000000 in
set_option maxRecDepth 100000 in
theorem sizS_cat (lr lo hi : Int) (l r : Tr) (hl : SizS l) (hr : SizS r) : SizS (.node ⟨4, lr, lo, hi⟩ l r) := by
    obtain ⟨t, hte⟩ : ∃ t : Tok, t = ⟨4, lr, lo, hi⟩ := ⟨_, rfl⟩
    rw [← hte]
    intro ao n ac w hok ha hac hn hn9 hin
    obtain ⟨htok, hcase⟩ := hok
    have HA := Lib.hid ha
    obtain ⟨_, _, e0, HC⟩ := ha.row
    injection e0 with e1 e2 e3
    subst e1; subst e3
    clear e2 ha
    obtain ⟨q, hq⟩ : ∃ q, q = l.post.length := ⟨_, rfl⟩
    obtain ⟨m, hm⟩ : ∃ m, m = r.post.length := ⟨_, rfl⟩
    have hnn : n = q + m + 1 := by rw [hn, hq, hm, post_len, post_len]; rfl
    have hxl : (Tr.node t l r).post.length = q + m + 1 := by rw [hq, hm]; simp [Tr.post]; omega
    clear hn
    subst hnn
    have hxq : q + m < (Tr.node t l r).post.length := by omega
    have hxt : (Tr.node t l r).post[q + m] = t := by subst hq; subst hm; exact (last_post t l r).2
    have HQ := Lib.hid hq
    have HMM := Lib.hid hm
    clear hq hm
    have HTK1 : Hid ((Tr.node t l r).post.take (q + m) = l.post ++ r.post) := by unfold Hid; rw [show (Tr.node t l r).post = (l.post ++ r.post) ++ [t] from rfl]; exact List.take_left' (by rw [HQ.out, HMM.out, List.length_append])
    obtain ⟨b, off, rfl, hb, c0, c1, c2, c3⟩ := HC.out (q + m) hxq
    rw [hxt] at c0 c1 c2 c3
    have HTI : Hid (t.In) := by have hmem := List.getElem_mem hxq; rw [hxt] at hmem; exact hin t hmem
    have HINL : Hid (∀ x ∈ l.post, x.In) := fun x hx => hin x (by simp [Tr.post, hx])
    have HINR : Hid (∀ x ∈ r.post, x.In) := fun x hx => hin x (by simp [Tr.post, hx])
    clear hxt hin hxl
    have HTA : Hid (ToksAt w (.slice (some ⟨b, off, none⟩) (q + m) ac) (l.post ++ r.post)) := by
      unfold Hid; rw [← HTK1.out]; exact toks_takeO HA.out (by omega) _ _ (fun _ _ e => e)
    have hql : Hid (q = l.len) := by unfold Hid; rw [← post_len]; exact HQ.out
    have hmr : Hid (m = r.len) := by unfold Hid; rw [← post_len]; exact HMM.out
    have hkq : ((q + m : Nat) : Int) < ((q + m + 1 : Nat) : Int) := by omega
    have hk0 : (0 : Int) ≤ ((q + m : Nat) : Int) := by omega
    have hqa : q + m ≤ ac := by omega
    have hqai : (q : Int) + (m : Int) ≤ (ac : Int) := by omega
    have hqm0 : (0 : Int) ≤ (q : Int) + (m : Int) := by omega
    have hne : ¬ (ac = q + m) := by omega
    obtain ⟨y, hy⟩ : ∃ y, y = w.alloc (.cells #[.int .i64 t.kd, .int .i64 t.lr, .int .i64 t.lo, .int .i64 t.hi] 90) := ⟨_, rfl⟩
    have hsy : Since w y := by rw [hy]; exact (Since.refl w).alloc _
    have BT : Hid (Blk y w.heap.size 90 #[.int .i64 t.kd, .int .i64 t.lr, .int .i64 t.lo, .int .i64 t.hi]) := by rw [hy]; exact Blk.new rfl _ _
    have HY := Lib.hid hy
    obtain ⟨d0, d1, d2, d3, _⟩ := BT.out.four
    rw [hy] at d0 d1 d2 d3
    clear hy
    subst hte
    have hk17 := okT_kd htok
    rw [opN_of] at hcase
    dsimp only at c0 c1 c2 c3 d0 d1 d2 d3 BT HTI HY
    obtain ⟨hlo, hro⟩ : l.ok ∧ r.ok := by
      rcases hcase with ⟨h0, _⟩ | ⟨h1, _⟩ | ⟨_, a, b⟩
      · simp at h0
      · simp at h1
      · exact ⟨a, b⟩
    have HPL : Hid (l.post.length = q) := HQ.out.symm
    have HPR : Hid (r.post.length = m) := HMM.out.symm
    have HSC : Hid (Scan (l.post ++ r.post) l.post.length (l.post ++ r.post).length 1) := scan_two l.post r hro
    have hmp : 0 < m := by rw [HMM.out]; exact post_pos hro
    clear hcase
    obtain ⟨A, hA⟩ : ∃ A, A = szT l := ⟨_, rfl⟩
    obtain ⟨B, hB⟩ : ∃ B, B = szT r := ⟨_, rfl⟩
    have hA9 : A ≤ 100000 := by rw [hA]; exact szT_le l
    have hB9 : B ≤ 100000 := by rw [hB]; exact szT_le r
    have HD : Hid (szT (Tr.node ⟨4, lr, lo, hi⟩ l r) = min 100000 (A + B + 1)) := by unfold Hid; rw [hA, hB]; simp [szT]
    have HLC : Hid (∀ W, Since w W → ToksAt W (.slice (some ⟨b, off, none⟩) q ac) l.post → Calls Tryd.prog 66 #[.slice (some ⟨b, off, none⟩) q ac] W (IOut W A)) := fun W hW k => by rw [hA]; exact hl _ q ac W hlo k (by omega) hql.out (by omega) HINL.out
    have HRC : Hid (∀ W, Since w W → ToksAt W (.slice (some ⟨b, off + q * 4, none⟩) m (ac - q)) r.post → Calls Tryd.prog 66 #[.slice (some ⟨b, off + q * 4, none⟩) m (ac - q)] W (IOut W B)) := fun W hW k => by rw [hB]; exact hr _ m (ac - q) W hro k (by omega) hmr.out (by omega) HINR.out
    clear hA hB
    obtain ⟨U, hU⟩ : ∃ U : Int, U = (A : Int) + (B : Int) := ⟨_, rfl⟩
    obtain ⟨V, hV⟩ : ∃ V : Int, V = U + 1 := ⟨_, rfl⟩
    have EW1 : Hid (IntKind.i64.wrap ((A : Int) + (B : Int)) = U) := by unfold Hid; rw [hU]; exact wrapI_in (by omega) (by omega)
    have EW2 : Hid (IntKind.i64.wrap (U + 1) = V) := by unfold Hid; rw [hV]; exact wrapI_in (by omega) (by omega)
    have HV : Hid (((szT (Tr.node ⟨4, lr, lo, hi⟩ l r) : Nat) : Int) = if V < 100000 then V else 100000) := by
      unfold Hid; rw [HD.out, min_ifH, hV, hU]; simp
    clear hU hV hA9 hB9 HD
    obtain ⟨Z, hZ⟩ : ∃ Z, Z = szT (Tr.node ⟨4, lr, lo, hi⟩ l r) := ⟨_, rfl⟩
    rw [← hZ]
    rw [← hZ] at HV
    clear hZ
    have hne2 : ¬ (ac = q) := by omega
    have hqac : q ≤ ac := by omega
    have hqaci : (q : Int) ≤ (ac : Int) := by omega
    have hqmi : (q : Int) ≤ (q : Int) + (m : Int) := by omega
    have hqma : (q : Int) + (m : Int) ≤ (ac : Int) := by omega
    have hq0 : (0 : Int) ≤ (q : Int) := by omega
    have HT1 : Hid (ToksAt w (.slice (some ⟨b, off, none⟩) q ac) l.post) := by
      have := toks_takeO HTA.out (k := q) (by omega) (some ⟨b, off, none⟩) ac (fun _ _ e => e)
      rwa [show (l.post ++ r.post).take q = l.post from List.take_left' HQ.out.symm] at this
    have HT2 : Hid (ToksAt w (.slice (some ⟨b, off + q * 4, none⟩) m (ac - q)) r.post) := by
      have := toks_dropO HTA.out (k := q) (by omega) (some ⟨b, off + q * 4, none⟩) m (ac - q) (by omega) (fun _ b1 o1 e => by injection e with e; injection e with e1 e2; rw [e1, e2])
      rwa [show (l.post ++ r.post).drop q = r.post from List.drop_left' HQ.out.symm] at this
    go_enter Tryd.func66, Tryd.ntmps66
    go_wp2_with fail
    rw [← HY.out]
    clear c0 c1 c2 c3 d0 d1 d2 d3
    refine (l8Start_any _ (l.post ++ r.post) l.post.length _ (HTA.out.since hsy) HSC.out (by rw [List.length_append, ← HQ.out, ← HMM.out]; omega)).mono ?_
    rintro e w2 ⟨rfl, hs2⟩
    rw [← HQ.out]
    have hyw2 := hsy.trans hs2
    have BT2 := Lib.hid (BT.out.since hs2)
    clear BT hs2
    go_upto_region 7 with fail
    have ew1 := EW1.out
    have ew2 := EW2.out
    have HKC : Hid (∀ w', Blk w' w.heap.size 90 #[.int .i64 4, .int .i64 lr, .int .i64 lo, .int .i64 hi] → w'.cell? ⟨w.heap.size, 0, none⟩ = some (.int .i64 4) ∧ w'.cell? ⟨w.heap.size, 1, none⟩ = some (.int .i64 lr) ∧ w'.cell? ⟨w.heap.size, 2, none⟩ = some (.int .i64 lo) ∧ w'.cell? ⟨w.heap.size, 3, none⟩ = some (.int .i64 hi)) := by
      intro w' hb0
      obtain ⟨r00, r01, r02, r03, _⟩ := hb0.four
      exact ⟨r00, r01, r02, r03⟩
    refine wp_region_held_drew (S := (fun w' => w'.cell? ⟨w.heap.size, 0, none⟩ = some (.int .i64 4) ∧ w'.cell? ⟨w.heap.size, 1, none⟩ = some (.int .i64 lr) ∧ w'.cell? ⟨w.heap.size, 2, none⟩ = some (.int .i64 lo) ∧ w'.cell? ⟨w.heap.size, 3, none⟩ = some (.int .i64 hi))) (by kernel_rfl) (HKC.out _ (BT2.out.drew)) (fun hHeld => ?_)
    refine take_yes 0 (some 22) (v := ?_) rfl (by kernel_rfl) (by kernel_rfl) (by kernel_rfl) (by kernel_rfl) (fun _ _ _ h => h) (by rfl) (by assumption) ?_ ?_
    rotate_left
    · (intro w' hSw; (try dsimp only at hSw); go_simp; try with_reducible rfl)
    try simp only [Act.put, List.setIfInBounds_toArray, List.set_cons_zero, List.set_cons_succ]
    refine take_yes 1 (some 23) (v := ?_) rfl (by kernel_rfl) (by kernel_rfl) (by kernel_rfl) (by kernel_rfl) (fun _ _ _ h => h) (by rfl) (by assumption) ?_ ?_
    rotate_left
    · (intro w' hSw; (try dsimp only at hSw); go_simp; try with_reducible rfl)
    try simp only [Act.put, List.setIfInBounds_toArray, List.set_cons_zero, List.set_cons_succ]
    refine take_yes 2 (some 24) (v := ?_) rfl (by kernel_rfl) (by kernel_rfl) (by kernel_rfl) (by kernel_rfl) (fun _ _ _ h => h) (by rfl) (by assumption) ?_ ?_
    rotate_left
    · (intro w' hSw; (try dsimp only at hSw); go_simp; try with_reducible rfl)
    try simp only [Act.put, List.setIfInBounds_toArray, List.set_cons_zero, List.set_cons_succ]
    refine take_yes 4 (some 26) (v := ?_) rfl (by kernel_rfl) (by kernel_rfl) (by kernel_rfl) (by kernel_rfl) (fun _ _ _ h => h) (by rfl) (by assumption) ?_ ?_
    rotate_left
    · (intro w' hSw; (try dsimp only at hSw); go_simp; try with_reducible rfl)
    try simp only [Act.put, List.setIfInBounds_toArray, List.set_cons_zero, List.set_cons_succ]
    refine take_yes 5 (some 27) (v := ?_) rfl (by kernel_rfl) (by kernel_rfl) (by kernel_rfl) (by kernel_rfl) (fun _ _ _ h => h) (by rfl) (by assumption) ?_ ?_
    rotate_left
    · (intro w' hSw; (try dsimp only at hSw); go_simp; try with_reducible rfl)
    try simp only [Act.put, List.setIfInBounds_toArray, List.set_cons_zero, List.set_cons_succ]
    refine take_yes 6 (some 28) (v := ?_) rfl (by kernel_rfl) (by kernel_rfl) (by kernel_rfl) (by kernel_rfl) (fun _ _ _ h => h) (by rfl) (by assumption) ?_ ?_
    rotate_left
    · (intro w' hSw; (try dsimp only at hSw); go_simp; try with_reducible rfl)
    try simp only [Act.put, List.setIfInBounds_toArray, List.set_cons_zero, List.set_cons_succ]
    refine take_yes 7 (some 29) (v := ?_) rfl (by kernel_rfl) (by kernel_rfl) (by kernel_rfl) (by kernel_rfl) (fun _ _ _ h => h) (by rfl) (by assumption) ?_ ?_
    rotate_left
    · (intro w' hSw; (try dsimp only at hSw); go_simp; try with_reducible rfl)
    try simp only [Act.put, List.setIfInBounds_toArray, List.set_cons_zero, List.set_cons_succ]
    refine take_run 3 rfl (by kernel_rfl) (by rfl) (fun K hK => ?_)
    have dr_3 : Since w2 w2.drew := (Since.refl _).drew
    have c_4 := Since.trans hyw2 dr_3
    have M_5 := Lib.hid (BT2.out.since dr_3)
    clear BT2
    clear dr_3
    go_simp
    clear ew1 ew2
    try rw [show ((q : Int) + (m : Int)).toNat - q = m from by omega]
    try rw [show ((q : Int) + (m : Int)).toNat = q + m from by omega]
    have ew1 := EW1.out
    have ew2 := EW2.out
    refine (HLC.out _ c_4 (HT1.out.since c_4)).mono ?_
    rintro en q_1 ⟨rfl, hs_2⟩
    have c_6 := Since.trans c_4 hs_2
    have M_7 := Lib.hid (M_5.out.since hs_2)
    clear M_5
    clear hs_2
    refine hK.out _ _ (HKC.out _ M_7.out) (fun hHeld_8 => ?_)
    clear hK K hHeld
    try simp only [Act.put, List.setIfInBounds_toArray, List.set_cons_zero, List.set_cons_succ]
    refine take_run 8 rfl (by kernel_rfl) (by rfl) (fun K hK => ?_)
    go_simp
    clear ew1 ew2
    try rw [show ((q : Int) + (m : Int)).toNat - q = m from by omega]
    try rw [show ((q : Int) + (m : Int)).toNat = q + m from by omega]
    have ew1 := EW1.out
    have ew2 := EW2.out
    refine (HRC.out _ c_6 (HT2.out.since c_6)).mono ?_
    rintro en q_9 ⟨rfl, hs_10⟩
    have c_11 := Since.trans c_6 hs_10
    have M_12 := Lib.hid (M_7.out.since hs_10)
    clear M_7
    clear hs_10
    refine hK.out _ _ (HKC.out _ M_12.out) (fun hHeld_13 => ?_)
    clear hK K hHeld_8
    try simp only [Act.put, List.setIfInBounds_toArray, List.set_cons_zero, List.set_cons_succ]
    refine take_yes 9 (some 31) (v := ?_) rfl (by kernel_rfl) (by kernel_rfl) (by kernel_rfl) (by kernel_rfl) (fun _ _ _ h => h) (by rfl) (by assumption) ?_ ?_
    rotate_left
    · (intro w' hSw; (try dsimp only at hSw); go_simp; try with_reducible rfl)
    try simp only [Act.put, List.setIfInBounds_toArray, List.set_cons_zero, List.set_cons_succ]
    refine take_yes 10 (some 32) (v := ?_) rfl (by kernel_rfl) (by kernel_rfl) (by kernel_rfl) (by kernel_rfl) (fun _ _ _ h => h) (by rfl) (by assumption) ?_ ?_
    rotate_left
    · (intro w' hSw; (try dsimp only at hSw); go_simp; try with_reducible rfl)
    try simp only [Act.put, List.setIfInBounds_toArray, List.set_cons_zero, List.set_cons_succ]
    refine take_run 11 rfl (by kernel_rfl) (by rfl) (fun K hK => ?_)
    go_simp
    refine hK.out _ _ (HKC.out _ M_12.out) (fun hHeld_14 => ?_)
    clear hK K hHeld_13
    try simp only [Act.put, List.setIfInBounds_toArray, List.set_cons_zero, List.set_cons_succ]
    refine take_yes 12 (some 2) (v := ?_) rfl (by kernel_rfl) (by kernel_rfl) (by kernel_rfl) (by kernel_rfl) (fun _ _ _ h => h) (by rfl) (by assumption) ?_ ?_
    rotate_left
    · (intro w' hSw; (try dsimp only at hSw); go_simp; try with_reducible rfl)
    try simp only [Act.put, List.setIfInBounds_toArray, List.set_cons_zero, List.set_cons_succ]
    refine wpAnyH_done (by kernel_rfl) ?_ _
    clear hHeld_14
    clear ew1 ew2
    go_wp2_with fail
    all_goals (go_ret; refine ⟨ret_int ?_, c_11⟩; rw [HV.out]; split <;> omega)
set_option maxHeartbeats 4000000 in
set_option maxRecDepth 100000 in
theorem sizS_uni (lr lo hi : Int) (l r : Tr) (hl : SizS l) (hr : SizS r) : SizS (.node ⟨5, lr, lo, hi⟩ l r) := by
    obtain ⟨t, hte⟩ : ∃ t : Tok, t = ⟨5, lr, lo, hi⟩ := ⟨_, rfl⟩
    rw [← hte]
    intro ao n ac w hok ha hac hn hn9 hin
    obtain ⟨htok, hcase⟩ := hok
    have HA := Lib.hid ha
    obtain ⟨_, _, e0, HC⟩ := ha.row
    injection e0 with e1 e2 e3
    subst e1; subst e3
    clear e2 ha
    obtain ⟨q, hq⟩ : ∃ q, q = l.post.length := ⟨_, rfl⟩
    obtain ⟨m, hm⟩ : ∃ m, m = r.post.length := ⟨_, rfl⟩
    have hnn : n = q + m + 1 := by rw [hn, hq, hm, post_len, post_len]; rfl
    have hxl : (Tr.node t l r).post.length = q + m + 1 := by rw [hq, hm]; simp [Tr.post]; omega
    clear hn
    subst hnn
    have hxq : q + m < (Tr.node t l r).post.length := by omega
    have hxt : (Tr.node t l r).post[q + m] = t := by subst hq; subst hm; exact (last_post t l r).2
    have HQ := Lib.hid hq
    have HMM := Lib.hid hm
    clear hq hm
    have HTK1 : Hid ((Tr.node t l r).post.take (q + m) = l.post ++ r.post) := by unfold Hid; rw [show (Tr.node t l r).post = (l.post ++ r.post) ++ [t] from rfl]; exact List.take_left' (by rw [HQ.out, HMM.out, List.length_append])
    obtain ⟨b, off, rfl, hb, c0, c1, c2, c3⟩ := HC.out (q + m) hxq
    rw [hxt] at c0 c1 c2 c3
    have HTI : Hid (t.In) := by have hmem := List.getElem_mem hxq; rw [hxt] at hmem; exact hin t hmem
    have HINL : Hid (∀ x ∈ l.post, x.In) := fun x hx => hin x (by simp [Tr.post, hx])
    have HINR : Hid (∀ x ∈ r.post, x.In) := fun x hx => hin x (by simp [Tr.post, hx])
    clear hxt hin hxl
    have HTA : Hid (ToksAt w (.slice (some ⟨b, off, none⟩) (q + m) ac) (l.post ++ r.post)) := by
      unfold Hid; rw [← HTK1.out]; exact toks_takeO HA.out (by omega) _ _ (fun _ _ e => e)
    have hql : Hid (q = l.len) := by unfold Hid; rw [← post_len]; exact HQ.out
    have hmr : Hid (m = r.len) := by unfold Hid; rw [← post_len]; exact HMM.out
    have hkq : ((q + m : Nat) : Int) < ((q + m + 1 : Nat) : Int) := by omega
    have hk0 : (0 : Int) ≤ ((q + m : Nat) : Int) := by omega
    have hqa : q + m ≤ ac := by omega
    have hqai : (q : Int) + (m : Int) ≤ (ac : Int) := by omega
    have hqm0 : (0 : Int) ≤ (q : Int) + (m : Int) := by omega
    have hne : ¬ (ac = q + m) := by omega
    obtain ⟨y, hy⟩ : ∃ y, y = w.alloc (.cells #[.int .i64 t.kd, .int .i64 t.lr, .int .i64 t.lo, .int .i64 t.hi] 90) := ⟨_, rfl⟩
    have hsy : Since w y := by rw [hy]; exact (Since.refl w).alloc _
    have BT : Hid (Blk y w.heap.size 90 #[.int .i64 t.kd, .int .i64 t.lr, .int .i64 t.lo, .int .i64 t.hi]) := by rw [hy]; exact Blk.new rfl _ _
    have HY := Lib.hid hy
    obtain ⟨d0, d1, d2, d3, _⟩ := BT.out.four
    rw [hy] at d0 d1 d2 d3
    clear hy
    subst hte
    have hk17 := okT_kd htok
    rw [opN_of] at hcase
    dsimp only at c0 c1 c2 c3 d0 d1 d2 d3 BT HTI HY
    obtain ⟨hlo, hro⟩ : l.ok ∧ r.ok := by
      rcases hcase with ⟨h0, _⟩ | ⟨h1, _⟩ | ⟨_, a, b⟩
      · simp at h0
      · simp at h1
      · exact ⟨a, b⟩
    have HPL : Hid (l.post.length = q) := HQ.out.symm
    have HPR : Hid (r.post.length = m) := HMM.out.symm
    have HSC : Hid (Scan (l.post ++ r.post) l.post.length (l.post ++ r.post).length 1) := scan_two l.post r hro
    have hmp : 0 < m := by rw [HMM.out]; exact post_pos hro
    clear hcase
    obtain ⟨A, hA⟩ : ∃ A, A = szT l := ⟨_, rfl⟩
    obtain ⟨B, hB⟩ : ∃ B, B = szT r := ⟨_, rfl⟩
    have hA9 : A ≤ 100000 := by rw [hA]; exact szT_le l
    have hB9 : B ≤ 100000 := by rw [hB]; exact szT_le r
    have HD : Hid (szT (Tr.node ⟨5, lr, lo, hi⟩ l r) = min 100000 (A + B + 1)) := by unfold Hid; rw [hA, hB]; simp [szT]
    have HLC : Hid (∀ W, Since w W → ToksAt W (.slice (some ⟨b, off, none⟩) q ac) l.post → Calls Tryd.prog 66 #[.slice (some ⟨b, off, none⟩) q ac] W (IOut W A)) := fun W hW k => by rw [hA]; exact hl _ q ac W hlo k (by omega) hql.out (by omega) HINL.out
    have HRC : Hid (∀ W, Since w W → ToksAt W (.slice (some ⟨b, off + q * 4, none⟩) m (ac - q)) r.post → Calls Tryd.prog 66 #[.slice (some ⟨b, off + q * 4, none⟩) m (ac - q)] W (IOut W B)) := fun W hW k => by rw [hB]; exact hr _ m (ac - q) W hro k (by omega) hmr.out (by omega) HINR.out
    clear hA hB
    obtain ⟨U, hU⟩ : ∃ U : Int, U = (A : Int) + (B : Int) := ⟨_, rfl⟩
    obtain ⟨V, hV⟩ : ∃ V : Int, V = U + 1 := ⟨_, rfl⟩
    have EW1 : Hid (IntKind.i64.wrap ((A : Int) + (B : Int)) = U) := by unfold Hid; rw [hU]; exact wrapI_in (by omega) (by omega)
    have EW2 : Hid (IntKind.i64.wrap (U + 1) = V) := by unfold Hid; rw [hV]; exact wrapI_in (by omega) (by omega)
    have HV : Hid (((szT (Tr.node ⟨5, lr, lo, hi⟩ l r) : Nat) : Int) = if V < 100000 then V else 100000) := by
      unfold Hid; rw [HD.out, min_ifH, hV, hU]; simp
    clear hU hV hA9 hB9 HD
    obtain ⟨Z, hZ⟩ : ∃ Z, Z = szT (Tr.node ⟨5, lr, lo, hi⟩ l r) := ⟨_, rfl⟩
    rw [← hZ]
    rw [← hZ] at HV
    clear hZ
    have hne2 : ¬ (ac = q) := by omega
    have hqac : q ≤ ac := by omega
    have hqaci : (q : Int) ≤ (ac : Int) := by omega
    have hqmi : (q : Int) ≤ (q : Int) + (m : Int) := by omega
    have hqma : (q : Int) + (m : Int) ≤ (ac : Int) := by omega
    have hq0 : (0 : Int) ≤ (q : Int) := by omega
    have HT1 : Hid (ToksAt w (.slice (some ⟨b, off, none⟩) q ac) l.post) := by
      have := toks_takeO HTA.out (k := q) (by omega) (some ⟨b, off, none⟩) ac (fun _ _ e => e)
      rwa [show (l.post ++ r.post).take q = l.post from List.take_left' HQ.out.symm] at this
    have HT2 : Hid (ToksAt w (.slice (some ⟨b, off + q * 4, none⟩) m (ac - q)) r.post) := by
      have := toks_dropO HTA.out (k := q) (by omega) (some ⟨b, off + q * 4, none⟩) m (ac - q) (by omega) (fun _ b1 o1 e => by injection e with e; injection e with e1 e2; rw [e1, e2])
      rwa [show (l.post ++ r.post).drop q = r.post from List.drop_left' HQ.out.symm] at this
    go_enter Tryd.func66, Tryd.ntmps66
    go_wp2_with fail
    rw [← HY.out]
    clear c0 c1 c2 c3 d0 d1 d2 d3
    refine (l8Start_any _ (l.post ++ r.post) l.post.length _ (HTA.out.since hsy) HSC.out (by rw [List.length_append, ← HQ.out, ← HMM.out]; omega)).mono ?_
    rintro e w2 ⟨rfl, hs2⟩
    rw [← HQ.out]
    have hyw2 := hsy.trans hs2
    have BT2 := Lib.hid (BT.out.since hs2)
    clear BT hs2
    go_upto_region 7 with fail
    have ew1 := EW1.out
    have ew2 := EW2.out
    have HKC : Hid (∀ w', Blk w' w.heap.size 90 #[.int .i64 5, .int .i64 lr, .int .i64 lo, .int .i64 hi] → w'.cell? ⟨w.heap.size, 0, none⟩ = some (.int .i64 5) ∧ w'.cell? ⟨w.heap.size, 1, none⟩ = some (.int .i64 lr) ∧ w'.cell? ⟨w.heap.size, 2, none⟩ = some (.int .i64 lo) ∧ w'.cell? ⟨w.heap.size, 3, none⟩ = some (.int .i64 hi)) := by
      intro w' hb0
      obtain ⟨r00, r01, r02, r03, _⟩ := hb0.four
      exact ⟨r00, r01, r02, r03⟩
    refine wp_region_held_drew (S := (fun w' => w'.cell? ⟨w.heap.size, 0, none⟩ = some (.int .i64 5) ∧ w'.cell? ⟨w.heap.size, 1, none⟩ = some (.int .i64 lr) ∧ w'.cell? ⟨w.heap.size, 2, none⟩ = some (.int .i64 lo) ∧ w'.cell? ⟨w.heap.size, 3, none⟩ = some (.int .i64 hi))) (by kernel_rfl) (HKC.out _ (BT2.out.drew)) (fun hHeld => ?_)
    refine take_yes 0 (some 22) (v := ?_) rfl (by kernel_rfl) (by kernel_rfl) (by kernel_rfl) (by kernel_rfl) (fun _ _ _ h => h) (by rfl) (by assumption) ?_ ?_
    rotate_left
    · (intro w' hSw; (try dsimp only at hSw); go_simp; try with_reducible rfl)
    try simp only [Act.put, List.setIfInBounds_toArray, List.set_cons_zero, List.set_cons_succ]
    refine take_yes 1 (some 23) (v := ?_) rfl (by kernel_rfl) (by kernel_rfl) (by kernel_rfl) (by kernel_rfl) (fun _ _ _ h => h) (by rfl) (by assumption) ?_ ?_
    rotate_left
    · (intro w' hSw; (try dsimp only at hSw); go_simp; try with_reducible rfl)
    try simp only [Act.put, List.setIfInBounds_toArray, List.set_cons_zero, List.set_cons_succ]
    refine take_yes 2 (some 24) (v := ?_) rfl (by kernel_rfl) (by kernel_rfl) (by kernel_rfl) (by kernel_rfl) (fun _ _ _ h => h) (by rfl) (by assumption) ?_ ?_
    rotate_left
    · (intro w' hSw; (try dsimp only at hSw); go_simp; try with_reducible rfl)
    try simp only [Act.put, List.setIfInBounds_toArray, List.set_cons_zero, List.set_cons_succ]
    refine take_yes 4 (some 26) (v := ?_) rfl (by kernel_rfl) (by kernel_rfl) (by kernel_rfl) (by kernel_rfl) (fun _ _ _ h => h) (by rfl) (by assumption) ?_ ?_
    rotate_left
    · (intro w' hSw; (try dsimp only at hSw); go_simp; try with_reducible rfl)
    try simp only [Act.put, List.setIfInBounds_toArray, List.set_cons_zero, List.set_cons_succ]
    refine take_yes 5 (some 27) (v := ?_) rfl (by kernel_rfl) (by kernel_rfl) (by kernel_rfl) (by kernel_rfl) (fun _ _ _ h => h) (by rfl) (by assumption) ?_ ?_
    rotate_left
    · (intro w' hSw; (try dsimp only at hSw); go_simp; try with_reducible rfl)
    try simp only [Act.put, List.setIfInBounds_toArray, List.set_cons_zero, List.set_cons_succ]
    refine take_yes 6 (some 28) (v := ?_) rfl (by kernel_rfl) (by kernel_rfl) (by kernel_rfl) (by kernel_rfl) (fun _ _ _ h => h) (by rfl) (by assumption) ?_ ?_
    rotate_left
    · (intro w' hSw; (try dsimp only at hSw); go_simp; try with_reducible rfl)
    try simp only [Act.put, List.setIfInBounds_toArray, List.set_cons_zero, List.set_cons_succ]
    refine take_yes 7 (some 29) (v := ?_) rfl (by kernel_rfl) (by kernel_rfl) (by kernel_rfl) (by kernel_rfl) (fun _ _ _ h => h) (by rfl) (by assumption) ?_ ?_
    rotate_left
    · (intro w' hSw; (try dsimp only at hSw); go_simp; try with_reducible rfl)
    try simp only [Act.put, List.setIfInBounds_toArray, List.set_cons_zero, List.set_cons_succ]
    refine take_run 3 rfl (by kernel_rfl) (by rfl) (fun K hK => ?_)
    have dr_17 : Since w2 w2.drew := (Since.refl _).drew
    have c_18 := Since.trans hyw2 dr_17
    have M_19 := Lib.hid (BT2.out.since dr_17)
    clear BT2
    clear dr_17
    go_simp
    clear ew1 ew2
    try rw [show ((q : Int) + (m : Int)).toNat - q = m from by omega]
    try rw [show ((q : Int) + (m : Int)).toNat = q + m from by omega]
    have ew1 := EW1.out
    have ew2 := EW2.out
    refine (HLC.out _ c_18 (HT1.out.since c_18)).mono ?_
    rintro en q_15 ⟨rfl, hs_16⟩
    have c_20 := Since.trans c_18 hs_16
    have M_21 := Lib.hid (M_19.out.since hs_16)
    clear M_19
    clear hs_16
    refine hK.out _ _ (HKC.out _ M_21.out) (fun hHeld_22 => ?_)
    clear hK K hHeld
    try simp only [Act.put, List.setIfInBounds_toArray, List.set_cons_zero, List.set_cons_succ]
    refine take_run 8 rfl (by kernel_rfl) (by rfl) (fun K hK => ?_)
    go_simp
    clear ew1 ew2
    try rw [show ((q : Int) + (m : Int)).toNat - q = m from by omega]
    try rw [show ((q : Int) + (m : Int)).toNat = q + m from by omega]
    have ew1 := EW1.out
    have ew2 := EW2.out
    refine (HRC.out _ c_20 (HT2.out.since c_20)).mono ?_
    rintro en q_23 ⟨rfl, hs_24⟩
    have c_25 := Since.trans c_20 hs_24
    have M_26 := Lib.hid (M_21.out.since hs_24)
    clear M_21
    clear hs_24
    refine hK.out _ _ (HKC.out _ M_26.out) (fun hHeld_27 => ?_)
    clear hK K hHeld_22
    try simp only [Act.put, List.setIfInBounds_toArray, List.set_cons_zero, List.set_cons_succ]
    refine take_yes 9 (some 31) (v := ?_) rfl (by kernel_rfl) (by kernel_rfl) (by kernel_rfl) (by kernel_rfl) (fun _ _ _ h => h) (by rfl) (by assumption) ?_ ?_
    rotate_left
    · (intro w' hSw; (try dsimp only at hSw); go_simp; try with_reducible rfl)
    try simp only [Act.put, List.setIfInBounds_toArray, List.set_cons_zero, List.set_cons_succ]
    refine take_yes 10 (some 32) (v := ?_) rfl (by kernel_rfl) (by kernel_rfl) (by kernel_rfl) (by kernel_rfl) (fun _ _ _ h => h) (by rfl) (by assumption) ?_ ?_
    rotate_left
    · (intro w' hSw; (try dsimp only at hSw); go_simp; try with_reducible rfl)
    try simp only [Act.put, List.setIfInBounds_toArray, List.set_cons_zero, List.set_cons_succ]
    refine take_run 11 rfl (by kernel_rfl) (by rfl) (fun K hK => ?_)
    go_simp
    refine hK.out _ _ (HKC.out _ M_26.out) (fun hHeld_28 => ?_)
    clear hK K hHeld_27
    try simp only [Act.put, List.setIfInBounds_toArray, List.set_cons_zero, List.set_cons_succ]
    refine take_yes 12 (some 2) (v := ?_) rfl (by kernel_rfl) (by kernel_rfl) (by kernel_rfl) (by kernel_rfl) (fun _ _ _ h => h) (by rfl) (by assumption) ?_ ?_
    rotate_left
    · (intro w' hSw; (try dsimp only at hSw); go_simp; try with_reducible rfl)
    try simp only [Act.put, List.setIfInBounds_toArray, List.set_cons_zero, List.set_cons_succ]
    refine wpAnyH_done (by kernel_rfl) ?_ _
    clear hHeld_28
    clear ew1 ew2
    go_wp2_with fail
    all_goals (go_ret; refine ⟨ret_int ?_, c_25⟩; rw [HV.out]; split <;> omega)
set_option maxHeartbeats 4000000 in
set_option maxRecDepth 100000 in
theorem sizS_star (lr lo hi : Int) (l r : Tr) (hl : SizS l) (hr : SizS r) : SizS (.node ⟨6, lr, lo, hi⟩ l r) := by
    obtain ⟨t, hte⟩ : ∃ t : Tok, t = ⟨6, lr, lo, hi⟩ := ⟨_, rfl⟩
    rw [← hte]
    intro ao n ac w hok ha hac hn hn9 hin
    obtain ⟨htok, hcase⟩ := hok
    have HA := Lib.hid ha
    obtain ⟨_, _, e0, HC⟩ := ha.row
    injection e0 with e1 e2 e3
    subst e1; subst e3
    clear e2 ha
    obtain ⟨q, hq⟩ : ∃ q, q = l.post.length := ⟨_, rfl⟩
    obtain ⟨m, hm⟩ : ∃ m, m = r.post.length := ⟨_, rfl⟩
    have hnn : n = q + m + 1 := by rw [hn, hq, hm, post_len, post_len]; rfl
    have hxl : (Tr.node t l r).post.length = q + m + 1 := by rw [hq, hm]; simp [Tr.post]; omega
    clear hn
    subst hnn
    have hxq : q + m < (Tr.node t l r).post.length := by omega
    have hxt : (Tr.node t l r).post[q + m] = t := by subst hq; subst hm; exact (last_post t l r).2
    have HQ := Lib.hid hq
    have HMM := Lib.hid hm
    clear hq hm
    have HTK1 : Hid ((Tr.node t l r).post.take (q + m) = l.post ++ r.post) := by unfold Hid; rw [show (Tr.node t l r).post = (l.post ++ r.post) ++ [t] from rfl]; exact List.take_left' (by rw [HQ.out, HMM.out, List.length_append])
    obtain ⟨b, off, rfl, hb, c0, c1, c2, c3⟩ := HC.out (q + m) hxq
    rw [hxt] at c0 c1 c2 c3
    have HTI : Hid (t.In) := by have hmem := List.getElem_mem hxq; rw [hxt] at hmem; exact hin t hmem
    have HINL : Hid (∀ x ∈ l.post, x.In) := fun x hx => hin x (by simp [Tr.post, hx])
    have HINR : Hid (∀ x ∈ r.post, x.In) := fun x hx => hin x (by simp [Tr.post, hx])
    clear hxt hin hxl
    have HTA : Hid (ToksAt w (.slice (some ⟨b, off, none⟩) (q + m) ac) (l.post ++ r.post)) := by
      unfold Hid; rw [← HTK1.out]; exact toks_takeO HA.out (by omega) _ _ (fun _ _ e => e)
    have hql : Hid (q = l.len) := by unfold Hid; rw [← post_len]; exact HQ.out
    have hmr : Hid (m = r.len) := by unfold Hid; rw [← post_len]; exact HMM.out
    have hkq : ((q + m : Nat) : Int) < ((q + m + 1 : Nat) : Int) := by omega
    have hk0 : (0 : Int) ≤ ((q + m : Nat) : Int) := by omega
    have hqa : q + m ≤ ac := by omega
    have hqai : (q : Int) + (m : Int) ≤ (ac : Int) := by omega
    have hqm0 : (0 : Int) ≤ (q : Int) + (m : Int) := by omega
    have hne : ¬ (ac = q + m) := by omega
    obtain ⟨y, hy⟩ : ∃ y, y = w.alloc (.cells #[.int .i64 t.kd, .int .i64 t.lr, .int .i64 t.lo, .int .i64 t.hi] 90) := ⟨_, rfl⟩
    have hsy : Since w y := by rw [hy]; exact (Since.refl w).alloc _
    have BT : Hid (Blk y w.heap.size 90 #[.int .i64 t.kd, .int .i64 t.lr, .int .i64 t.lo, .int .i64 t.hi]) := by rw [hy]; exact Blk.new rfl _ _
    have HY := Lib.hid hy
    obtain ⟨d0, d1, d2, d3, _⟩ := BT.out.four
    rw [hy] at d0 d1 d2 d3
    clear hy
    subst hte
    have hk17 := okT_kd htok
    rw [opN_of] at hcase
    dsimp only at c0 c1 c2 c3 d0 d1 d2 d3 BT HTI HY
    obtain ⟨hlo, rfl⟩ : l.ok ∧ r = .nil := by
      rcases hcase with ⟨h0, _⟩ | ⟨_, a, b⟩ | ⟨h2, _⟩
      · simp at h0
      · exact ⟨a, b⟩
      · simp at h2
    have hm0 : m = 0 := HMM.out
    have hlq : Hid (q + m = l.len) := by unfold Hid; rw [← post_len, hm0, HQ.out]; rfl
    have HPL : Hid (l.post.length = q + m) := by unfold Hid; rw [hm0, HQ.out]; rfl
    clear hcase hm0
    have HT1 : Hid (ToksAt w (.slice (some ⟨b, off, none⟩) (q + m) ac) l.post) := by have := HTA.out; rwa [show l.post ++ Tr.nil.post = l.post from List.append_nil _] at this
    obtain ⟨A, hA⟩ : ∃ A, A = szT l := ⟨_, rfl⟩
    have hA9 : A ≤ 100000 := by rw [hA]; exact szT_le l
    have HD : Hid (szT (Tr.node ⟨6, lr, lo, hi⟩ l .nil) = min 100000 (A + 1)) := by unfold Hid; rw [hA]; simp [szT]
    have HLC : Hid (∀ W, ToksAt W (.slice (some ⟨b, off, none⟩) (q + m) ac) l.post → Calls Tryd.prog 66 #[.slice (some ⟨b, off, none⟩) (q + m) ac] W (IOut W A)) := fun W k => by rw [hA]; exact hl _ (q + m) ac W hlo k (by omega) hlq.out (by omega) HINL.out
    clear hA
    obtain ⟨V, hV⟩ : ∃ V : Int, V = (A : Int) + 1 := ⟨_, rfl⟩
    have EW1 : Hid (wrap64 V = V) := by unfold Hid wrap64; rw [hV]; omega
    have EW2 : Hid (IntKind.i64.wrap ((A : Int) + 1) = V) := by unfold Hid; rw [hV]; exact wrapI_in (by omega) (by omega)
    have EW3 : Hid ((A : Int) + 1 = V) := hV.symm
    have HV : Hid (((szT (Tr.node ⟨6, lr, lo, hi⟩ l .nil) : Nat) : Int) = if V < 100000 then V else 100000) := by
      unfold Hid; rw [HD.out, min_ifH, hV]; simp
    clear hV hA9 HD
    obtain ⟨Z, hZ⟩ : ∃ Z, Z = szT (Tr.node ⟨6, lr, lo, hi⟩ l .nil) := ⟨_, rfl⟩
    rw [← hZ]
    rw [← hZ] at HV
    clear hZ
    go_enter Tryd.func66, Tryd.ntmps66
    go_wp2_with fail
    rw [← HY.out]
    clear c0 c1 c2 c3 d0 d1 d2 d3
    try rw [show ((q : Int) + (m : Int)).toNat - q = m from by omega]
    try rw [show ((q : Int) + (m : Int)).toNat = q + m from by omega]
    refine (HLC.out _ (HT1.out.since hsy)).mono ?_
    rintro e w3 ⟨rfl, hs3⟩
    have ew1 := EW1.out
    have ew2 := EW2.out
    have ew3 := EW3.out
    go_wp2_with fail
    all_goals (clear ew1 ew2 ew3)
    all_goals (go_ret; refine ⟨ret_int ?_, hsy.trans hs3⟩; rw [HV.out]; split <;> omega)
set_option maxHeartbeats 4000000 in
set_option maxRecDepth 100000 in
theorem sizS_rep (lr lo hi : Int) (l r : Tr) (hl : SizS l) (hr : SizS r) : SizS (.node ⟨7, lr, lo, hi⟩ l r) := by
    obtain ⟨t, hte⟩ : ∃ t : Tok, t = ⟨7, lr, lo, hi⟩ := ⟨_, rfl⟩
    rw [← hte]
    intro ao n ac w hok ha hac hn hn9 hin
    obtain ⟨htok, hcase⟩ := hok
    have HA := Lib.hid ha
    obtain ⟨_, _, e0, HC⟩ := ha.row
    injection e0 with e1 e2 e3
    subst e1; subst e3
    clear e2 ha
    obtain ⟨q, hq⟩ : ∃ q, q = l.post.length := ⟨_, rfl⟩
    obtain ⟨m, hm⟩ : ∃ m, m = r.post.length := ⟨_, rfl⟩
    have hnn : n = q + m + 1 := by rw [hn, hq, hm, post_len, post_len]; rfl
    have hxl : (Tr.node t l r).post.length = q + m + 1 := by rw [hq, hm]; simp [Tr.post]; omega
    clear hn
    subst hnn
    have hxq : q + m < (Tr.node t l r).post.length := by omega
    have hxt : (Tr.node t l r).post[q + m] = t := by subst hq; subst hm; exact (last_post t l r).2
    have HQ := Lib.hid hq
    have HMM := Lib.hid hm
    clear hq hm
    have HTK1 : Hid ((Tr.node t l r).post.take (q + m) = l.post ++ r.post) := by unfold Hid; rw [show (Tr.node t l r).post = (l.post ++ r.post) ++ [t] from rfl]; exact List.take_left' (by rw [HQ.out, HMM.out, List.length_append])
    obtain ⟨b, off, rfl, hb, c0, c1, c2, c3⟩ := HC.out (q + m) hxq
    rw [hxt] at c0 c1 c2 c3
    have HTI : Hid (t.In) := by have hmem := List.getElem_mem hxq; rw [hxt] at hmem; exact hin t hmem
    have HINL : Hid (∀ x ∈ l.post, x.In) := fun x hx => hin x (by simp [Tr.post, hx])
    have HINR : Hid (∀ x ∈ r.post, x.In) := fun x hx => hin x (by simp [Tr.post, hx])
    clear hxt hin hxl
    have HTA : Hid (ToksAt w (.slice (some ⟨b, off, none⟩) (q + m) ac) (l.post ++ r.post)) := by
      unfold Hid; rw [← HTK1.out]; exact toks_takeO HA.out (by omega) _ _ (fun _ _ e => e)
    have hql : Hid (q = l.len) := by unfold Hid; rw [← post_len]; exact HQ.out
    have hmr : Hid (m = r.len) := by unfold Hid; rw [← post_len]; exact HMM.out
    have hkq : ((q + m : Nat) : Int) < ((q + m + 1 : Nat) : Int) := by omega
    have hk0 : (0 : Int) ≤ ((q + m : Nat) : Int) := by omega
    have hqa : q + m ≤ ac := by omega
    have hqai : (q : Int) + (m : Int) ≤ (ac : Int) := by omega
    have hqm0 : (0 : Int) ≤ (q : Int) + (m : Int) := by omega
    have hne : ¬ (ac = q + m) := by omega
    obtain ⟨y, hy⟩ : ∃ y, y = w.alloc (.cells #[.int .i64 t.kd, .int .i64 t.lr, .int .i64 t.lo, .int .i64 t.hi] 90) := ⟨_, rfl⟩
    have hsy : Since w y := by rw [hy]; exact (Since.refl w).alloc _
    have BT : Hid (Blk y w.heap.size 90 #[.int .i64 t.kd, .int .i64 t.lr, .int .i64 t.lo, .int .i64 t.hi]) := by rw [hy]; exact Blk.new rfl _ _
    have HY := Lib.hid hy
    obtain ⟨d0, d1, d2, d3, _⟩ := BT.out.four
    rw [hy] at d0 d1 d2 d3
    clear hy
    subst hte
    have hk17 := okT_kd htok
    rw [opN_of] at hcase
    dsimp only at c0 c1 c2 c3 d0 d1 d2 d3 BT HTI HY
    obtain ⟨hlo, rfl⟩ : l.ok ∧ r = .nil := by
      rcases hcase with ⟨h0, _⟩ | ⟨_, a, b⟩ | ⟨h2, _⟩
      · simp at h0
      · exact ⟨a, b⟩
      · simp at h2
    have hm0 : m = 0 := HMM.out
    have hlq : Hid (q + m = l.len) := by unfold Hid; rw [← post_len, hm0, HQ.out]; rfl
    have HPL : Hid (l.post.length = q + m) := by unfold Hid; rw [hm0, HQ.out]; rfl
    clear hcase hm0
    have HT1 : Hid (ToksAt w (.slice (some ⟨b, off, none⟩) (q + m) ac) l.post) := by have := HTA.out; rwa [show l.post ++ Tr.nil.post = l.post from List.append_nil _] at this
    obtain ⟨_, _, k2, k3⟩ := okT_hi htok rfl
    dsimp only at k2 k3
    obtain ⟨A, hA⟩ : ∃ A, A = szT l := ⟨_, rfl⟩
    have hA9 : A ≤ 100000 := by rw [hA]; exact szT_le l
    have HD : Hid (szT (Tr.node ⟨7, lr, lo, hi⟩ l .nil) = min 100000 ((A + 3) * hi.toNat + 1)) := by unfold Hid; rw [hA]; simp [szT]
    have HLC : Hid (∀ W, ToksAt W (.slice (some ⟨b, off, none⟩) (q + m) ac) l.post → Calls Tryd.prog 66 #[.slice (some ⟨b, off, none⟩) (q + m) ac] W (IOut W A)) := fun W k => by rw [hA]; exact hl _ (q + m) ac W hlo k (by omega) hlq.out (by omega) HINL.out
    clear hA
    obtain ⟨H, hH, hH9⟩ : ∃ H : Nat, hi = (H : Int) ∧ H ≤ 3 := ⟨hi.toNat, by omega, by omega⟩
    obtain ⟨V, hV⟩ : ∃ V, V = (A + 3) * H := ⟨_, rfl⟩
    have hV9 : V ≤ 300009 := by rw [hV]; exact Nat.le_trans (Nat.mul_le_mul (show A + 3 ≤ 100003 by omega) hH9) (by decide)
    have hVI : ((A : Int) + 3) * hi = (V : Int) := by rw [hH, hV]; simp
    have HD2 : Hid (szT (Tr.node ⟨7, lr, lo, hi⟩ l .nil) = min 100000 (V + 1)) := by unfold Hid; rw [HD.out, hV, hH]; rfl
    have HVI := Lib.hid hVI
    clear hH hV hVI k2 k3
    clear HD
    obtain ⟨U, hU⟩ : ∃ U : Int, U = (A : Int) + 3 := ⟨_, rfl⟩
    obtain ⟨X, hX⟩ : ∃ X : Int, X = (V : Int) + 1 := ⟨_, rfl⟩
    have EW1 : Hid (IntKind.i64.wrap ((A : Int) + 3) = U) := by unfold Hid; rw [hU]; exact wrapI_in (by omega) (by omega)
    have EW2 : Hid (IntKind.i64.wrap (U * hi) = (V : Int)) := by unfold Hid; rw [hU, HVI.out]; exact wrapI_in (by omega) (by omega)
    have EW3 : Hid (IntKind.i64.wrap ((V : Int) + 1) = X) := by unfold Hid; rw [hX]; exact wrapI_in (by omega) (by omega)
    have HV : Hid (((szT (Tr.node ⟨7, lr, lo, hi⟩ l .nil) : Nat) : Int) = if X < 100000 then X else 100000) := by
      unfold Hid; rw [HD2.out, min_ifH, hX]; simp
    clear hU hX hV9 hA9 HD2 HVI
    obtain ⟨Z, hZ⟩ : ∃ Z, Z = szT (Tr.node ⟨7, lr, lo, hi⟩ l .nil) := ⟨_, rfl⟩
    rw [← hZ]
    rw [← hZ] at HV
    clear hZ
    go_enter Tryd.func66, Tryd.ntmps66
    go_upto_region 11 with fail
    rw [← HY.out]
    clear c0 c1 c2 c3 d0 d1 d2 d3
    have ew1 := EW1.out
    have ew2 := EW2.out
    have ew3 := EW3.out
    have HKC : Hid (∀ w', Blk w' w.heap.size 90 #[.int .i64 7, .int .i64 lr, .int .i64 lo, .int .i64 hi] → w'.cell? ⟨w.heap.size, 0, none⟩ = some (.int .i64 7) ∧ w'.cell? ⟨w.heap.size, 1, none⟩ = some (.int .i64 lr) ∧ w'.cell? ⟨w.heap.size, 2, none⟩ = some (.int .i64 lo) ∧ w'.cell? ⟨w.heap.size, 3, none⟩ = some (.int .i64 hi)) := by
      intro w' hb0
      obtain ⟨r00, r01, r02, r03, _⟩ := hb0.four
      exact ⟨r00, r01, r02, r03⟩
    refine wp_region_held_drew (S := (fun w' => w'.cell? ⟨w.heap.size, 0, none⟩ = some (.int .i64 7) ∧ w'.cell? ⟨w.heap.size, 1, none⟩ = some (.int .i64 lr) ∧ w'.cell? ⟨w.heap.size, 2, none⟩ = some (.int .i64 lo) ∧ w'.cell? ⟨w.heap.size, 3, none⟩ = some (.int .i64 hi))) (by kernel_rfl) (HKC.out _ (BT.out.drew)) (fun hHeld => ?_)
    refine take_yes 0 (some 44) (v := ?_) rfl (by kernel_rfl) (by kernel_rfl) (by kernel_rfl) (by kernel_rfl) (fun _ _ _ h => h) (by rfl) (by assumption) ?_ ?_
    rotate_left
    · (intro w' hSw; (try dsimp only at hSw); go_simp; try with_reducible rfl)
    try simp only [Act.put, List.setIfInBounds_toArray, List.set_cons_zero, List.set_cons_succ]
    refine take_yes 1 (some 45) (v := ?_) rfl (by kernel_rfl) (by kernel_rfl) (by kernel_rfl) (by kernel_rfl) (fun _ _ _ h => h) (by rfl) (by assumption) ?_ ?_
    rotate_left
    · (intro w' hSw; (try dsimp only at hSw); go_simp; try with_reducible rfl)
    try simp only [Act.put, List.setIfInBounds_toArray, List.set_cons_zero, List.set_cons_succ]
    refine take_yes 2 (some 46) (v := ?_) rfl (by kernel_rfl) (by kernel_rfl) (by kernel_rfl) (by kernel_rfl) (fun _ _ _ h => h) (by rfl) (by assumption) ?_ ?_
    rotate_left
    · (intro w' hSw; (try dsimp only at hSw); go_simp; try with_reducible rfl)
    try simp only [Act.put, List.setIfInBounds_toArray, List.set_cons_zero, List.set_cons_succ]
    refine take_yes 5 (some 49) (v := ?_) rfl (by kernel_rfl) (by kernel_rfl) (by kernel_rfl) (by kernel_rfl) (fun _ _ _ h => h) (by rfl) (by assumption) ?_ ?_
    rotate_left
    · (intro w' hSw; (try dsimp only at hSw); go_simp; try with_reducible rfl)
    try simp only [Act.put, List.setIfInBounds_toArray, List.set_cons_zero, List.set_cons_succ]
    refine take_yes 6 (some 50) (v := ?_) rfl (by kernel_rfl) (by kernel_rfl) (by kernel_rfl) (by kernel_rfl) (fun _ _ _ h => h) (by rfl) (by assumption) ?_ ?_
    rotate_left
    · (intro w' hSw; (try dsimp only at hSw); go_simp; try with_reducible rfl)
    try simp only [Act.put, List.setIfInBounds_toArray, List.set_cons_zero, List.set_cons_succ]
    refine take_run 3 rfl (by kernel_rfl) (by rfl) (fun K hK => ?_)
    have dr_31 : Since y y.drew := (Since.refl _).drew
    have c_32 := Since.trans hsy dr_31
    have M_33 := Lib.hid (BT.out.since dr_31)
    clear BT
    clear dr_31
    go_simp
    clear ew1 ew2 ew3
    try rw [show ((q : Int) + (m : Int)).toNat - q = m from by omega]
    try rw [show ((q : Int) + (m : Int)).toNat = q + m from by omega]
    have ew1 := EW1.out
    have ew2 := EW2.out
    have ew3 := EW3.out
    refine (HLC.out _ (HT1.out.since c_32)).mono ?_
    rintro en q_29 ⟨rfl, hs_30⟩
    have c_34 := Since.trans c_32 hs_30
    have M_35 := Lib.hid (M_33.out.since hs_30)
    clear M_33
    clear hs_30
    refine hK.out _ _ (HKC.out _ M_35.out) (fun hHeld_36 => ?_)
    clear hK K hHeld
    try simp only [Act.put, List.setIfInBounds_toArray, List.set_cons_zero, List.set_cons_succ]
    refine take_yes 4 (some 48) (v := ?_) rfl (by kernel_rfl) (by kernel_rfl) (by kernel_rfl) (by kernel_rfl) (fun _ _ _ h => h) (by rfl) (by assumption) ?_ ?_
    rotate_left
    · (intro w' hSw; (try dsimp only at hSw); go_simp; try with_reducible rfl)
    try simp only [Act.put, List.setIfInBounds_toArray, List.set_cons_zero, List.set_cons_succ]
    refine take_yes 7 (some 51) (v := ?_) rfl (by kernel_rfl) (by kernel_rfl) (by kernel_rfl) (by kernel_rfl) (fun _ _ _ h => h) (by rfl) (by assumption) ?_ ?_
    rotate_left
    · (intro w' hSw; (try dsimp only at hSw); go_simp; try with_reducible rfl)
    try simp only [Act.put, List.setIfInBounds_toArray, List.set_cons_zero, List.set_cons_succ]
    refine take_yes 8 (some 52) (v := ?_) rfl (by kernel_rfl) (by kernel_rfl) (by kernel_rfl) (by kernel_rfl) (fun _ _ _ h => h) (by rfl) (by assumption) ?_ ?_
    rotate_left
    · (intro w' hSw; (try dsimp only at hSw); go_simp; try with_reducible rfl)
    try simp only [Act.put, List.setIfInBounds_toArray, List.set_cons_zero, List.set_cons_succ]
    refine take_run 9 rfl (by kernel_rfl) (by rfl) (fun K hK => ?_)
    go_simp
    refine hK.out _ _ (HKC.out _ M_35.out) (fun hHeld_37 => ?_)
    clear hK K hHeld_36
    try simp only [Act.put, List.setIfInBounds_toArray, List.set_cons_zero, List.set_cons_succ]
    refine take_yes 10 (some 2) (v := ?_) rfl (by kernel_rfl) (by kernel_rfl) (by kernel_rfl) (by kernel_rfl) (fun _ _ _ h => h) (by rfl) (by assumption) ?_ ?_
    rotate_left
    · (intro w' hSw; (try dsimp only at hSw); go_simp; try with_reducible rfl)
    try simp only [Act.put, List.setIfInBounds_toArray, List.set_cons_zero, List.set_cons_succ]
    refine wpAnyH_done (by kernel_rfl) ?_ _
    clear hHeld_37
    clear ew1 ew2 ew3
    go_wp2_with fail
    all_goals (go_ret; refine ⟨ret_int ?_, c_34⟩; rw [HV.out]; split <;> omega)
theorem l10Size_any (T : Tr) : SizS T := by
  induction T with
  | nil => intro ao n ac w h; exact h.elim
  | node t l r hl hr =>
    intro ao n ac w hok
    obtain ⟨kd, lr, lo, hi⟩ := t
    have hk := okT_kd hok.1
    dsimp only at hk
    rcases (by omega : kd = 1 ∨ kd = 2 ∨ kd = 3 ∨ kd = 4 ∨ kd = 5 ∨ kd = 6 ∨ kd = 7) with rfl | rfl | rfl | rfl | rfl | rfl | rfl
    · exact sizS_none lr lo hi l r hl hr ao n ac w hok
    · exact sizS_empty lr lo hi l r hl hr ao n ac w hok
    · exact sizS_letter lr lo hi l r hl hr ao n ac w hok
    · exact sizS_cat lr lo hi l r hl hr ao n ac w hok
    · exact sizS_uni lr lo hi l r hl hr ao n ac w hok
    · exact sizS_star lr lo hi l r hl hr ao n ac w hok
    · exact sizS_rep lr lo hi l r hl hr ao n ac w hok
end Go.Proofs.YtblmiocjhbpklaaDoor
