/- Lrv, Rvx, Nul, DrS0: small words and contracts that the other texts use. -/
import Derived.Test.YtiojgahjfndmdaaDoorSpl
import Derived.Test.YtiojgahjfndmdaaDoorL0
/- ReverseExpr, the model's and the program's. -/
namespace Go.Proofs.YtiojgahjfndmdaaDoor
set_option maxRecDepth 100000
open Go.ChangeShapes Go.WideShapes Go.ChangeAt Go.RowKit
set_option linter.unusedVariables false
set_option linter.unusedSimpArgs false

theorem toks_blk {w : World} {L : Nat} {t : Tok} (h : Blk w L 65 #[.int .i64 t.kd, .int .i64 t.lr, .int .i64 t.lo, .int .i64 t.hi]) (ht : t.In) : ToksAt w (.slice (some ⟨L, 0, none⟩) 1 1) [t] := by
  refine ⟨fun x hx => by simp at hx; subst hx; exact ht, .inr ⟨L, 0, 1, rfl, h.lt, fun i hi => ?_⟩⟩
  obtain rfl : i = 0 := by simp at hi; omega
  obtain ⟨a, b, c, d, _⟩ := h.four
  exact ⟨a, b, c, d⟩
theorem post_pos {T : Tr} (h : T.ok) : 0 < T.post.length := by
  rw [post_len]
  cases T with
  | nil => exact h.elim
  | node t l r => simp [Tr.len]
end Go.Proofs.YtiojgahjfndmdaaDoor

/- ReverseExpr, the model's and the program's. -/
namespace Go.Proofs.YtiojgahjfndmdaaDoor
set_option maxRecDepth 100000
open Go.ChangeShapes Go.WideShapes Go.ChangeAt Go.RowKit
set_option linter.unusedVariables false
set_option linter.unusedSimpArgs false

theorem xbOut_mk {w w' : World} {b : Value} {xs : List Tok} {c : Bool} (h : OwnK w.heap.size w' b xs) (hs : Since w w') : XBOut w xs c (.returned (.tuple #[.agg #[b], .bool c])) w' := ⟨_, rfl, OwnX.mk h, hs⟩
theorem xbOut_nil {w w' : World} (hs : Since w w') : XBOut w [] false (.returned (.tuple #[.agg #[.slice none 0 0], .bool false])) w' :=
  xbOut_mk ⟨fun x hx => by simp at hx, World.ownsRow_nil _ _ _ _⟩ hs
theorem xbOut_box {w w2 : World} {b : Value} {xs : List Tok} {c : Bool} {X i : Nat} {t : TypeId} {cs : Array Value} (h : OwnK w.heap.size w2 b xs) (hs : Since w w2) (hb : Blk w2 X t cs) (ht : t ≠ 65) (hX : w.heap.size ≤ X) (u : Value) : XBOut w xs c (.returned (.tuple #[.agg #[b], .bool c])) (w2.setCell ⟨X, i, none⟩ u) :=
  xbOut_mk (h.farT hb ht i u) (hs.setCell hX u)
end Go.Proofs.YtiojgahjfndmdaaDoor

/- Nullable: the model's recursion over a slice, the program's over a tree. -/
namespace Go.Proofs.YtiojgahjfndmdaaDoor
set_option maxRecDepth 100000
open Go.ChangeShapes Go.WideShapes Go.ChangeAt Go.RowKit
set_option linter.unusedVariables false
set_option linter.unusedSimpArgs false

/-- What a function answers that gives a truth value. -/
def BlOut (w : World) (b : Bool) (e : Ending) (w' : World) : Prop := e = .returned (.bool b) ∧ Since w w'
theorem opN_of (k a b c : Int) : opN ⟨k, a, b, c⟩ = if k = 4 ∨ k = 5 then 2 else if k = 6 ∨ k = 7 then 1 else 0 := rfl
theorem last_post (t : Tok) (l r : Tr) : ∃ h, (Tr.node t l r).post[l.post.length + r.post.length]'h = t := by
  have hxq : l.post.length + r.post.length < (Tr.node t l r).post.length := by simp [Tr.post]
  refine ⟨hxq, ?_⟩
  have h1 : (Tr.node t l r).post[l.post.length + r.post.length]? = some t := by
    rw [show (Tr.node t l r).post = (l.post ++ r.post) ++ [t] from rfl, show l.post.length + r.post.length = (l.post ++ r.post).length from by rw [List.length_append], List.getElem?_append_right (Nat.le_refl _), Nat.sub_self]
    rfl
  rw [List.getElem?_eq_getElem hxq] at h1
  exact Option.some.inj h1
set_option maxHeartbeats 4000000 in
set_option maxRecDepth 100000 in
theorem l9Null_any (T : Tr) : ∀ (ao : Option Addr) (n ac : Nat) (w : World), T.ok → ToksAt w (.slice ao n ac) T.post → n ≤ ac → n = T.len → n ≤ 1048577 → (∀ x ∈ T.post, x.In) →
    Calls Tryd.prog 68 #[.slice ao n ac] w (BlOut w (nulT T)) := by
  induction T with
  | nil => intro ao n ac w h; exact h.elim
  | node t l r hl hr =>
    intro ao n ac w hok ha hac hn hn9 hin
    obtain ⟨htok, hcase⟩ := hok
    have HA := Lib.hid ha
    obtain ⟨_, _, e0, HC⟩ := ha.row
    injection e0 with e1 e2 e3
    subst e1; subst e3
    clear e2 ha
    obtain ⟨q, hq⟩ : ∃ q, q = l.post.length := ⟨_, rfl⟩
    obtain ⟨m, hm⟩ : ∃ m, m = r.post.length := ⟨_, rfl⟩
    have hnn : n = q + m + 1 := by rw [hn, hq, hm, post_len, post_len]; rfl
    have hxl : (Tr.node t l r).post.length = q + m + 1 := by rw [hq, hm]; simp [Tr.post]; omega
    clear hn
    subst hnn
    have hxq : q + m < (Tr.node t l r).post.length := by omega
    have hxt : (Tr.node t l r).post[q + m] = t := by subst hq; subst hm; exact (last_post t l r).2
    have HQ := Lib.hid hq
    have HMM := Lib.hid hm
    clear hq hm
    have HTK1 : Hid ((Tr.node t l r).post.take (q + m) = l.post ++ r.post) := by unfold Hid; rw [show (Tr.node t l r).post = (l.post ++ r.post) ++ [t] from rfl]; exact List.take_left' (by rw [HQ.out, HMM.out, List.length_append])
    obtain ⟨b, off, rfl, hb, c0, c1, c2, c3⟩ := HC.out (q + m) hxq
    rw [hxt] at c0 c1 c2 c3
    have HTI : Hid (t.In) := by have hmem := List.getElem_mem hxq; rw [hxt] at hmem; exact hin t hmem
    have HINL : Hid (∀ x ∈ l.post, x.In) := fun x hx => hin x (by simp [Tr.post, hx])
    have HINR : Hid (∀ x ∈ r.post, x.In) := fun x hx => hin x (by simp [Tr.post, hx])
    clear hxt hin hxl
    have HTA : Hid (ToksAt w (.slice (some ⟨b, off, none⟩) (q + m) ac) (l.post ++ r.post)) := by
      unfold Hid; rw [← HTK1.out]; exact toks_takeO HA.out (by omega) _ _ (fun _ _ e => e)
    have hql : Hid (q = l.len) := by unfold Hid; rw [← post_len]; exact HQ.out
    have hmr : Hid (m = r.len) := by unfold Hid; rw [← post_len]; exact HMM.out
    have hkq : ((q + m : Nat) : Int) < ((q + m + 1 : Nat) : Int) := by omega
    have hk0 : (0 : Int) ≤ ((q + m : Nat) : Int) := by omega
    have hqa : q + m ≤ ac := by omega
    have hqai : (q : Int) + (m : Int) ≤ (ac : Int) := by omega
    have hqm0 : (0 : Int) ≤ (q : Int) + (m : Int) := by omega
    have hne : ¬ (ac = q + m) := by omega
    obtain ⟨y, hy⟩ : ∃ y, y = w.alloc (.cells #[.int .i64 t.kd, .int .i64 t.lr, .int .i64 t.lo, .int .i64 t.hi] 65) := ⟨_, rfl⟩
    have hsy : Since w y := by rw [hy]; exact (Since.refl w).alloc _
    have BT : Hid (Blk y w.heap.size 65 #[.int .i64 t.kd, .int .i64 t.lr, .int .i64 t.lo, .int .i64 t.hi]) := by rw [hy]; exact Blk.new rfl _ _
    have HY := Lib.hid hy
    obtain ⟨d0, d1, d2, d3, _⟩ := BT.out.four
    rw [hy] at d0 d1 d2 d3
    clear hy
    obtain ⟨kd, lr, lo, hi⟩ := t
    have hk17 := okT_kd htok
    rw [opN_of] at hcase
    dsimp only at hk17 c0 c1 c2 c3 d0 d1 d2 d3 BT HTI HY
    rcases (by omega : kd = 1 ∨ kd = 2 ∨ kd = 3 ∨ kd = 4 ∨ kd = 5 ∨ kd = 6 ∨ kd = 7) with rfl | rfl | rfl | rfl | rfl | rfl | rfl
    · have HN : Hid (nulT (Tr.node ⟨1, lr, lo, hi⟩ l r) = false) := by unfold Hid; simp [nulT]
      clear hcase
      go_enter Tryd.func68, Tryd.ntmps68
      go_wp2
      go_ret
      exact ⟨ret_bool HN.out.symm, by first | exact hsy | exact (HY.out ▸ hsy)⟩
    · have HN : Hid (nulT (Tr.node ⟨2, lr, lo, hi⟩ l r) = true) := by unfold Hid; simp [nulT]
      clear hcase
      go_enter Tryd.func68, Tryd.ntmps68
      go_wp2
      go_ret
      exact ⟨ret_bool HN.out.symm, by first | exact hsy | exact (HY.out ▸ hsy)⟩
    · have HN : Hid (nulT (Tr.node ⟨3, lr, lo, hi⟩ l r) = false) := by unfold Hid; simp [nulT]
      clear hcase
      go_enter Tryd.func68, Tryd.ntmps68
      go_wp2
      go_ret
      exact ⟨ret_bool HN.out.symm, by first | exact hsy | exact (HY.out ▸ hsy)⟩
    · obtain ⟨hlo, hro⟩ : l.ok ∧ r.ok := by
        rcases hcase with ⟨h0, _⟩ | ⟨h1, _⟩ | ⟨_, a, b⟩
        · simp at h0
        · simp at h1
        · exact ⟨a, b⟩
      have HN : Hid (nulT (Tr.node ⟨4, lr, lo, hi⟩ l r) = (nulT l && nulT r)) := by unfold Hid; simp [nulT]
      have HSC : Hid (Scan (l.post ++ r.post) l.post.length (l.post ++ r.post).length 1) := scan_two l.post r hro
      have hmp : 0 < m := by rw [HMM.out]; exact post_pos hro
      clear hcase
      have hne2 : ¬ (ac = q) := by omega
      have hqac : q ≤ ac := by omega
      have hqaci : (q : Int) ≤ (ac : Int) := by omega
      have hqmi : (q : Int) ≤ (q : Int) + (m : Int) := by omega
      have hqma : (q : Int) + (m : Int) ≤ (ac : Int) := by omega
      have hq0 : (0 : Int) ≤ (q : Int) := by omega
      have HT1 : Hid (ToksAt w (.slice (some ⟨b, off, none⟩) q ac) l.post) := by
        have := toks_takeO HTA.out (k := q) (by omega) (some ⟨b, off, none⟩) ac (fun _ _ e => e)
        rwa [show (l.post ++ r.post).take q = l.post from List.take_left' HQ.out.symm] at this
      have HT2 : Hid (ToksAt w (.slice (some ⟨b, off + q * 4, none⟩) m (ac - q)) r.post) := by
        have := toks_dropO HTA.out (k := q) (by omega) (some ⟨b, off + q * 4, none⟩) m (ac - q) (by omega) (fun _ b1 o1 e => by injection e with e; injection e with e1 e2; rw [e1, e2])
        rwa [show (l.post ++ r.post).drop q = r.post from List.drop_left' HQ.out.symm] at this
      go_enter Tryd.func68, Tryd.ntmps68
      go_wp2_with fail
      rw [← HY.out]
      clear c0 c1 c2 c3 d0 d1 d2 d3
      refine (l8Start_any _ (l.post ++ r.post) l.post.length _ (HTA.out.since hsy) HSC.out (by rw [List.length_append, ← HQ.out, ← HMM.out]; omega)).mono ?_
      rintro e w2 ⟨rfl, hs2⟩
      rw [← HQ.out]
      have hyw2 := hsy.trans hs2
      go_wp2_with fail
      refine (hl _ q ac _ hlo (HT1.out.since hyw2) (by omega) hql.out (by omega) HINL.out).mono ?_
      rintro e w3 ⟨rfl, hs3⟩
      have hyw3 := hyw2.trans hs3
      obtain ⟨nl, hnl⟩ : ∃ nl, nl = nulT l := ⟨_, rfl⟩
      rw [← hnl]
      have HNL := Lib.hid hnl
      clear hnl
      cases nl with
      | false =>
        go_wp2
        go_ret
        exact ⟨by rw [HN.out, ← HNL.out]; rfl, hyw3⟩
      | true =>
        go_wp2_with fail
        try rw [show ((q : Int) + (m : Int)).toNat - q = m from by omega]
        refine (hr _ m (ac - q) _ hro (HT2.out.since hyw3) (by omega) hmr.out (by omega) HINR.out).mono ?_
        rintro e w4 ⟨rfl, hs4⟩
        have hyw4 := hyw3.trans hs4
        obtain ⟨nr, hnr⟩ : ∃ nr, nr = nulT r := ⟨_, rfl⟩
        rw [← hnr]
        have HNR := Lib.hid hnr
        clear hnr
        go_wp2
        go_ret
        exact ⟨by rw [HN.out, ← HNL.out, ← HNR.out]; rfl, hyw4⟩
    · obtain ⟨hlo, hro⟩ : l.ok ∧ r.ok := by
        rcases hcase with ⟨h0, _⟩ | ⟨h1, _⟩ | ⟨_, a, b⟩
        · simp at h0
        · simp at h1
        · exact ⟨a, b⟩
      have HN : Hid (nulT (Tr.node ⟨5, lr, lo, hi⟩ l r) = (nulT l || nulT r)) := by unfold Hid; simp [nulT]
      have HSC : Hid (Scan (l.post ++ r.post) l.post.length (l.post ++ r.post).length 1) := scan_two l.post r hro
      have hmp : 0 < m := by rw [HMM.out]; exact post_pos hro
      clear hcase
      have hne2 : ¬ (ac = q) := by omega
      have hqac : q ≤ ac := by omega
      have hqaci : (q : Int) ≤ (ac : Int) := by omega
      have hqmi : (q : Int) ≤ (q : Int) + (m : Int) := by omega
      have hqma : (q : Int) + (m : Int) ≤ (ac : Int) := by omega
      have hq0 : (0 : Int) ≤ (q : Int) := by omega
      have HT1 : Hid (ToksAt w (.slice (some ⟨b, off, none⟩) q ac) l.post) := by
        have := toks_takeO HTA.out (k := q) (by omega) (some ⟨b, off, none⟩) ac (fun _ _ e => e)
        rwa [show (l.post ++ r.post).take q = l.post from List.take_left' HQ.out.symm] at this
      have HT2 : Hid (ToksAt w (.slice (some ⟨b, off + q * 4, none⟩) m (ac - q)) r.post) := by
        have := toks_dropO HTA.out (k := q) (by omega) (some ⟨b, off + q * 4, none⟩) m (ac - q) (by omega) (fun _ b1 o1 e => by injection e with e; injection e with e1 e2; rw [e1, e2])
        rwa [show (l.post ++ r.post).drop q = r.post from List.drop_left' HQ.out.symm] at this
      go_enter Tryd.func68, Tryd.ntmps68
      go_wp2_with fail
      rw [← HY.out]
      clear c0 c1 c2 c3 d0 d1 d2 d3
      refine (l8Start_any _ (l.post ++ r.post) l.post.length _ (HTA.out.since hsy) HSC.out (by rw [List.length_append, ← HQ.out, ← HMM.out]; omega)).mono ?_
      rintro e w2 ⟨rfl, hs2⟩
      rw [← HQ.out]
      have hyw2 := hsy.trans hs2
      go_wp2_with fail
      refine (hl _ q ac _ hlo (HT1.out.since hyw2) (by omega) hql.out (by omega) HINL.out).mono ?_
      rintro e w3 ⟨rfl, hs3⟩
      have hyw3 := hyw2.trans hs3
      obtain ⟨nl, hnl⟩ : ∃ nl, nl = nulT l := ⟨_, rfl⟩
      rw [← hnl]
      have HNL := Lib.hid hnl
      clear hnl
      cases nl with
      | true =>
        go_wp2
        go_ret
        exact ⟨by rw [HN.out, ← HNL.out]; rfl, hyw3⟩
      | false =>
        go_wp2_with fail
        try rw [show ((q : Int) + (m : Int)).toNat - q = m from by omega]
        refine (hr _ m (ac - q) _ hro (HT2.out.since hyw3) (by omega) hmr.out (by omega) HINR.out).mono ?_
        rintro e w4 ⟨rfl, hs4⟩
        have hyw4 := hyw3.trans hs4
        obtain ⟨nr, hnr⟩ : ∃ nr, nr = nulT r := ⟨_, rfl⟩
        rw [← hnr]
        have HNR := Lib.hid hnr
        clear hnr
        go_wp2
        go_ret
        exact ⟨by rw [HN.out, ← HNL.out, ← HNR.out]; rfl, hyw4⟩
    · have HN : Hid (nulT (Tr.node ⟨6, lr, lo, hi⟩ l r) = true) := by unfold Hid; simp [nulT]
      clear hcase
      go_enter Tryd.func68, Tryd.ntmps68
      go_wp2
      go_ret
      exact ⟨ret_bool HN.out.symm, by first | exact hsy | exact (HY.out ▸ hsy)⟩
    · obtain ⟨hlo, rfl⟩ : l.ok ∧ r = .nil := by
        rcases hcase with ⟨h0, _⟩ | ⟨_, a, b⟩ | ⟨h2, _⟩
        · simp at h0
        · exact ⟨a, b⟩
        · simp at h2
      have HN : Hid (nulT (Tr.node ⟨7, lr, lo, hi⟩ l .nil) = (lo == 0 || nulT l)) := by unfold Hid; simp [nulT]
      have hm0 : m = 0 := HMM.out
      have hlq : Hid (q + m = l.len) := by unfold Hid; rw [← post_len, hm0, HQ.out]; rfl
      clear hcase hm0
      have HT1 : Hid (ToksAt w (.slice (some ⟨b, off, none⟩) (q + m) ac) l.post) := by have := HTA.out; rwa [show l.post ++ Tr.nil.post = l.post from List.append_nil _] at this
      by_cases hlo0 : lo = 0
      · subst hlo0
        go_enter Tryd.func68, Tryd.ntmps68
        go_wp2
        go_ret
        exact ⟨by rw [HN.out]; rfl, by first | exact hsy | exact (HY.out ▸ hsy)⟩
      · have elo : (lo == 0) = false := by simp [hlo0]
        have HEL := Lib.hid elo
        clear hlo0
        go_enter Tryd.func68, Tryd.ntmps68
        go_wp2_with fail
        rw [← HY.out]
        clear c0 c1 c2 c3 d0 d1 d2 d3 elo
        try rw [show ((q : Int) + (m : Int)).toNat = q + m from by omega]
        refine (hl _ (q + m) ac _ hlo (HT1.out.since hsy) (by omega) hlq.out (by omega) HINL.out).mono ?_
        rintro e w3 ⟨rfl, hs3⟩
        have hyw3 := hsy.trans hs3
        obtain ⟨nl, hnl⟩ : ∃ nl, nl = nulT l := ⟨_, rfl⟩
        rw [← hnl]
        have HNL := Lib.hid hnl
        clear hnl
        go_wp2
        go_ret
        exact ⟨by rw [HN.out, HEL.out, ← HNL.out]; rfl, hyw3⟩
set_option maxHeartbeats 2000000 in
set_option maxRecDepth 100000 in
theorem isNullable_any (T : Tr) : ∀ (a0 b0 : Nat) (v : Value) (w : World), TreeAt w T a0 b0 v → T.ok →
    Calls Tryd.prog 67 #[v] w (BlOut w (nulT T)) := by
  induction T with
  | nil => intro _ _ v w _ h; exact h.elim
  | node t l r hl hr =>
    intro a0 b0 v w hv hok
    obtain ⟨htok, hcase⟩ := hok
    obtain ⟨htin, g, lv, rv, a, b, c, d, rfl, hg, hB, _, _, _, _, hL, hR⟩ := hv
    have BX := Lib.hid hB
    have HL := Lib.hid hL
    have HR := Lib.hid hR
    obtain ⟨pl, rfl⟩ := hL.isPtr
    obtain ⟨pr, rfl⟩ := hR.isPtr
    obtain ⟨kd, lr, lo, hi⟩ := t
    have hk17 := okT_kd htok
    rw [opN_of] at hcase
    unfold ncells at BX
    dsimp only at hk17 BX
    clear htin hB hL hR
    obtain ⟨⟨x0, x1, x2, x3, x4, x5⟩, _⟩ := BX.out.all6
    rcases (by omega : kd = 1 ∨ kd = 2 ∨ kd = 3 ∨ kd = 4 ∨ kd = 5 ∨ kd = 6 ∨ kd = 7) with rfl | rfl | rfl | rfl | rfl | rfl | rfl
    · have HN : Hid (nulT (Tr.node ⟨1, lr, lo, hi⟩ l r) = false) := by unfold Hid; simp [nulT]
      clear hcase
      go_enter Tryd.func67, Tryd.ntmps67
      go_wp2
      go_ret
      exact ⟨ret_bool HN.out.symm, Since.refl _⟩
    · have HN : Hid (nulT (Tr.node ⟨2, lr, lo, hi⟩ l r) = true) := by unfold Hid; simp [nulT]
      clear hcase
      go_enter Tryd.func67, Tryd.ntmps67
      go_wp2
      go_ret
      exact ⟨ret_bool HN.out.symm, Since.refl _⟩
    · have HN : Hid (nulT (Tr.node ⟨3, lr, lo, hi⟩ l r) = false) := by unfold Hid; simp [nulT]
      clear hcase
      go_enter Tryd.func67, Tryd.ntmps67
      go_wp2
      go_ret
      exact ⟨ret_bool HN.out.symm, Since.refl _⟩
    · obtain ⟨hlo, hro⟩ : l.ok ∧ r.ok := by
        rcases hcase with ⟨h0, _⟩ | ⟨h1, _⟩ | ⟨_, a, b⟩
        · simp at h0
        · simp at h1
        · exact ⟨a, b⟩
      have HN : Hid (nulT (Tr.node ⟨4, lr, lo, hi⟩ l r) = (nulT l && nulT r)) := by unfold Hid; simp [nulT]
      clear hcase
      go_enter Tryd.func67, Tryd.ntmps67
      go_wp2_with fail
      clear x0 x1 x2 x3 x4 x5
      refine (hl a b _ w HL.out hlo).mono ?_
      rintro e w3 ⟨rfl, hs3⟩
      obtain ⟨⟨x0, x1, x2, x3, x4, x5⟩, _⟩ := (BX.out.since hs3).all6
      obtain ⟨nl, hnl⟩ : ∃ nl, nl = nulT l := ⟨_, rfl⟩
      rw [← hnl]
      have HNL := Lib.hid hnl
      clear hnl
      cases nl with
      | false =>
        go_wp2
        go_ret
        exact ⟨by rw [HN.out, ← HNL.out]; rfl, hs3⟩
      | true =>
        go_wp2_with fail
        clear x0 x1 x2 x3 x4 x5
        refine (hr c d _ _ (HR.out.since hs3) hro).mono ?_
        rintro e w4 ⟨rfl, hs4⟩
        obtain ⟨nr, hnr⟩ : ∃ nr, nr = nulT r := ⟨_, rfl⟩
        rw [← hnr]
        have HNR := Lib.hid hnr
        clear hnr
        go_wp2
        go_ret
        exact ⟨by rw [HN.out, ← HNL.out, ← HNR.out]; rfl, hs3.trans hs4⟩
    · obtain ⟨hlo, hro⟩ : l.ok ∧ r.ok := by
        rcases hcase with ⟨h0, _⟩ | ⟨h1, _⟩ | ⟨_, a, b⟩
        · simp at h0
        · simp at h1
        · exact ⟨a, b⟩
      have HN : Hid (nulT (Tr.node ⟨5, lr, lo, hi⟩ l r) = (nulT l || nulT r)) := by unfold Hid; simp [nulT]
      clear hcase
      go_enter Tryd.func67, Tryd.ntmps67
      go_wp2_with fail
      clear x0 x1 x2 x3 x4 x5
      refine (hl a b _ w HL.out hlo).mono ?_
      rintro e w3 ⟨rfl, hs3⟩
      obtain ⟨⟨x0, x1, x2, x3, x4, x5⟩, _⟩ := (BX.out.since hs3).all6
      obtain ⟨nl, hnl⟩ : ∃ nl, nl = nulT l := ⟨_, rfl⟩
      rw [← hnl]
      have HNL := Lib.hid hnl
      clear hnl
      cases nl with
      | true =>
        go_wp2
        go_ret
        exact ⟨by rw [HN.out, ← HNL.out]; rfl, hs3⟩
      | false =>
        go_wp2_with fail
        clear x0 x1 x2 x3 x4 x5
        refine (hr c d _ _ (HR.out.since hs3) hro).mono ?_
        rintro e w4 ⟨rfl, hs4⟩
        obtain ⟨nr, hnr⟩ : ∃ nr, nr = nulT r := ⟨_, rfl⟩
        rw [← hnr]
        have HNR := Lib.hid hnr
        clear hnr
        go_wp2
        go_ret
        exact ⟨by rw [HN.out, ← HNL.out, ← HNR.out]; rfl, hs3.trans hs4⟩
    · have HN : Hid (nulT (Tr.node ⟨6, lr, lo, hi⟩ l r) = true) := by unfold Hid; simp [nulT]
      clear hcase
      go_enter Tryd.func67, Tryd.ntmps67
      go_wp2
      go_ret
      exact ⟨ret_bool HN.out.symm, Since.refl _⟩
    · obtain ⟨hlo, rfl⟩ : l.ok ∧ r = .nil := by
        rcases hcase with ⟨h0, _⟩ | ⟨_, a, b⟩ | ⟨h2, _⟩
        · simp at h0
        · exact ⟨a, b⟩
        · simp at h2
      have HN : Hid (nulT (Tr.node ⟨7, lr, lo, hi⟩ l .nil) = (lo == 0 || nulT l)) := by unfold Hid; simp [nulT]
      clear hcase
      by_cases hlo0 : lo = 0
      · subst hlo0
        go_enter Tryd.func67, Tryd.ntmps67
        go_wp2
        go_ret
        exact ⟨by rw [HN.out]; rfl, Since.refl _⟩
      · have elo : (lo == 0) = false := by simp [hlo0]
        have HEL := Lib.hid elo
        clear hlo0
        go_enter Tryd.func67, Tryd.ntmps67
        go_wp2_with fail
        clear x0 x1 x2 x3 x4 x5 elo
        refine (hl a b _ w HL.out hlo).mono ?_
        rintro e w3 ⟨rfl, hs3⟩
        obtain ⟨nl, hnl⟩ : ∃ nl, nl = nulT l := ⟨_, rfl⟩
        rw [← hnl]
        have HNL := Lib.hid hnl
        clear hnl
        go_wp2
        go_ret
        exact ⟨by rw [HN.out, HEL.out, ← HNL.out]; rfl, hs3⟩
set_option maxRecDepth 100000 in
theorem implNU_any (v : Value) (xs : List Tok) (w : World) (hf : Forms w) (h : ExC w v xs) (hl : xs.length ≤ 1048577) :
    Calls Tryd.prog 23 #[v] w fun e w' => e = .returned (.bool (nulX xs)) ∧ Since w w' := by
  obtain ⟨a, rfl, ha⟩ := h.1
  have HA := Lib.hid ha
  obtain ⟨ao, ac, rfl⟩ := ha.len
  clear ha h
  have hs0 : Since w (w.alloc (.cells #[.slice ao xs.length ac] 26)) := (Since.refl w).alloc _
  have HF := Lib.hid (hf.since hs0)
  clear hf
  go_enter Tryd.func23, Tryd.ntmps23
  go_wp2_with fail
  refine (treeOf_any _ xs _ HF.out ⟨_, rfl, HA.out.since hs0⟩ hl).mono ?_
  rintro e w1 ⟨v1, rfl, ht, hs1⟩
  have hs01 := hs0.trans hs1
  cases ho : treeO xs with
  | none =>
    have HB : Hid (nulX xs = false) := by unfold Hid nulX; rw [ho]
    obtain rfl : v1 = .pointer none := by unfold treeT at ht; rw [ho] at ht; exact ht
    clear ht ho
    go_wp2
    go_ret
    exact ⟨ret_bool HB.out.symm, hs01⟩
  | some T =>
    have HB : Hid (nulX xs = nulT T) := by unfold Hid nulX; rw [ho]
    have hok := (treeO_some ho).1
    rw [treeT_some ho] at ht
    clear ho
    have HT := Lib.hid ht
    obtain ⟨g, rfl⟩ : ∃ g, v1 = .pointer (some ⟨g, 0, none⟩) := by
      cases T with
      | nil => exact hok.elim
      | node t l r => obtain ⟨_, g, _, _, _, _, _, _, e, _⟩ := ht; exact ⟨g, e⟩
    clear ht
    have HOK := Lib.hid hok
    clear hok
    go_wp2_with fail
    refine (isNullable_any T _ _ _ _ HT.out HOK.out).mono ?_
    rintro e w2 ⟨rfl, hs2⟩
    obtain ⟨z, hz⟩ : ∃ z, z = nulT T := ⟨_, rfl⟩
    rw [← hz]
    have HZ := Lib.hid hz
    clear hz
    go_wp2
    go_ret
    exact ⟨ret_bool (by rw [HB.out, HZ.out]), hs01.trans hs2⟩
set_option maxRecDepth 100000 in
theorem specNU_any (v : Value) (xs : List Tok) (w : World) (h : ExC w v xs) (hl : xs.length ≤ 1048577) :
    Calls Tryd.prog 24 #[v] w fun e w' => e = .returned (.bool (nulX xs)) ∧ Since w w' := by
  obtain ⟨ao, ac, rfl, ha, hac⟩ := h.open
  have HA := Lib.hid ha
  have HIN := Lib.hid ha.1
  obtain ⟨n, hn⟩ : ∃ n, n = xs.length := ⟨_, rfl⟩
  rw [← hn] at HA hac ⊢
  have HN := Lib.hid hn
  have hn9 : n ≤ 1048577 := by omega
  clear hn h ha
  obtain ⟨y, hy⟩ : ∃ y, y = w.alloc (.cells #[.slice ao n ac] 26) := ⟨_, rfl⟩
  have hsy : Since w y := by rw [hy]; exact (Since.refl w).alloc _
  have BE : Hid (Blk y w.heap.size 26 #[.slice ao n ac]) := by rw [hy]; exact Blk.new rfl _ _
  have HY := Lib.hid hy
  clear hy
  go_enter Tryd.func24, Tryd.ntmps24
  go_wp2_with fail
  rw [← HY.out]
  refine (specIX_any _ xs _ ⟨_, rfl, HA.out.since hsy⟩ hl).mono ?_
  rintro e w1 ⟨rfl, hs1⟩
  have hyw := hsy.trans hs1
  cases ho : treeO xs with
  | none =>
    have hb : isXB xs = false := by unfold isXB; rw [ho]; rfl
    have HB : Hid (nulX xs = false) := by unfold Hid nulX; rw [ho]
    rw [hb]
    clear ho hb
    go_wp2
    go_ret
    exact ⟨ret_bool HB.out.symm, hyw⟩
  | some T =>
    have hb : isXB xs = true := by unfold isXB; rw [ho]; rfl
    have HB : Hid (nulX xs = nulT T) := by unfold Hid nulX; rw [ho]
    rw [hb]
    obtain ⟨hok, hpost⟩ := treeO_some ho
    clear ho hb
    obtain ⟨p0, p1⟩ := (BE.out.since hs1).one
    have HAT : Hid (ToksAt w1 (.slice ao n ac) T.post) := by unfold Hid; rw [← hpost]; exact HA.out.since hyw
    have HIN2 : Hid (∀ x ∈ T.post, x.In) := by unfold Hid; rw [← hpost]; exact HIN.out
    have hlen : Hid (n = T.len) := by unfold Hid; rw [HN.out, hpost, post_len]
    have HOK := Lib.hid hok
    clear hpost hok
    go_wp2_with fail
    clear p0 p1
    refine (l9Null_any T ao n ac _ HOK.out HAT.out hac hlen.out hn9 HIN2.out).mono ?_
    rintro e w2 ⟨rfl, hs2⟩
    obtain ⟨z, hz⟩ : ∃ z, z = nulT T := ⟨_, rfl⟩
    rw [← hz]
    have HZ := Lib.hid hz
    clear hz
    go_wp2
    go_ret
    exact ⟨ret_bool (by rw [HB.out, HZ.out]), hyw.trans hs2⟩
end Go.Proofs.YtiojgahjfndmdaaDoor

/- Derivatives of trees, the model's: leaves and stars. -/
namespace Go.Proofs.YtiojgahjfndmdaaDoor
set_option maxRecDepth 100000
open Go.ChangeShapes Go.WideShapes Go.ChangeAt Go.RowKit
set_option linter.unusedVariables false
set_option linter.unusedSimpArgs false

theorem derT_400 (c : Int) {T : Tr} (h : T.ok) (hl : T.len ≤ 400) : (derT c T).length ≤ 160000 := Nat.le_trans (derT_len c h) (Nat.le_trans (Nat.mul_le_mul hl hl) (by decide))
/-- What is shown of a tree's derivative, by trees. -/
def DerS (c : Int) (T : Tr) : Prop := ∀ (ao : Option Addr) (n ac : Nat) (w : World), T.ok → ToksAt w (.slice ao n ac) T.post → n ≤ ac → n = T.len → n ≤ 400 → (∀ x ∈ T.post, x.In) →
    Calls Tryd.prog 81 #[.slice ao n ac, .int .i64 c] w (XOut w (derT c T))
set_option maxHeartbeats 4000000 in
set_option maxRecDepth 100000 in
theorem derS_none (c lr lo hi : Int) (l r : Tr) (hl : DerS c l) (hr : DerS c r) : DerS c (.node ⟨1, lr, lo, hi⟩ l r) := by
    obtain ⟨t, hte⟩ : ∃ t : Tok, t = ⟨1, lr, lo, hi⟩ := ⟨_, rfl⟩
    rw [← hte]
    intro ao n ac w hok ha hac hn hn4 hin
    have hn9 : n ≤ 1048577 := by omega
    obtain ⟨htok, hcase⟩ := hok
    have HA := Lib.hid ha
    obtain ⟨_, _, e0, HC⟩ := ha.row
    injection e0 with e1 e2 e3
    subst e1; subst e3
    clear e2 ha
    obtain ⟨q, hq⟩ : ∃ q, q = l.post.length := ⟨_, rfl⟩
    obtain ⟨m, hm⟩ : ∃ m, m = r.post.length := ⟨_, rfl⟩
    have hnn : n = q + m + 1 := by rw [hn, hq, hm, post_len, post_len]; rfl
    have hxl : (Tr.node t l r).post.length = q + m + 1 := by rw [hq, hm]; simp [Tr.post]; omega
    clear hn
    subst hnn
    have hxq : q + m < (Tr.node t l r).post.length := by omega
    have hxt : (Tr.node t l r).post[q + m] = t := by subst hq; subst hm; exact (last_post t l r).2
    have HQ := Lib.hid hq
    have HMM := Lib.hid hm
    clear hq hm
    have HTK1 : Hid ((Tr.node t l r).post.take (q + m) = l.post ++ r.post) := by unfold Hid; rw [show (Tr.node t l r).post = (l.post ++ r.post) ++ [t] from rfl]; exact List.take_left' (by rw [HQ.out, HMM.out, List.length_append])
    obtain ⟨b, off, rfl, hb, c0, c1, c2, c3⟩ := HC.out (q + m) hxq
    rw [hxt] at c0 c1 c2 c3
    have HTI : Hid (t.In) := by have hmem := List.getElem_mem hxq; rw [hxt] at hmem; exact hin t hmem
    have HINL : Hid (∀ x ∈ l.post, x.In) := fun x hx => hin x (by simp [Tr.post, hx])
    have HINR : Hid (∀ x ∈ r.post, x.In) := fun x hx => hin x (by simp [Tr.post, hx])
    clear hxt hin hxl
    have HTA : Hid (ToksAt w (.slice (some ⟨b, off, none⟩) (q + m) ac) (l.post ++ r.post)) := by
      unfold Hid; rw [← HTK1.out]; exact toks_takeO HA.out (by omega) _ _ (fun _ _ e => e)
    have hql : Hid (q = l.len) := by unfold Hid; rw [← post_len]; exact HQ.out
    have hmr : Hid (m = r.len) := by unfold Hid; rw [← post_len]; exact HMM.out
    have hkq : ((q + m : Nat) : Int) < ((q + m + 1 : Nat) : Int) := by omega
    have hk0 : (0 : Int) ≤ ((q + m : Nat) : Int) := by omega
    have hqa : q + m ≤ ac := by omega
    have hqai : (q : Int) + (m : Int) ≤ (ac : Int) := by omega
    have hqm0 : (0 : Int) ≤ (q : Int) + (m : Int) := by omega
    have hne : ¬ (ac = q + m) := by omega
    obtain ⟨y, hy⟩ : ∃ y, y = (w.alloc (.cells #[.slice none 0 0] 26)).alloc (.cells #[.int .i64 t.kd, .int .i64 t.lr, .int .i64 t.lo, .int .i64 t.hi] 65) := ⟨_, rfl⟩
    have hsy : Since w y := by rw [hy]; exact ((Since.refl w).alloc _).alloc _
    have BT : Hid (Blk y (w.heap.size + 1) 65 #[.int .i64 t.kd, .int .i64 t.lr, .int .i64 t.lo, .int .i64 t.hi]) := by rw [hy]; exact Blk.new (by simp) _ _
    have BR : Hid (Blk y w.heap.size 26 #[.slice none 0 0]) := by rw [hy]; exact (Blk.new rfl _ _).alloc _
    have hzy : w.heap.size + 2 ≤ y.heap.size := by rw [hy]; simp
    have HY := Lib.hid hy
    obtain ⟨d0, d1, d2, d3, _⟩ := BT.out.four
    rw [hy] at d0 d1 d2 d3
    clear hy
    subst hte
    have hk17 := okT_kd htok
    rw [opN_of] at hcase
    dsimp only at c0 c1 c2 c3 d0 d1 d2 d3 BT HTI HY
    have hll : q + m + 1 ≤ 400 := hn4
    · have HD : Hid (derT c (Tr.node ⟨1, lr, lo, hi⟩ l r) = [leafK 1]) := by unfold Hid; simp [derT]
      clear hcase
      go_enter Tryd.func81, Tryd.ntmps81
      go_wp2_with fail
      rw [← HY.out]
      clear c0 c1 c2 c3 d0 d1 d2 d3
      refine (l8Leaf_any 1 _ (by decide)).mono ?_
      rintro e w9 ⟨v, rfl, ⟨b9, rfl, ho, _⟩, hs9⟩
      obtain ⟨ro, N, rc, hN, rfl⟩ := ho.lenN
      have HO : Hid (OwnK w.heap.size w9 (.slice ro N rc) _) := ho.mono hsy.size
      have hcc := hsy.trans hs9
      have BR9 := Lib.hid (BR.out.since hs9)
      clear ho
      obtain ⟨r0, r1⟩ := BR9.out.one
      go_wp2_with fail
      refine bodyPost_ret (v := .agg #[.slice ro N rc]) (by simp [results, Tryd.results81, go_sem, *]) rfl ?_
      rw [HD.out]
      exact xout_boxT HO.out hcc BR9.out (by decide) (Nat.le_refl _) _
set_option maxHeartbeats 4000000 in
set_option maxRecDepth 100000 in
theorem derS_empty (c lr lo hi : Int) (l r : Tr) (hl : DerS c l) (hr : DerS c r) : DerS c (.node ⟨2, lr, lo, hi⟩ l r) := by
    obtain ⟨t, hte⟩ : ∃ t : Tok, t = ⟨2, lr, lo, hi⟩ := ⟨_, rfl⟩
    rw [← hte]
    intro ao n ac w hok ha hac hn hn4 hin
    have hn9 : n ≤ 1048577 := by omega
    obtain ⟨htok, hcase⟩ := hok
    have HA := Lib.hid ha
    obtain ⟨_, _, e0, HC⟩ := ha.row
    injection e0 with e1 e2 e3
    subst e1; subst e3
    clear e2 ha
    obtain ⟨q, hq⟩ : ∃ q, q = l.post.length := ⟨_, rfl⟩
    obtain ⟨m, hm⟩ : ∃ m, m = r.post.length := ⟨_, rfl⟩
    have hnn : n = q + m + 1 := by rw [hn, hq, hm, post_len, post_len]; rfl
    have hxl : (Tr.node t l r).post.length = q + m + 1 := by rw [hq, hm]; simp [Tr.post]; omega
    clear hn
    subst hnn
    have hxq : q + m < (Tr.node t l r).post.length := by omega
    have hxt : (Tr.node t l r).post[q + m] = t := by subst hq; subst hm; exact (last_post t l r).2
    have HQ := Lib.hid hq
    have HMM := Lib.hid hm
    clear hq hm
    have HTK1 : Hid ((Tr.node t l r).post.take (q + m) = l.post ++ r.post) := by unfold Hid; rw [show (Tr.node t l r).post = (l.post ++ r.post) ++ [t] from rfl]; exact List.take_left' (by rw [HQ.out, HMM.out, List.length_append])
    obtain ⟨b, off, rfl, hb, c0, c1, c2, c3⟩ := HC.out (q + m) hxq
    rw [hxt] at c0 c1 c2 c3
    have HTI : Hid (t.In) := by have hmem := List.getElem_mem hxq; rw [hxt] at hmem; exact hin t hmem
    have HINL : Hid (∀ x ∈ l.post, x.In) := fun x hx => hin x (by simp [Tr.post, hx])
    have HINR : Hid (∀ x ∈ r.post, x.In) := fun x hx => hin x (by simp [Tr.post, hx])
    clear hxt hin hxl
    have HTA : Hid (ToksAt w (.slice (some ⟨b, off, none⟩) (q + m) ac) (l.post ++ r.post)) := by
      unfold Hid; rw [← HTK1.out]; exact toks_takeO HA.out (by omega) _ _ (fun _ _ e => e)
    have hql : Hid (q = l.len) := by unfold Hid; rw [← post_len]; exact HQ.out
    have hmr : Hid (m = r.len) := by unfold Hid; rw [← post_len]; exact HMM.out
    have hkq : ((q + m : Nat) : Int) < ((q + m + 1 : Nat) : Int) := by omega
    have hk0 : (0 : Int) ≤ ((q + m : Nat) : Int) := by omega
    have hqa : q + m ≤ ac := by omega
    have hqai : (q : Int) + (m : Int) ≤ (ac : Int) := by omega
    have hqm0 : (0 : Int) ≤ (q : Int) + (m : Int) := by omega
    have hne : ¬ (ac = q + m) := by omega
    obtain ⟨y, hy⟩ : ∃ y, y = (w.alloc (.cells #[.slice none 0 0] 26)).alloc (.cells #[.int .i64 t.kd, .int .i64 t.lr, .int .i64 t.lo, .int .i64 t.hi] 65) := ⟨_, rfl⟩
    have hsy : Since w y := by rw [hy]; exact ((Since.refl w).alloc _).alloc _
    have BT : Hid (Blk y (w.heap.size + 1) 65 #[.int .i64 t.kd, .int .i64 t.lr, .int .i64 t.lo, .int .i64 t.hi]) := by rw [hy]; exact Blk.new (by simp) _ _
    have BR : Hid (Blk y w.heap.size 26 #[.slice none 0 0]) := by rw [hy]; exact (Blk.new rfl _ _).alloc _
    have hzy : w.heap.size + 2 ≤ y.heap.size := by rw [hy]; simp
    have HY := Lib.hid hy
    obtain ⟨d0, d1, d2, d3, _⟩ := BT.out.four
    rw [hy] at d0 d1 d2 d3
    clear hy
    subst hte
    have hk17 := okT_kd htok
    rw [opN_of] at hcase
    dsimp only at c0 c1 c2 c3 d0 d1 d2 d3 BT HTI HY
    have hll : q + m + 1 ≤ 400 := hn4
    · have HD : Hid (derT c (Tr.node ⟨2, lr, lo, hi⟩ l r) = [leafK 1]) := by unfold Hid; simp [derT]
      clear hcase
      go_enter Tryd.func81, Tryd.ntmps81
      go_wp2_with fail
      rw [← HY.out]
      clear c0 c1 c2 c3 d0 d1 d2 d3
      refine (l8Leaf_any 1 _ (by decide)).mono ?_
      rintro e w9 ⟨v, rfl, ⟨b9, rfl, ho, _⟩, hs9⟩
      obtain ⟨ro, N, rc, hN, rfl⟩ := ho.lenN
      have HO : Hid (OwnK w.heap.size w9 (.slice ro N rc) _) := ho.mono hsy.size
      have hcc := hsy.trans hs9
      have BR9 := Lib.hid (BR.out.since hs9)
      clear ho
      obtain ⟨r0, r1⟩ := BR9.out.one
      go_wp2_with fail
      refine bodyPost_ret (v := .agg #[.slice ro N rc]) (by simp [results, Tryd.results81, go_sem, *]) rfl ?_
      rw [HD.out]
      exact xout_boxT HO.out hcc BR9.out (by decide) (Nat.le_refl _) _
set_option maxHeartbeats 4000000 in
set_option maxRecDepth 100000 in
theorem derS_letter (c lr lo hi : Int) (l r : Tr) (hl : DerS c l) (hr : DerS c r) : DerS c (.node ⟨3, lr, lo, hi⟩ l r) := by
    obtain ⟨t, hte⟩ : ∃ t : Tok, t = ⟨3, lr, lo, hi⟩ := ⟨_, rfl⟩
    rw [← hte]
    intro ao n ac w hok ha hac hn hn4 hin
    have hn9 : n ≤ 1048577 := by omega
    obtain ⟨htok, hcase⟩ := hok
    have HA := Lib.hid ha
    obtain ⟨_, _, e0, HC⟩ := ha.row
    injection e0 with e1 e2 e3
    subst e1; subst e3
    clear e2 ha
    obtain ⟨q, hq⟩ : ∃ q, q = l.post.length := ⟨_, rfl⟩
    obtain ⟨m, hm⟩ : ∃ m, m = r.post.length := ⟨_, rfl⟩
    have hnn : n = q + m + 1 := by rw [hn, hq, hm, post_len, post_len]; rfl
    have hxl : (Tr.node t l r).post.length = q + m + 1 := by rw [hq, hm]; simp [Tr.post]; omega
    clear hn
    subst hnn
    have hxq : q + m < (Tr.node t l r).post.length := by omega
    have hxt : (Tr.node t l r).post[q + m] = t := by subst hq; subst hm; exact (last_post t l r).2
    have HQ := Lib.hid hq
    have HMM := Lib.hid hm
    clear hq hm
    have HTK1 : Hid ((Tr.node t l r).post.take (q + m) = l.post ++ r.post) := by unfold Hid; rw [show (Tr.node t l r).post = (l.post ++ r.post) ++ [t] from rfl]; exact List.take_left' (by rw [HQ.out, HMM.out, List.length_append])
    obtain ⟨b, off, rfl, hb, c0, c1, c2, c3⟩ := HC.out (q + m) hxq
    rw [hxt] at c0 c1 c2 c3
    have HTI : Hid (t.In) := by have hmem := List.getElem_mem hxq; rw [hxt] at hmem; exact hin t hmem
    have HINL : Hid (∀ x ∈ l.post, x.In) := fun x hx => hin x (by simp [Tr.post, hx])
    have HINR : Hid (∀ x ∈ r.post, x.In) := fun x hx => hin x (by simp [Tr.post, hx])
    clear hxt hin hxl
    have HTA : Hid (ToksAt w (.slice (some ⟨b, off, none⟩) (q + m) ac) (l.post ++ r.post)) := by
      unfold Hid; rw [← HTK1.out]; exact toks_takeO HA.out (by omega) _ _ (fun _ _ e => e)
    have hql : Hid (q = l.len) := by unfold Hid; rw [← post_len]; exact HQ.out
    have hmr : Hid (m = r.len) := by unfold Hid; rw [← post_len]; exact HMM.out
    have hkq : ((q + m : Nat) : Int) < ((q + m + 1 : Nat) : Int) := by omega
    have hk0 : (0 : Int) ≤ ((q + m : Nat) : Int) := by omega
    have hqa : q + m ≤ ac := by omega
    have hqai : (q : Int) + (m : Int) ≤ (ac : Int) := by omega
    have hqm0 : (0 : Int) ≤ (q : Int) + (m : Int) := by omega
    have hne : ¬ (ac = q + m) := by omega
    obtain ⟨y, hy⟩ : ∃ y, y = (w.alloc (.cells #[.slice none 0 0] 26)).alloc (.cells #[.int .i64 t.kd, .int .i64 t.lr, .int .i64 t.lo, .int .i64 t.hi] 65) := ⟨_, rfl⟩
    have hsy : Since w y := by rw [hy]; exact ((Since.refl w).alloc _).alloc _
    have BT : Hid (Blk y (w.heap.size + 1) 65 #[.int .i64 t.kd, .int .i64 t.lr, .int .i64 t.lo, .int .i64 t.hi]) := by rw [hy]; exact Blk.new (by simp) _ _
    have BR : Hid (Blk y w.heap.size 26 #[.slice none 0 0]) := by rw [hy]; exact (Blk.new rfl _ _).alloc _
    have hzy : w.heap.size + 2 ≤ y.heap.size := by rw [hy]; simp
    have HY := Lib.hid hy
    obtain ⟨d0, d1, d2, d3, _⟩ := BT.out.four
    rw [hy] at d0 d1 d2 d3
    clear hy
    subst hte
    have hk17 := okT_kd htok
    rw [opN_of] at hcase
    dsimp only at c0 c1 c2 c3 d0 d1 d2 d3 BT HTI HY
    have hll : q + m + 1 ≤ 400 := hn4
    · clear hcase
      by_cases hc : lr = c
      · have HD : Hid (derT c (Tr.node ⟨3, lr, lo, hi⟩ l r) = [leafK 2]) := by unfold Hid; simp [derT, hc]
        have ec : (lr == c) = true := by simp [hc]
        clear hc
        go_enter Tryd.func81, Tryd.ntmps81
        go_wp2_with fail
        rw [← HY.out]
        clear c0 c1 c2 c3 d0 d1 d2 d3
        refine (l8Leaf_any 2 _ (by decide)).mono ?_
        rintro e w9 ⟨v, rfl, ⟨b9, rfl, ho, _⟩, hs9⟩
        obtain ⟨ro, N, rc, hN, rfl⟩ := ho.lenN
        have HO : Hid (OwnK w.heap.size w9 (.slice ro N rc) _) := ho.mono hsy.size
        have hcc := hsy.trans hs9
        have BR9 := Lib.hid (BR.out.since hs9)
        clear ho
        obtain ⟨r0, r1⟩ := BR9.out.one
        go_wp2_with fail
        refine bodyPost_ret (v := .agg #[.slice ro N rc]) (by simp [results, Tryd.results81, go_sem, *]) rfl ?_
        rw [HD.out]
        exact xout_boxT HO.out hcc BR9.out (by decide) (Nat.le_refl _) _
      · have HD : Hid (derT c (Tr.node ⟨3, lr, lo, hi⟩ l r) = [leafK 1]) := by unfold Hid; simp [derT, hc]
        have ec : (lr == c) = false := by simp [hc]
        clear hc
        go_enter Tryd.func81, Tryd.ntmps81
        go_wp2_with fail
        rw [← HY.out]
        clear c0 c1 c2 c3 d0 d1 d2 d3
        refine (l8Leaf_any 1 _ (by decide)).mono ?_
        rintro e w9 ⟨v, rfl, ⟨b9, rfl, ho, _⟩, hs9⟩
        obtain ⟨ro, N, rc, hN, rfl⟩ := ho.lenN
        have HO : Hid (OwnK w.heap.size w9 (.slice ro N rc) _) := ho.mono hsy.size
        have hcc := hsy.trans hs9
        have BR9 := Lib.hid (BR.out.since hs9)
        clear ho
        obtain ⟨r0, r1⟩ := BR9.out.one
        go_wp2_with fail
        refine bodyPost_ret (v := .agg #[.slice ro N rc]) (by simp [results, Tryd.results81, go_sem, *]) rfl ?_
        rw [HD.out]
        exact xout_boxT HO.out hcc BR9.out (by decide) (Nat.le_refl _) _
set_option maxHeartbeats 4000000 in
set_option maxRecDepth 100000 in
theorem derS_star (c lr lo hi : Int) (l r : Tr) (hl : DerS c l) (hr : DerS c r) : DerS c (.node ⟨6, lr, lo, hi⟩ l r) := by
    obtain ⟨t, hte⟩ : ∃ t : Tok, t = ⟨6, lr, lo, hi⟩ := ⟨_, rfl⟩
    rw [← hte]
    intro ao n ac w hok ha hac hn hn4 hin
    have hn9 : n ≤ 1048577 := by omega
    obtain ⟨htok, hcase⟩ := hok
    have HA := Lib.hid ha
    obtain ⟨_, _, e0, HC⟩ := ha.row
    injection e0 with e1 e2 e3
    subst e1; subst e3
    clear e2 ha
    obtain ⟨q, hq⟩ : ∃ q, q = l.post.length := ⟨_, rfl⟩
    obtain ⟨m, hm⟩ : ∃ m, m = r.post.length := ⟨_, rfl⟩
    have hnn : n = q + m + 1 := by rw [hn, hq, hm, post_len, post_len]; rfl
    have hxl : (Tr.node t l r).post.length = q + m + 1 := by rw [hq, hm]; simp [Tr.post]; omega
    clear hn
    subst hnn
    have hxq : q + m < (Tr.node t l r).post.length := by omega
    have hxt : (Tr.node t l r).post[q + m] = t := by subst hq; subst hm; exact (last_post t l r).2
    have HQ := Lib.hid hq
    have HMM := Lib.hid hm
    clear hq hm
    have HTK1 : Hid ((Tr.node t l r).post.take (q + m) = l.post ++ r.post) := by unfold Hid; rw [show (Tr.node t l r).post = (l.post ++ r.post) ++ [t] from rfl]; exact List.take_left' (by rw [HQ.out, HMM.out, List.length_append])
    obtain ⟨b, off, rfl, hb, c0, c1, c2, c3⟩ := HC.out (q + m) hxq
    rw [hxt] at c0 c1 c2 c3
    have HTI : Hid (t.In) := by have hmem := List.getElem_mem hxq; rw [hxt] at hmem; exact hin t hmem
    have HINL : Hid (∀ x ∈ l.post, x.In) := fun x hx => hin x (by simp [Tr.post, hx])
    have HINR : Hid (∀ x ∈ r.post, x.In) := fun x hx => hin x (by simp [Tr.post, hx])
    clear hxt hin hxl
    have HTA : Hid (ToksAt w (.slice (some ⟨b, off, none⟩) (q + m) ac) (l.post ++ r.post)) := by
      unfold Hid; rw [← HTK1.out]; exact toks_takeO HA.out (by omega) _ _ (fun _ _ e => e)
    have hql : Hid (q = l.len) := by unfold Hid; rw [← post_len]; exact HQ.out
    have hmr : Hid (m = r.len) := by unfold Hid; rw [← post_len]; exact HMM.out
    have hkq : ((q + m : Nat) : Int) < ((q + m + 1 : Nat) : Int) := by omega
    have hk0 : (0 : Int) ≤ ((q + m : Nat) : Int) := by omega
    have hqa : q + m ≤ ac := by omega
    have hqai : (q : Int) + (m : Int) ≤ (ac : Int) := by omega
    have hqm0 : (0 : Int) ≤ (q : Int) + (m : Int) := by omega
    have hne : ¬ (ac = q + m) := by omega
    obtain ⟨y, hy⟩ : ∃ y, y = (w.alloc (.cells #[.slice none 0 0] 26)).alloc (.cells #[.int .i64 t.kd, .int .i64 t.lr, .int .i64 t.lo, .int .i64 t.hi] 65) := ⟨_, rfl⟩
    have hsy : Since w y := by rw [hy]; exact ((Since.refl w).alloc _).alloc _
    have BT : Hid (Blk y (w.heap.size + 1) 65 #[.int .i64 t.kd, .int .i64 t.lr, .int .i64 t.lo, .int .i64 t.hi]) := by rw [hy]; exact Blk.new (by simp) _ _
    have BR : Hid (Blk y w.heap.size 26 #[.slice none 0 0]) := by rw [hy]; exact (Blk.new rfl _ _).alloc _
    have hzy : w.heap.size + 2 ≤ y.heap.size := by rw [hy]; simp
    have HY := Lib.hid hy
    obtain ⟨d0, d1, d2, d3, _⟩ := BT.out.four
    rw [hy] at d0 d1 d2 d3
    clear hy
    subst hte
    have hk17 := okT_kd htok
    rw [opN_of] at hcase
    dsimp only at c0 c1 c2 c3 d0 d1 d2 d3 BT HTI HY
    have hll : q + m + 1 ≤ 400 := hn4
    · obtain ⟨hlo, rfl⟩ : l.ok ∧ r = .nil := by
        rcases hcase with ⟨h0, _⟩ | ⟨_, a, b⟩ | ⟨h2, _⟩
        · simp at h0
        · exact ⟨a, b⟩
        · simp at h2
      have hm0 : m = 0 := HMM.out
      have hlq : Hid (q + m = l.len) := by unfold Hid; rw [← post_len, hm0, HQ.out]; rfl
      have hdl : (derT c l).length ≤ 160000 := derT_400 c hlo (by have := hlq.out; omega)
      have HPL : Hid (l.post.length = q + m) := by unfold Hid; rw [hm0, HQ.out]; rfl
      clear hcase hm0
      have HT1 : Hid (ToksAt w (.slice (some ⟨b, off, none⟩) (q + m) ac) l.post) := by have := HTA.out; rwa [show l.post ++ Tr.nil.post = l.post from List.append_nil _] at this
      have HD : Hid (derT c (Tr.node ⟨6, lr, lo, hi⟩ l .nil) = catX (derT c l) (Tr.node ⟨6, lr, lo, hi⟩ l .nil).post) := by unfold Hid; simp [derT]
      have HPN : Hid ((Tr.node ⟨6, lr, lo, hi⟩ l .nil).post.length = q + m + 1) := by unfold Hid; have := HPL.out; simp [Tr.post]; omega
      go_enter Tryd.func81, Tryd.ntmps81
      go_wp2_with fail
      rw [← HY.out]
      clear c0 c1 c2 c3 d0 d1 d2 d3
      try rw [show ((q : Int) + (m : Int)).toNat - q = m from by omega]
      try rw [show ((q : Int) + (m : Int)).toNat = q + m from by omega]
      refine (hl _ (q + m) ac _ hlo (HT1.out.since hsy) (by omega) hlq.out (by omega) HINL.out).mono ?_
      rintro e w3 ⟨v3, rfl, ⟨b3, rfl, ho3, _⟩, hs3⟩
      obtain ⟨uo, un, uc, huN, rfl⟩ := ho3.lenN
      have HO3 := Lib.hid ho3
      clear ho3
      have hyw3 := hsy.trans hs3
      go_wp2_with fail
      refine (specCE_any _ _ (derT c l) (Tr.node ⟨6, lr, lo, hi⟩ l .nil).post _ ⟨_, rfl, HO3.out.at⟩ ⟨_, rfl, HA.out.since hyw3⟩ (by omega) (by have := HPN.out; omega)).mono ?_
      rintro e w9 ⟨v, rfl, ⟨b9, rfl, ho, _⟩, hs9⟩
      have BR3 := Lib.hid (BR.out.since hs3)
      obtain ⟨ro, N, rc, hN, rfl⟩ := ho.lenN
      have HO : Hid (OwnK w.heap.size w9 (.slice ro N rc) _) := ho.mono hyw3.size
      have hcc := hyw3.trans hs9
      have BR9 := Lib.hid (BR3.out.since hs9)
      clear ho
      obtain ⟨r0, r1⟩ := BR9.out.one
      go_wp2_with fail
      refine bodyPost_ret (v := .agg #[.slice ro N rc]) (by simp [results, Tryd.results81, go_sem, *]) rfl ?_
      rw [HD.out]
      exact xout_boxT HO.out hcc BR9.out (by decide) (Nat.le_refl _) _
end Go.Proofs.YtiojgahjfndmdaaDoor
