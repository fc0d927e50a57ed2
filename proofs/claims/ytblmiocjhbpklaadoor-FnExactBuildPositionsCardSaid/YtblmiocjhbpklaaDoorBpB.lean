/- The building of positions, the model's: parts without letters. -/
import Derived.Test.YtblmiocjhbpklaaDoorBpT
import Derived.Test.YtblmiocjhbpklaaDoorEpS
namespace Go.Proofs.YtblmiocjhbpklaaDoor
set_option maxRecDepth 100000
open Go.ChangeShapes Go.WideShapes Go.ChangeAt Go.RowKit
set_option linter.unusedVariables false
set_option linter.unusedSimpArgs false

def BldOut (G : Nat) (w : World) (g : (List Int × List Nat) × Frg) (e : Ending) (w' : World) : Prop :=
  ∃ lv' fv', e = .returned (FrgV g.2) ∧ BP G w' lv' fv' g.1.1 g.1.2 ∧ KI G w w'
/-- What is shown of the building, by trees. -/
def BldS (T : Tr) : Prop := ∀ (G : Nat) (ls : List Int) (fo : List Nat) (lv fv : Value) (ao : Option Addr) (n ac : Nat) (w : World), BP G w lv fv ls fo → T.ok → noRep T → ToksAt w (.slice ao n ac) T.post → n ≤ ac → n = T.len → n ≤ 1048577 → (∀ x ∈ T.post, x.In) →
    (∀ b off, ao = some ⟨b, off, none⟩ → b < G) → fo.length = ls.length → (∀ f ∈ fo, f < 2 ^ 20) → ls.length + ltrN T ≤ 20 →
    Calls Tryd.prog 63 #[.pointer (some ⟨G, 0, none⟩), .slice ao n ac] w (BldOut G w (glu T ls fo))
theorem frgV (nu : Bool) (fi la : Nat) : FrgV ⟨nu, fi, la⟩ = .agg #[.bool nu, .int .i64 (fi : Int), .int .i64 (la : Int)] := rfl
/-- The answer stored in its box. -/
theorem bldOut_box {G X : Nat} {w w2 : World} {lv fv : Value} {ls : List Int} {fo : List Nat} {cs : Array Value} {f : Frg} (h : BP G w2 lv fv ls fo) (k : KI G w w2) (hb : Blk w2 X 92 cs) (hX : w.heap.size ≤ X) (hG : G < w.heap.size) (u0 u1 u2 : Value) :
    BldOut G w ((ls, fo), f) (.returned (FrgV f)) (((w2.setCell ⟨X, 0, none⟩ u0).setCell ⟨X, 1, none⟩ u1).setCell ⟨X, 2, none⟩ u2) :=
  ⟨lv, fv, rfl, ((h.setT hb (by decide) (by decide) u0).setT (hb.set 0 u0) (by decide) (by decide) u1).setT ((hb.set 0 u0).set 1 u1) (by decide) (by decide) u2, ((k.setNew hX hG u0).setNew hX hG u1).setNew hX hG u2⟩
theorem bldOut_since {G : Nat} {w w1 w2 : World} {g : (List Int × List Nat) × Frg} {e : Ending} (h : BldOut G w g e w1) (k : Since w1 w2) : BldOut G w g e w2 := by
  obtain ⟨lv, fv, e1, h1, h2⟩ := h
  exact ⟨lv, fv, e1, h1.since k, h2.trans (KI.of_since k)⟩
set_option maxHeartbeats 2000000 in
set_option maxRecDepth 100000 in
theorem bldS_none (lr lo hi : Int) (l r : Tr) (hl : BldS l) (hr : BldS r) : BldS (.node ⟨1, lr, lo, hi⟩ l r) := by
    obtain ⟨t, hte⟩ : ∃ t : Tok, t = ⟨1, lr, lo, hi⟩ := ⟨_, rfl⟩
    rw [← hte]
    intro G ls fo lv fv ao n ac w hbp hok hno ha hac hn hn9 hin hlow hfl hfs hlt
    have hok1 := hok
    have HBP := Lib.hid hbp
    have hGw := hbp.blk.lt
    clear hbp
    obtain ⟨htok, hcase⟩ := hok
    have HA := Lib.hid ha
    obtain ⟨_, _, e0, HC⟩ := ha.row
    injection e0 with e1 e2 e3
    subst e1; subst e3
    clear e2 ha
    obtain ⟨q, hq⟩ : ∃ q, q = l.post.length := ⟨_, rfl⟩
    obtain ⟨m, hm⟩ : ∃ m, m = r.post.length := ⟨_, rfl⟩
    have hnn : n = q + m + 1 := by rw [hn, hq, hm, post_len, post_len]; rfl
    have hxl : (Tr.node t l r).post.length = q + m + 1 := by rw [hq, hm]; simp [Tr.post]; omega
    clear hn
    subst hnn
    have hxq : q + m < (Tr.node t l r).post.length := by omega
    have hxt : (Tr.node t l r).post[q + m] = t := by subst hq; subst hm; exact (last_post t l r).2
    have HQ := Lib.hid hq
    have HMM := Lib.hid hm
    clear hq hm
    have HTK1 : Hid ((Tr.node t l r).post.take (q + m) = l.post ++ r.post) := by unfold Hid; rw [show (Tr.node t l r).post = (l.post ++ r.post) ++ [t] from rfl]; exact List.take_left' (by rw [HQ.out, HMM.out, List.length_append])
    obtain ⟨b, off, rfl, hb, c0, c1, c2, c3⟩ := HC.out (q + m) hxq
    have hbG : b < G := hlow b off rfl
    clear hlow
    rw [hxt] at c0 c1 c2 c3
    have HTI : Hid (t.In) := by have hmem := List.getElem_mem hxq; rw [hxt] at hmem; exact hin t hmem
    have HINL : Hid (∀ x ∈ l.post, x.In) := fun x hx => hin x (by simp [Tr.post, hx])
    have HINR : Hid (∀ x ∈ r.post, x.In) := fun x hx => hin x (by simp [Tr.post, hx])
    clear hxt hin hxl
    have HTA : Hid (ToksAt w (.slice (some ⟨b, off, none⟩) (q + m) ac) (l.post ++ r.post)) := by
      unfold Hid; rw [← HTK1.out]; exact toks_takeO HA.out (by omega) _ _ (fun _ _ e => e)
    have hql : Hid (q = l.len) := by unfold Hid; rw [← post_len]; exact HQ.out
    have hmr : Hid (m = r.len) := by unfold Hid; rw [← post_len]; exact HMM.out
    have hkq : ((q + m : Nat) : Int) < ((q + m + 1 : Nat) : Int) := by omega
    have hk0 : (0 : Int) ≤ ((q + m : Nat) : Int) := by omega
    have hqa : q + m ≤ ac := by omega
    have hqai : (q : Int) + (m : Int) ≤ (ac : Int) := by omega
    have hqm0 : (0 : Int) ≤ (q : Int) + (m : Int) := by omega
    have hne : ¬ (ac = q + m) := by omega
    obtain ⟨y, hy⟩ : ∃ y, y = (w.alloc (.cells #[.bool false, .int .i64 0, .int .i64 0] 92)).alloc (.cells #[.int .i64 t.kd, .int .i64 t.lr, .int .i64 t.lo, .int .i64 t.hi] 90) := ⟨_, rfl⟩
    have hsy : Since w y := by rw [hy]; exact ((Since.refl w).alloc _).alloc _
    have BT : Hid (Blk y (w.heap.size + 1) 90 #[.int .i64 t.kd, .int .i64 t.lr, .int .i64 t.lo, .int .i64 t.hi]) := by rw [hy]; exact Blk.new (by simp) _ _
    have BR : Hid (Blk y w.heap.size 92 #[.bool false, .int .i64 0, .int .i64 0]) := by rw [hy]; exact (Blk.new rfl _ _).alloc _
    have hzy : w.heap.size + 2 ≤ y.heap.size := by rw [hy]; simp
    have HY := Lib.hid hy
    obtain ⟨d0, d1, d2, d3, _⟩ := BT.out.four
    rw [hy] at d0 d1 d2 d3
    clear hy
    subst hte
    have hk17 := okT_kd htok
    rw [opN_of] at hcase
    dsimp only at c0 c1 c2 c3 d0 d1 d2 d3 BT HTI HY
    have HD : Hid (glu (Tr.node ⟨1, lr, lo, hi⟩ l r) ls fo = ((ls, fo), ⟨false, 0, 0⟩)) := by unfold Hid; simp [glu]
    clear hcase
    have HB2 := Lib.hid (HBP.out.since hsy)
    have HK2 : Hid (KI G w y) := KI.of_since hsy
    go_enter Tryd.func63, Tryd.ntmps63
    go_wp2_with fail
    refine bodyPost_ret (v := .agg #[.bool false, .int .i64 0, .int .i64 0]) (by simp [results, Tryd.results63, go_sem, *]) rfl ?_
    rw [HD.out]
    exact ⟨_, _, rfl, HBP.out.since (((Since.refl w).alloc _).alloc _), KI.of_since (((Since.refl w).alloc _).alloc _)⟩
set_option maxHeartbeats 2000000 in
set_option maxRecDepth 100000 in
theorem bldS_empty (lr lo hi : Int) (l r : Tr) (hl : BldS l) (hr : BldS r) : BldS (.node ⟨2, lr, lo, hi⟩ l r) := by
    obtain ⟨t, hte⟩ : ∃ t : Tok, t = ⟨2, lr, lo, hi⟩ := ⟨_, rfl⟩
    rw [← hte]
    intro G ls fo lv fv ao n ac w hbp hok hno ha hac hn hn9 hin hlow hfl hfs hlt
    have hok1 := hok
    have HBP := Lib.hid hbp
    have hGw := hbp.blk.lt
    clear hbp
    obtain ⟨htok, hcase⟩ := hok
    have HA := Lib.hid ha
    obtain ⟨_, _, e0, HC⟩ := ha.row
    injection e0 with e1 e2 e3
    subst e1; subst e3
    clear e2 ha
    obtain ⟨q, hq⟩ : ∃ q, q = l.post.length := ⟨_, rfl⟩
    obtain ⟨m, hm⟩ : ∃ m, m = r.post.length := ⟨_, rfl⟩
    have hnn : n = q + m + 1 := by rw [hn, hq, hm, post_len, post_len]; rfl
    have hxl : (Tr.node t l r).post.length = q + m + 1 := by rw [hq, hm]; simp [Tr.post]; omega
    clear hn
    subst hnn
    have hxq : q + m < (Tr.node t l r).post.length := by omega
    have hxt : (Tr.node t l r).post[q + m] = t := by subst hq; subst hm; exact (last_post t l r).2
    have HQ := Lib.hid hq
    have HMM := Lib.hid hm
    clear hq hm
    have HTK1 : Hid ((Tr.node t l r).post.take (q + m) = l.post ++ r.post) := by unfold Hid; rw [show (Tr.node t l r).post = (l.post ++ r.post) ++ [t] from rfl]; exact List.take_left' (by rw [HQ.out, HMM.out, List.length_append])
    obtain ⟨b, off, rfl, hb, c0, c1, c2, c3⟩ := HC.out (q + m) hxq
    have hbG : b < G := hlow b off rfl
    clear hlow
    rw [hxt] at c0 c1 c2 c3
    have HTI : Hid (t.In) := by have hmem := List.getElem_mem hxq; rw [hxt] at hmem; exact hin t hmem
    have HINL : Hid (∀ x ∈ l.post, x.In) := fun x hx => hin x (by simp [Tr.post, hx])
    have HINR : Hid (∀ x ∈ r.post, x.In) := fun x hx => hin x (by simp [Tr.post, hx])
    clear hxt hin hxl
    have HTA : Hid (ToksAt w (.slice (some ⟨b, off, none⟩) (q + m) ac) (l.post ++ r.post)) := by
      unfold Hid; rw [← HTK1.out]; exact toks_takeO HA.out (by omega) _ _ (fun _ _ e => e)
    have hql : Hid (q = l.len) := by unfold Hid; rw [← post_len]; exact HQ.out
    have hmr : Hid (m = r.len) := by unfold Hid; rw [← post_len]; exact HMM.out
    have hkq : ((q + m : Nat) : Int) < ((q + m + 1 : Nat) : Int) := by omega
    have hk0 : (0 : Int) ≤ ((q + m : Nat) : Int) := by omega
    have hqa : q + m ≤ ac := by omega
    have hqai : (q : Int) + (m : Int) ≤ (ac : Int) := by omega
    have hqm0 : (0 : Int) ≤ (q : Int) + (m : Int) := by omega
    have hne : ¬ (ac = q + m) := by omega
    obtain ⟨y, hy⟩ : ∃ y, y = (w.alloc (.cells #[.bool false, .int .i64 0, .int .i64 0] 92)).alloc (.cells #[.int .i64 t.kd, .int .i64 t.lr, .int .i64 t.lo, .int .i64 t.hi] 90) := ⟨_, rfl⟩
    have hsy : Since w y := by rw [hy]; exact ((Since.refl w).alloc _).alloc _
    have BT : Hid (Blk y (w.heap.size + 1) 90 #[.int .i64 t.kd, .int .i64 t.lr, .int .i64 t.lo, .int .i64 t.hi]) := by rw [hy]; exact Blk.new (by simp) _ _
    have BR : Hid (Blk y w.heap.size 92 #[.bool false, .int .i64 0, .int .i64 0]) := by rw [hy]; exact (Blk.new rfl _ _).alloc _
    have hzy : w.heap.size + 2 ≤ y.heap.size := by rw [hy]; simp
    have HY := Lib.hid hy
    obtain ⟨d0, d1, d2, d3, _⟩ := BT.out.four
    rw [hy] at d0 d1 d2 d3
    clear hy
    subst hte
    have hk17 := okT_kd htok
    rw [opN_of] at hcase
    dsimp only at c0 c1 c2 c3 d0 d1 d2 d3 BT HTI HY
    have HD : Hid (glu (Tr.node ⟨2, lr, lo, hi⟩ l r) ls fo = ((ls, fo), ⟨true, 0, 0⟩)) := by unfold Hid; simp [glu]
    clear hcase
    have HB2 := Lib.hid (HBP.out.since hsy)
    have HK2 : Hid (KI G w y) := KI.of_since hsy
    go_enter Tryd.func63, Tryd.ntmps63
    go_wp2_with fail
    refine bodyPost_ret (v := .agg #[.bool true, .int .i64 0, .int .i64 0]) (by simp [results, Tryd.results63, go_sem, *]) rfl ?_
    rw [HD.out]
    exact ⟨_, _, rfl, HBP.out.since (((Since.refl w).alloc _).alloc _), KI.of_since (((Since.refl w).alloc _).alloc _)⟩
set_option maxHeartbeats 2000000 in
set_option maxRecDepth 100000 in
theorem bldS_cat (lr lo hi : Int) (l r : Tr) (hl : BldS l) (hr : BldS r) : BldS (.node ⟨4, lr, lo, hi⟩ l r) := by
    obtain ⟨t, hte⟩ : ∃ t : Tok, t = ⟨4, lr, lo, hi⟩ := ⟨_, rfl⟩
    rw [← hte]
    intro G ls fo lv fv ao n ac w hbp hok hno ha hac hn hn9 hin hlow hfl hfs hlt
    have hok1 := hok
    have HBP := Lib.hid hbp
    have hGw := hbp.blk.lt
    clear hbp
    obtain ⟨htok, hcase⟩ := hok
    have HA := Lib.hid ha
    obtain ⟨_, _, e0, HC⟩ := ha.row
    injection e0 with e1 e2 e3
    subst e1; subst e3
    clear e2 ha
    obtain ⟨q, hq⟩ : ∃ q, q = l.post.length := ⟨_, rfl⟩
    obtain ⟨m, hm⟩ : ∃ m, m = r.post.length := ⟨_, rfl⟩
    have hnn : n = q + m + 1 := by rw [hn, hq, hm, post_len, post_len]; rfl
    have hxl : (Tr.node t l r).post.length = q + m + 1 := by rw [hq, hm]; simp [Tr.post]; omega
    clear hn
    subst hnn
    have hxq : q + m < (Tr.node t l r).post.length := by omega
    have hxt : (Tr.node t l r).post[q + m] = t := by subst hq; subst hm; exact (last_post t l r).2
    have HQ := Lib.hid hq
    have HMM := Lib.hid hm
    clear hq hm
    have HTK1 : Hid ((Tr.node t l r).post.take (q + m) = l.post ++ r.post) := by unfold Hid; rw [show (Tr.node t l r).post = (l.post ++ r.post) ++ [t] from rfl]; exact List.take_left' (by rw [HQ.out, HMM.out, List.length_append])
    obtain ⟨b, off, rfl, hb, c0, c1, c2, c3⟩ := HC.out (q + m) hxq
    have hbG : b < G := hlow b off rfl
    clear hlow
    rw [hxt] at c0 c1 c2 c3
    have HTI : Hid (t.In) := by have hmem := List.getElem_mem hxq; rw [hxt] at hmem; exact hin t hmem
    have HINL : Hid (∀ x ∈ l.post, x.In) := fun x hx => hin x (by simp [Tr.post, hx])
    have HINR : Hid (∀ x ∈ r.post, x.In) := fun x hx => hin x (by simp [Tr.post, hx])
    clear hxt hin hxl
    have HTA : Hid (ToksAt w (.slice (some ⟨b, off, none⟩) (q + m) ac) (l.post ++ r.post)) := by
      unfold Hid; rw [← HTK1.out]; exact toks_takeO HA.out (by omega) _ _ (fun _ _ e => e)
    have hql : Hid (q = l.len) := by unfold Hid; rw [← post_len]; exact HQ.out
    have hmr : Hid (m = r.len) := by unfold Hid; rw [← post_len]; exact HMM.out
    have hkq : ((q + m : Nat) : Int) < ((q + m + 1 : Nat) : Int) := by omega
    have hk0 : (0 : Int) ≤ ((q + m : Nat) : Int) := by omega
    have hqa : q + m ≤ ac := by omega
    have hqai : (q : Int) + (m : Int) ≤ (ac : Int) := by omega
    have hqm0 : (0 : Int) ≤ (q : Int) + (m : Int) := by omega
    have hne : ¬ (ac = q + m) := by omega
    obtain ⟨y, hy⟩ : ∃ y, y = (w.alloc (.cells #[.bool false, .int .i64 0, .int .i64 0] 92)).alloc (.cells #[.int .i64 t.kd, .int .i64 t.lr, .int .i64 t.lo, .int .i64 t.hi] 90) := ⟨_, rfl⟩
    have hsy : Since w y := by rw [hy]; exact ((Since.refl w).alloc _).alloc _
    have BT : Hid (Blk y (w.heap.size + 1) 90 #[.int .i64 t.kd, .int .i64 t.lr, .int .i64 t.lo, .int .i64 t.hi]) := by rw [hy]; exact Blk.new (by simp) _ _
    have BR : Hid (Blk y w.heap.size 92 #[.bool false, .int .i64 0, .int .i64 0]) := by rw [hy]; exact (Blk.new rfl _ _).alloc _
    have hzy : w.heap.size + 2 ≤ y.heap.size := by rw [hy]; simp
    have HY := Lib.hid hy
    obtain ⟨d0, d1, d2, d3, _⟩ := BT.out.four
    rw [hy] at d0 d1 d2 d3
    clear hy
    subst hte
    have hk17 := okT_kd htok
    rw [opN_of] at hcase
    dsimp only at c0 c1 c2 c3 d0 d1 d2 d3 BT HTI HY
    obtain ⟨hlo, hro⟩ : l.ok ∧ r.ok := by
      rcases hcase with ⟨h0, _⟩ | ⟨h1, _⟩ | ⟨_, a, b⟩
      · simp at h0
      · simp at h1
      · exact ⟨a, b⟩
    have HPL : Hid (l.post.length = q) := HQ.out.symm
    have HPR : Hid (r.post.length = m) := HMM.out.symm
    have HSC : Hid (Scan (l.post ++ r.post) l.post.length (l.post ++ r.post).length 1) := scan_two l.post r hro
    have hmp : 0 < m := by rw [HMM.out]; exact post_pos hro
    clear hcase
    obtain ⟨hnl, hnr⟩ : noRep l ∧ noRep r := hno.2
    have hln : ltrN l + ltrN r ≤ 20 - ls.length ∧ ls.length ≤ 20 := by
      have e : ltrN (Tr.node ⟨4, lr, lo, hi⟩ l r) = 0 + ltrN l + ltrN r := by simp [ltrN]
      rw [e] at hlt
      omega
    obtain ⟨g1, g2, g3, g4, g5⟩ := glu_all l 20 ls fo hfl hfs (by omega) (.inr hlo)
    have HLC : Hid (∀ W lv fv, BP G W lv fv ls fo → ToksAt W (.slice (some ⟨b, off, none⟩) q ac) l.post → Calls Tryd.prog 63 #[.pointer (some ⟨G, 0, none⟩), .slice (some ⟨b, off, none⟩) q ac] W (BldOut G W (glu l ls fo))) := fun W lv fv h1 h2 => hl G ls fo lv fv _ q ac W h1 hlo hnl h2 (by omega) hql.out (by omega) HINL.out (fun b' o' e => by injection e with e; injection e with e; omega) hfl hfs (by omega)
    obtain ⟨⟨⟨l1, f1⟩, ⟨n1, fi1, la1⟩⟩, hg1⟩ : ∃ g, g = glu l ls fo := ⟨_, rfl⟩
    rw [← hg1] at g1 g2 g3 g4 g5 HLC
    dsimp only at g1 g2 g3 g4 g5
    obtain ⟨k1, k2, k3, k4, k5⟩ := glu_all r 20 l1 f1 g2 g3 (by omega) (.inr hro)
    have HRC : Hid (∀ W lv fv, BP G W lv fv l1 f1 → ToksAt W (.slice (some ⟨b, off + q * 4, none⟩) m (ac - q)) r.post → Calls Tryd.prog 63 #[.pointer (some ⟨G, 0, none⟩), .slice (some ⟨b, off + q * 4, none⟩) m (ac - q)] W (BldOut G W (glu r l1 f1))) := fun W lv fv h1 h2 => hr G l1 f1 lv fv _ m (ac - q) W h1 hro hnr h2 (by omega) hmr.out (by omega) HINR.out (fun b' o' e => by injection e with e; injection e with e; omega) g2 g3 (by omega)
    obtain ⟨⟨⟨l2, f2⟩, ⟨n2, fi2, la2⟩⟩, hg2⟩ : ∃ g, g = glu r l1 f1 := ⟨_, rfl⟩
    rw [← hg2] at k1 k2 k3 k4 k5 HRC
    dsimp only at k1 k2 k3 k4 k5

    have HD : Hid (glu (Tr.node ⟨4, lr, lo, hi⟩ l r) ls fo = ((l2, linkN f2 la1 fi2), ⟨n1 && n2, if n1 = true then fi1 ||| fi2 else fi1, if n2 = true then la1 ||| la2 else la2⟩)) := by
      unfold Hid
      have e1 : (glu l ls fo).1.1 = l1 := by rw [← hg1]
      have e2 : (glu l ls fo).1.2 = f1 := by rw [← hg1]
      simp only [glu, e1, e2, ← hg2, ← hg1]
      simp
    have HLK : Hid (∀ W lv fv, BP G W lv fv l2 f2 → Calls Tryd.prog 116 #[.pointer (some ⟨G, 0, none⟩), .int .i64 (la1 : Int), .int .i64 (fi2 : Int)] W (LinkOut G W lv fv l2 (linkN f2 la1 fi2))) := fun W lv fv h => l10Link_any G la1 fi2 lv fv l2 f2 W h (by omega) (by omega) g5 k4 k3
    have HO1 := Lib.hid (i64_or_nat fi1 fi2 (by omega) (by omega))
    have HO2 := Lib.hid (i64_or_nat la1 la2 (by omega) (by omega))
    clear hg1 hg2 hl hr hlt hln hfs
    have hne2 : ¬ (ac = q) := by omega
    have hqac : q ≤ ac := by omega
    have hqaci : (q : Int) ≤ (ac : Int) := by omega
    have hqmi : (q : Int) ≤ (q : Int) + (m : Int) := by omega
    have hqma : (q : Int) + (m : Int) ≤ (ac : Int) := by omega
    have hq0 : (0 : Int) ≤ (q : Int) := by omega
    have HT1 : Hid (ToksAt w (.slice (some ⟨b, off, none⟩) q ac) l.post) := by
      have := toks_takeO HTA.out (k := q) (by omega) (some ⟨b, off, none⟩) ac (fun _ _ e => e)
      rwa [show (l.post ++ r.post).take q = l.post from List.take_left' HQ.out.symm] at this
    have HT2 : Hid (ToksAt w (.slice (some ⟨b, off + q * 4, none⟩) m (ac - q)) r.post) := by
      have := toks_dropO HTA.out (k := q) (by omega) (some ⟨b, off + q * 4, none⟩) m (ac - q) (by omega) (fun _ b1 o1 e => by injection e with e; injection e with e1 e2; rw [e1, e2])
      rwa [show (l.post ++ r.post).drop q = r.post from List.drop_left' HQ.out.symm] at this
    go_enter Tryd.func63, Tryd.ntmps63
    go_wp2_with fail
    rw [← HY.out]
    clear c0 c1 c2 c3 d0 d1 d2 d3
    refine (l8Start_any _ (l.post ++ r.post) l.post.length _ (HTA.out.since hsy) HSC.out (by rw [List.length_append, ← HQ.out, ← HMM.out]; omega)).mono ?_
    rintro e w2 ⟨rfl, hs2⟩
    rw [← HQ.out]
    have hyw2 := hsy.trans hs2
    have K2 : Hid (KI G w w2) := KI.of_since hyw2
    have B2 := Lib.hid (HBP.out.since hyw2)
    have R2 := Lib.hid (BR.out.since hs2)
    clear BT BR hs2
    go_wp2_with fail
    try rw [show ((q : Int) + (m : Int)).toNat - q = m from by omega]
    try rw [show ((q : Int) + (m : Int)).toNat = q + m from by omega]
    refine (HLC.out _ _ _ B2.out (toks_low HT1.out hbG K2.out)).mono ?_
    rintro e w3 ⟨lv3, fv3, rfl, hb3, hk3⟩
    rw [frgV]
    have K3 := Lib.hid (K2.out.trans hk3)
    have R3 := Lib.hid (hk3.typed _ _ _ R2.out (by decide) (by decide))
    clear B2 R2 K2
    obtain ⟨w4, hw4⟩ : ∃ w4, w4 = w3.alloc (.cells #[.bool n1, .int .i64 (fi1 : Int), .int .i64 (la1 : Int)] 92) := ⟨_, rfl⟩
    have hs4 : Since w3 w4 := by rw [hw4]; exact (Since.refl w3).alloc _
    have A4 : Hid (Blk w4 w3.heap.size 92 #[.bool n1, .int .i64 (fi1 : Int), .int .i64 (la1 : Int)]) := by rw [hw4]; exact Blk.new rfl _ _
    have B4 := Lib.hid (hb3.since hs4)
    have K4 := Lib.hid (K3.out.trans (KI.of_since hs4))
    have R4 := Lib.hid (R3.out.since hs4)
    have z3 := K3.out.size
    have HW4 := Lib.hid hw4
    clear hw4 hb3 hk3 K3 R3
    go_wp2_with fail
    rw [← HW4.out]
    try rw [show ((q : Int) + (m : Int)).toNat - q = m from by omega]
    try rw [show ((q : Int) + (m : Int)).toNat = q + m from by omega]
    refine (HRC.out _ _ _ B4.out (toks_low HT2.out hbG K4.out)).mono ?_
    rintro e w5 ⟨lv5, fv5, rfl, hb5, hk5⟩
    rw [frgV]
    have K5 := Lib.hid (K4.out.trans hk5)
    have R5 := Lib.hid (hk5.typed _ _ _ R4.out (by decide) (by decide))
    have A5 := Lib.hid (hk5.typed _ _ _ A4.out (by decide) (by decide))
    have z4 := hs4.size
    have z5 := hk5.size
    clear B4 K4 R4 A4
    obtain ⟨w6, hw6⟩ : ∃ w6, w6 = w5.alloc (.cells #[.bool n2, .int .i64 (fi2 : Int), .int .i64 (la2 : Int)] 92) := ⟨_, rfl⟩
    have hs6 : Since w5 w6 := by rw [hw6]; exact (Since.refl w5).alloc _
    have D6 : Hid (Blk w6 w5.heap.size 92 #[.bool n2, .int .i64 (fi2 : Int), .int .i64 (la2 : Int)]) := by rw [hw6]; exact Blk.new rfl _ _
    have B6 := Lib.hid (hb5.since hs6)
    have K6 := Lib.hid (K5.out.trans (KI.of_since hs6))
    have R6 := Lib.hid (R5.out.since hs6)
    have A6 := Lib.hid (A5.out.since hs6)
    have HW6 := Lib.hid hw6
    clear hw6 hb5 hk5 K5 R5 A5
    obtain ⟨⟨a0, a1, a2⟩, _⟩ := A6.out.threeP
    obtain ⟨⟨d0, d1, d2⟩, _⟩ := D6.out.threeP
    rw [HW6.out] at a0 a1 a2 d0 d1 d2
    go_wp2_with fail
    rw [← HW6.out]
    refine (HLK.out _ _ _ B6.out).mono ?_
    rintro e w7 ⟨rfl, hb7, hk7⟩
    have B7 := Lib.hid hb7
    have K7 := Lib.hid (K6.out.trans hk7)
    have R7 := Lib.hid (hk7.typed _ _ _ R6.out (by decide) (by decide))
    have A7 := Lib.hid (hk7.typed _ _ _ A6.out (by decide) (by decide))
    have D7 := Lib.hid (hk7.typed _ _ _ D6.out (by decide) (by decide))
    have zR : w.heap.size < w7.heap.size := R7.out.lt
    clear a0 a1 a2 d0 d1 d2 hb7 hk7 R6 A6 D6 B6 K6

    obtain ⟨⟨a0, a1, a2⟩, _⟩ := A7.out.threeP
    obtain ⟨⟨d0, d1, d2⟩, _⟩ := D7.out.threeP
    obtain ⟨_, r0, r1, r2⟩ := R7.out.threeP
    have zA := A7.out.lt
    have zD := D7.out.lt
    have ho1 := HO1.out
    have ho2 := HO2.out
    cases n1 with
    | false =>
      cases n2 with
      | false =>
        go_wp2_with fail
        refine bodyPost_ret (v := .agg #[.bool false, .int .i64 ((fi1 : Nat) : Int), .int .i64 ((la2 : Nat) : Int)]) (by simp [results, Tryd.results63, go_sem, *]) rfl ?_
        rw [HD.out]
        have hx := bldOut_since (bldOut_box (f := ⟨false, fi1, la2⟩) B7.out K7.out R7.out (Nat.le_refl _) hGw (.bool false) (.int .i64 ((fi1 : Nat) : Int)) (.int .i64 ((la2 : Nat) : Int))) ((Since.refl _).alloc (.cells #[.bool false, .int .i64 ((fi1 : Nat) : Int), .int .i64 ((la2 : Nat) : Int)] 92))
        exact hx
      | true =>
        go_wp2_with fail
        refine bodyPost_ret (v := .agg #[.bool false, .int .i64 ((fi1 : Nat) : Int), .int .i64 ((la1 ||| la2 : Nat) : Int)]) (by simp [results, Tryd.results63, go_sem, *]) rfl ?_
        rw [HD.out]
        have hx := bldOut_since (bldOut_box (f := ⟨false, fi1, la1 ||| la2⟩) B7.out K7.out R7.out (Nat.le_refl _) hGw (.bool false) (.int .i64 ((fi1 : Nat) : Int)) (.int .i64 ((la1 ||| la2 : Nat) : Int))) ((Since.refl _).alloc (.cells #[.bool false, .int .i64 ((fi1 : Nat) : Int), .int .i64 ((la1 ||| la2 : Nat) : Int)] 92))
        exact hx
    | true =>
      cases n2 with
      | false =>
        go_wp2_with fail
        refine bodyPost_ret (v := .agg #[.bool false, .int .i64 ((fi1 ||| fi2 : Nat) : Int), .int .i64 ((la2 : Nat) : Int)]) (by simp [results, Tryd.results63, go_sem, *]) rfl ?_
        rw [HD.out]
        have hx := bldOut_since (bldOut_box (f := ⟨false, fi1 ||| fi2, la2⟩) B7.out K7.out R7.out (Nat.le_refl _) hGw (.bool false) (.int .i64 ((fi1 ||| fi2 : Nat) : Int)) (.int .i64 ((la2 : Nat) : Int))) ((Since.refl _).alloc (.cells #[.bool false, .int .i64 ((fi1 ||| fi2 : Nat) : Int), .int .i64 ((la2 : Nat) : Int)] 92))
        exact hx
      | true =>
        go_wp2_with fail
        refine bodyPost_ret (v := .agg #[.bool true, .int .i64 ((fi1 ||| fi2 : Nat) : Int), .int .i64 ((la1 ||| la2 : Nat) : Int)]) (by simp [results, Tryd.results63, go_sem, *]) rfl ?_
        rw [HD.out]
        have hx := bldOut_since (bldOut_box (f := ⟨true, fi1 ||| fi2, la1 ||| la2⟩) B7.out K7.out R7.out (Nat.le_refl _) hGw (.bool true) (.int .i64 ((fi1 ||| fi2 : Nat) : Int)) (.int .i64 ((la1 ||| la2 : Nat) : Int))) ((Since.refl _).alloc (.cells #[.bool true, .int .i64 ((fi1 ||| fi2 : Nat) : Int), .int .i64 ((la1 ||| la2 : Nat) : Int)] 92))
        exact hx
set_option maxHeartbeats 2000000 in
set_option maxRecDepth 100000 in
theorem bldS_uni (lr lo hi : Int) (l r : Tr) (hl : BldS l) (hr : BldS r) : BldS (.node ⟨5, lr, lo, hi⟩ l r) := by
    obtain ⟨t, hte⟩ : ∃ t : Tok, t = ⟨5, lr, lo, hi⟩ := ⟨_, rfl⟩
    rw [← hte]
    intro G ls fo lv fv ao n ac w hbp hok hno ha hac hn hn9 hin hlow hfl hfs hlt
    have hok1 := hok
    have HBP := Lib.hid hbp
    have hGw := hbp.blk.lt
    clear hbp
    obtain ⟨htok, hcase⟩ := hok
    have HA := Lib.hid ha
    obtain ⟨_, _, e0, HC⟩ := ha.row
    injection e0 with e1 e2 e3
    subst e1; subst e3
    clear e2 ha
    obtain ⟨q, hq⟩ : ∃ q, q = l.post.length := ⟨_, rfl⟩
    obtain ⟨m, hm⟩ : ∃ m, m = r.post.length := ⟨_, rfl⟩
    have hnn : n = q + m + 1 := by rw [hn, hq, hm, post_len, post_len]; rfl
    have hxl : (Tr.node t l r).post.length = q + m + 1 := by rw [hq, hm]; simp [Tr.post]; omega
    clear hn
    subst hnn
    have hxq : q + m < (Tr.node t l r).post.length := by omega
    have hxt : (Tr.node t l r).post[q + m] = t := by subst hq; subst hm; exact (last_post t l r).2
    have HQ := Lib.hid hq
    have HMM := Lib.hid hm
    clear hq hm
    have HTK1 : Hid ((Tr.node t l r).post.take (q + m) = l.post ++ r.post) := by unfold Hid; rw [show (Tr.node t l r).post = (l.post ++ r.post) ++ [t] from rfl]; exact List.take_left' (by rw [HQ.out, HMM.out, List.length_append])
    obtain ⟨b, off, rfl, hb, c0, c1, c2, c3⟩ := HC.out (q + m) hxq
    have hbG : b < G := hlow b off rfl
    clear hlow
    rw [hxt] at c0 c1 c2 c3
    have HTI : Hid (t.In) := by have hmem := List.getElem_mem hxq; rw [hxt] at hmem; exact hin t hmem
    have HINL : Hid (∀ x ∈ l.post, x.In) := fun x hx => hin x (by simp [Tr.post, hx])
    have HINR : Hid (∀ x ∈ r.post, x.In) := fun x hx => hin x (by simp [Tr.post, hx])
    clear hxt hin hxl
    have HTA : Hid (ToksAt w (.slice (some ⟨b, off, none⟩) (q + m) ac) (l.post ++ r.post)) := by
      unfold Hid; rw [← HTK1.out]; exact toks_takeO HA.out (by omega) _ _ (fun _ _ e => e)
    have hql : Hid (q = l.len) := by unfold Hid; rw [← post_len]; exact HQ.out
    have hmr : Hid (m = r.len) := by unfold Hid; rw [← post_len]; exact HMM.out
    have hkq : ((q + m : Nat) : Int) < ((q + m + 1 : Nat) : Int) := by omega
    have hk0 : (0 : Int) ≤ ((q + m : Nat) : Int) := by omega
    have hqa : q + m ≤ ac := by omega
    have hqai : (q : Int) + (m : Int) ≤ (ac : Int) := by omega
    have hqm0 : (0 : Int) ≤ (q : Int) + (m : Int) := by omega
    have hne : ¬ (ac = q + m) := by omega
    obtain ⟨y, hy⟩ : ∃ y, y = (w.alloc (.cells #[.bool false, .int .i64 0, .int .i64 0] 92)).alloc (.cells #[.int .i64 t.kd, .int .i64 t.lr, .int .i64 t.lo, .int .i64 t.hi] 90) := ⟨_, rfl⟩
    have hsy : Since w y := by rw [hy]; exact ((Since.refl w).alloc _).alloc _
    have BT : Hid (Blk y (w.heap.size + 1) 90 #[.int .i64 t.kd, .int .i64 t.lr, .int .i64 t.lo, .int .i64 t.hi]) := by rw [hy]; exact Blk.new (by simp) _ _
    have BR : Hid (Blk y w.heap.size 92 #[.bool false, .int .i64 0, .int .i64 0]) := by rw [hy]; exact (Blk.new rfl _ _).alloc _
    have hzy : w.heap.size + 2 ≤ y.heap.size := by rw [hy]; simp
    have HY := Lib.hid hy
    obtain ⟨d0, d1, d2, d3, _⟩ := BT.out.four
    rw [hy] at d0 d1 d2 d3
    clear hy
    subst hte
    have hk17 := okT_kd htok
    rw [opN_of] at hcase
    dsimp only at c0 c1 c2 c3 d0 d1 d2 d3 BT HTI HY
    obtain ⟨hlo, hro⟩ : l.ok ∧ r.ok := by
      rcases hcase with ⟨h0, _⟩ | ⟨h1, _⟩ | ⟨_, a, b⟩
      · simp at h0
      · simp at h1
      · exact ⟨a, b⟩
    have HPL : Hid (l.post.length = q) := HQ.out.symm
    have HPR : Hid (r.post.length = m) := HMM.out.symm
    have HSC : Hid (Scan (l.post ++ r.post) l.post.length (l.post ++ r.post).length 1) := scan_two l.post r hro
    have hmp : 0 < m := by rw [HMM.out]; exact post_pos hro
    clear hcase
    obtain ⟨hnl, hnr⟩ : noRep l ∧ noRep r := hno.2
    have hln : ltrN l + ltrN r ≤ 20 - ls.length ∧ ls.length ≤ 20 := by
      have e : ltrN (Tr.node ⟨5, lr, lo, hi⟩ l r) = 0 + ltrN l + ltrN r := by simp [ltrN]
      rw [e] at hlt
      omega
    obtain ⟨g1, g2, g3, g4, g5⟩ := glu_all l 20 ls fo hfl hfs (by omega) (.inr hlo)
    have HLC : Hid (∀ W lv fv, BP G W lv fv ls fo → ToksAt W (.slice (some ⟨b, off, none⟩) q ac) l.post → Calls Tryd.prog 63 #[.pointer (some ⟨G, 0, none⟩), .slice (some ⟨b, off, none⟩) q ac] W (BldOut G W (glu l ls fo))) := fun W lv fv h1 h2 => hl G ls fo lv fv _ q ac W h1 hlo hnl h2 (by omega) hql.out (by omega) HINL.out (fun b' o' e => by injection e with e; injection e with e; omega) hfl hfs (by omega)
    obtain ⟨⟨⟨l1, f1⟩, ⟨n1, fi1, la1⟩⟩, hg1⟩ : ∃ g, g = glu l ls fo := ⟨_, rfl⟩
    rw [← hg1] at g1 g2 g3 g4 g5 HLC
    dsimp only at g1 g2 g3 g4 g5
    obtain ⟨k1, k2, k3, k4, k5⟩ := glu_all r 20 l1 f1 g2 g3 (by omega) (.inr hro)
    have HRC : Hid (∀ W lv fv, BP G W lv fv l1 f1 → ToksAt W (.slice (some ⟨b, off + q * 4, none⟩) m (ac - q)) r.post → Calls Tryd.prog 63 #[.pointer (some ⟨G, 0, none⟩), .slice (some ⟨b, off + q * 4, none⟩) m (ac - q)] W (BldOut G W (glu r l1 f1))) := fun W lv fv h1 h2 => hr G l1 f1 lv fv _ m (ac - q) W h1 hro hnr h2 (by omega) hmr.out (by omega) HINR.out (fun b' o' e => by injection e with e; injection e with e; omega) g2 g3 (by omega)
    obtain ⟨⟨⟨l2, f2⟩, ⟨n2, fi2, la2⟩⟩, hg2⟩ : ∃ g, g = glu r l1 f1 := ⟨_, rfl⟩
    rw [← hg2] at k1 k2 k3 k4 k5 HRC
    dsimp only at k1 k2 k3 k4 k5

    have HD : Hid (glu (Tr.node ⟨5, lr, lo, hi⟩ l r) ls fo = ((l2, f2), ⟨n1 || n2, fi1 ||| fi2, la1 ||| la2⟩)) := by
      unfold Hid
      have e1 : (glu l ls fo).1.1 = l1 := by rw [← hg1]
      have e2 : (glu l ls fo).1.2 = f1 := by rw [← hg1]
      simp only [glu, e1, e2, ← hg2, ← hg1]
      simp
    have HO1 := Lib.hid (i64_or_nat fi1 fi2 (by omega) (by omega))
    have HO2 := Lib.hid (i64_or_nat la1 la2 (by omega) (by omega))
    clear hg1 hg2 hl hr hlt hln hfs
    have hne2 : ¬ (ac = q) := by omega
    have hqac : q ≤ ac := by omega
    have hqaci : (q : Int) ≤ (ac : Int) := by omega
    have hqmi : (q : Int) ≤ (q : Int) + (m : Int) := by omega
    have hqma : (q : Int) + (m : Int) ≤ (ac : Int) := by omega
    have hq0 : (0 : Int) ≤ (q : Int) := by omega
    have HT1 : Hid (ToksAt w (.slice (some ⟨b, off, none⟩) q ac) l.post) := by
      have := toks_takeO HTA.out (k := q) (by omega) (some ⟨b, off, none⟩) ac (fun _ _ e => e)
      rwa [show (l.post ++ r.post).take q = l.post from List.take_left' HQ.out.symm] at this
    have HT2 : Hid (ToksAt w (.slice (some ⟨b, off + q * 4, none⟩) m (ac - q)) r.post) := by
      have := toks_dropO HTA.out (k := q) (by omega) (some ⟨b, off + q * 4, none⟩) m (ac - q) (by omega) (fun _ b1 o1 e => by injection e with e; injection e with e1 e2; rw [e1, e2])
      rwa [show (l.post ++ r.post).drop q = r.post from List.drop_left' HQ.out.symm] at this
    go_enter Tryd.func63, Tryd.ntmps63
    go_wp2_with fail
    rw [← HY.out]
    clear c0 c1 c2 c3 d0 d1 d2 d3
    refine (l8Start_any _ (l.post ++ r.post) l.post.length _ (HTA.out.since hsy) HSC.out (by rw [List.length_append, ← HQ.out, ← HMM.out]; omega)).mono ?_
    rintro e w2 ⟨rfl, hs2⟩
    rw [← HQ.out]
    have hyw2 := hsy.trans hs2
    have K2 : Hid (KI G w w2) := KI.of_since hyw2
    have B2 := Lib.hid (HBP.out.since hyw2)
    have R2 := Lib.hid (BR.out.since hs2)
    clear BT BR hs2
    go_wp2_with fail
    try rw [show ((q : Int) + (m : Int)).toNat - q = m from by omega]
    try rw [show ((q : Int) + (m : Int)).toNat = q + m from by omega]
    refine (HLC.out _ _ _ B2.out (toks_low HT1.out hbG K2.out)).mono ?_
    rintro e w3 ⟨lv3, fv3, rfl, hb3, hk3⟩
    rw [frgV]
    have K3 := Lib.hid (K2.out.trans hk3)
    have R3 := Lib.hid (hk3.typed _ _ _ R2.out (by decide) (by decide))
    clear B2 R2 K2
    obtain ⟨w4, hw4⟩ : ∃ w4, w4 = w3.alloc (.cells #[.bool n1, .int .i64 (fi1 : Int), .int .i64 (la1 : Int)] 92) := ⟨_, rfl⟩
    have hs4 : Since w3 w4 := by rw [hw4]; exact (Since.refl w3).alloc _
    have A4 : Hid (Blk w4 w3.heap.size 92 #[.bool n1, .int .i64 (fi1 : Int), .int .i64 (la1 : Int)]) := by rw [hw4]; exact Blk.new rfl _ _
    have B4 := Lib.hid (hb3.since hs4)
    have K4 := Lib.hid (K3.out.trans (KI.of_since hs4))
    have R4 := Lib.hid (R3.out.since hs4)
    have z3 := K3.out.size
    have HW4 := Lib.hid hw4
    clear hw4 hb3 hk3 K3 R3
    go_wp2_with fail
    rw [← HW4.out]
    try rw [show ((q : Int) + (m : Int)).toNat - q = m from by omega]
    try rw [show ((q : Int) + (m : Int)).toNat = q + m from by omega]
    refine (HRC.out _ _ _ B4.out (toks_low HT2.out hbG K4.out)).mono ?_
    rintro e w5 ⟨lv5, fv5, rfl, hb5, hk5⟩
    rw [frgV]
    have K5 := Lib.hid (K4.out.trans hk5)
    have R5 := Lib.hid (hk5.typed _ _ _ R4.out (by decide) (by decide))
    have A5 := Lib.hid (hk5.typed _ _ _ A4.out (by decide) (by decide))
    have z4 := hs4.size
    have z5 := hk5.size
    clear B4 K4 R4 A4
    obtain ⟨w6, hw6⟩ : ∃ w6, w6 = w5.alloc (.cells #[.bool n2, .int .i64 (fi2 : Int), .int .i64 (la2 : Int)] 92) := ⟨_, rfl⟩
    have hs6 : Since w5 w6 := by rw [hw6]; exact (Since.refl w5).alloc _
    have D6 : Hid (Blk w6 w5.heap.size 92 #[.bool n2, .int .i64 (fi2 : Int), .int .i64 (la2 : Int)]) := by rw [hw6]; exact Blk.new rfl _ _
    have B6 := Lib.hid (hb5.since hs6)
    have K6 := Lib.hid (K5.out.trans (KI.of_since hs6))
    have R6 := Lib.hid (R5.out.since hs6)
    have A6 := Lib.hid (A5.out.since hs6)
    have HW6 := Lib.hid hw6
    clear hw6 hb5 hk5 K5 R5 A5
    obtain ⟨⟨a0, a1, a2⟩, _⟩ := A6.out.threeP
    obtain ⟨⟨d0, d1, d2⟩, _⟩ := D6.out.threeP
    obtain ⟨⟨e0, e1, e2⟩, r0, r1, r2⟩ := R6.out.threeP
    rw [HW6.out] at a0 a1 a2 d0 d1 d2 e0 e1 e2 r0 r1 r2
    have ho1 := HO1.out
    have ho2 := HO2.out
    cases n1 with
    | false =>
      cases n2 with
      | false =>
        go_wp2_with fail
        refine bodyPost_ret (v := .agg #[.bool false, .int .i64 ((fi1 ||| fi2 : Nat) : Int), .int .i64 ((la1 ||| la2 : Nat) : Int)]) (by simp [results, Tryd.results63, go_sem, *]) rfl ?_
        rw [HD.out]
        have hx := bldOut_box (f := ⟨false, fi1 ||| fi2, la1 ||| la2⟩) B6.out K6.out R6.out (Nat.le_refl _) hGw (.bool false) (.int .i64 ((fi1 ||| fi2 : Nat) : Int)) (.int .i64 ((la1 ||| la2 : Nat) : Int))
        first
          | exact hx
          | (rw [HW6.out] at hx; exact hx)
      | true =>
        go_wp2_with fail
        refine bodyPost_ret (v := .agg #[.bool true, .int .i64 ((fi1 ||| fi2 : Nat) : Int), .int .i64 ((la1 ||| la2 : Nat) : Int)]) (by simp [results, Tryd.results63, go_sem, *]) rfl ?_
        rw [HD.out]
        have hx := bldOut_box (f := ⟨true, fi1 ||| fi2, la1 ||| la2⟩) B6.out K6.out R6.out (Nat.le_refl _) hGw (.bool true) (.int .i64 ((fi1 ||| fi2 : Nat) : Int)) (.int .i64 ((la1 ||| la2 : Nat) : Int))
        first
          | exact hx
          | (rw [HW6.out] at hx; exact hx)
    | true =>
      cases n2 with
      | false =>
        go_wp2_with fail
        refine bodyPost_ret (v := .agg #[.bool true, .int .i64 ((fi1 ||| fi2 : Nat) : Int), .int .i64 ((la1 ||| la2 : Nat) : Int)]) (by simp [results, Tryd.results63, go_sem, *]) rfl ?_
        rw [HD.out]
        have hx := bldOut_box (f := ⟨true, fi1 ||| fi2, la1 ||| la2⟩) B6.out K6.out R6.out (Nat.le_refl _) hGw (.bool true) (.int .i64 ((fi1 ||| fi2 : Nat) : Int)) (.int .i64 ((la1 ||| la2 : Nat) : Int))
        first
          | exact hx
          | (rw [HW6.out] at hx; exact hx)
      | true =>
        go_wp2_with fail
        refine bodyPost_ret (v := .agg #[.bool true, .int .i64 ((fi1 ||| fi2 : Nat) : Int), .int .i64 ((la1 ||| la2 : Nat) : Int)]) (by simp [results, Tryd.results63, go_sem, *]) rfl ?_
        rw [HD.out]
        have hx := bldOut_box (f := ⟨true, fi1 ||| fi2, la1 ||| la2⟩) B6.out K6.out R6.out (Nat.le_refl _) hGw (.bool true) (.int .i64 ((fi1 ||| fi2 : Nat) : Int)) (.int .i64 ((la1 ||| la2 : Nat) : Int))
        first
          | exact hx
          | (rw [HW6.out] at hx; exact hx)
set_option maxHeartbeats 2000000 in
set_option maxRecDepth 100000 in
theorem bldS_star (lr lo hi : Int) (l r : Tr) (hl : BldS l) (hr : BldS r) : BldS (.node ⟨6, lr, lo, hi⟩ l r) := by
    obtain ⟨t, hte⟩ : ∃ t : Tok, t = ⟨6, lr, lo, hi⟩ := ⟨_, rfl⟩
    rw [← hte]
    intro G ls fo lv fv ao n ac w hbp hok hno ha hac hn hn9 hin hlow hfl hfs hlt
    have hok1 := hok
    have HBP := Lib.hid hbp
    have hGw := hbp.blk.lt
    clear hbp
    obtain ⟨htok, hcase⟩ := hok
    have HA := Lib.hid ha
    obtain ⟨_, _, e0, HC⟩ := ha.row
    injection e0 with e1 e2 e3
    subst e1; subst e3
    clear e2 ha
    obtain ⟨q, hq⟩ : ∃ q, q = l.post.length := ⟨_, rfl⟩
    obtain ⟨m, hm⟩ : ∃ m, m = r.post.length := ⟨_, rfl⟩
    have hnn : n = q + m + 1 := by rw [hn, hq, hm, post_len, post_len]; rfl
    have hxl : (Tr.node t l r).post.length = q + m + 1 := by rw [hq, hm]; simp [Tr.post]; omega
    clear hn
    subst hnn
    have hxq : q + m < (Tr.node t l r).post.length := by omega
    have hxt : (Tr.node t l r).post[q + m] = t := by subst hq; subst hm; exact (last_post t l r).2
    have HQ := Lib.hid hq
    have HMM := Lib.hid hm
    clear hq hm
    have HTK1 : Hid ((Tr.node t l r).post.take (q + m) = l.post ++ r.post) := by unfold Hid; rw [show (Tr.node t l r).post = (l.post ++ r.post) ++ [t] from rfl]; exact List.take_left' (by rw [HQ.out, HMM.out, List.length_append])
    obtain ⟨b, off, rfl, hb, c0, c1, c2, c3⟩ := HC.out (q + m) hxq
    have hbG : b < G := hlow b off rfl
    clear hlow
    rw [hxt] at c0 c1 c2 c3
    have HTI : Hid (t.In) := by have hmem := List.getElem_mem hxq; rw [hxt] at hmem; exact hin t hmem
    have HINL : Hid (∀ x ∈ l.post, x.In) := fun x hx => hin x (by simp [Tr.post, hx])
    have HINR : Hid (∀ x ∈ r.post, x.In) := fun x hx => hin x (by simp [Tr.post, hx])
    clear hxt hin hxl
    have HTA : Hid (ToksAt w (.slice (some ⟨b, off, none⟩) (q + m) ac) (l.post ++ r.post)) := by
      unfold Hid; rw [← HTK1.out]; exact toks_takeO HA.out (by omega) _ _ (fun _ _ e => e)
    have hql : Hid (q = l.len) := by unfold Hid; rw [← post_len]; exact HQ.out
    have hmr : Hid (m = r.len) := by unfold Hid; rw [← post_len]; exact HMM.out
    have hkq : ((q + m : Nat) : Int) < ((q + m + 1 : Nat) : Int) := by omega
    have hk0 : (0 : Int) ≤ ((q + m : Nat) : Int) := by omega
    have hqa : q + m ≤ ac := by omega
    have hqai : (q : Int) + (m : Int) ≤ (ac : Int) := by omega
    have hqm0 : (0 : Int) ≤ (q : Int) + (m : Int) := by omega
    have hne : ¬ (ac = q + m) := by omega
    obtain ⟨y, hy⟩ : ∃ y, y = (w.alloc (.cells #[.bool false, .int .i64 0, .int .i64 0] 92)).alloc (.cells #[.int .i64 t.kd, .int .i64 t.lr, .int .i64 t.lo, .int .i64 t.hi] 90) := ⟨_, rfl⟩
    have hsy : Since w y := by rw [hy]; exact ((Since.refl w).alloc _).alloc _
    have BT : Hid (Blk y (w.heap.size + 1) 90 #[.int .i64 t.kd, .int .i64 t.lr, .int .i64 t.lo, .int .i64 t.hi]) := by rw [hy]; exact Blk.new (by simp) _ _
    have BR : Hid (Blk y w.heap.size 92 #[.bool false, .int .i64 0, .int .i64 0]) := by rw [hy]; exact (Blk.new rfl _ _).alloc _
    have hzy : w.heap.size + 2 ≤ y.heap.size := by rw [hy]; simp
    have HY := Lib.hid hy
    obtain ⟨d0, d1, d2, d3, _⟩ := BT.out.four
    rw [hy] at d0 d1 d2 d3
    clear hy
    subst hte
    have hk17 := okT_kd htok
    rw [opN_of] at hcase
    dsimp only at c0 c1 c2 c3 d0 d1 d2 d3 BT HTI HY
    obtain ⟨hlo, rfl⟩ : l.ok ∧ r = .nil := by
      rcases hcase with ⟨h0, _⟩ | ⟨_, a, b⟩ | ⟨h2, _⟩
      · simp at h0
      · exact ⟨a, b⟩
      · simp at h2
    have hm0 : m = 0 := HMM.out
    have hlq : Hid (q + m = l.len) := by unfold Hid; rw [← post_len, hm0, HQ.out]; rfl
    have HPL : Hid (l.post.length = q + m) := by unfold Hid; rw [hm0, HQ.out]; rfl
    clear hcase hm0
    have HT1 : Hid (ToksAt w (.slice (some ⟨b, off, none⟩) (q + m) ac) l.post) := by have := HTA.out; rwa [show l.post ++ Tr.nil.post = l.post from List.append_nil _] at this
    have hnl : noRep l := hno.2.1
    have hln : ltrN l ≤ 20 - ls.length ∧ ls.length ≤ 20 := by
      have e : ltrN (Tr.node ⟨6, lr, lo, hi⟩ l .nil) = ltrN l := by simp [ltrN]
      rw [e] at hlt
      omega
    obtain ⟨g1, g2, g3, g4, g5⟩ := glu_all l 20 ls fo hfl hfs (by omega) (.inr hlo)
    have HLC : Hid (∀ W lv fv, BP G W lv fv ls fo → ToksAt W (.slice (some ⟨b, off, none⟩) (q + m) ac) l.post → Calls Tryd.prog 63 #[.pointer (some ⟨G, 0, none⟩), .slice (some ⟨b, off, none⟩) (q + m) ac] W (BldOut G W (glu l ls fo))) := fun W lv fv h1 h2 => hl G ls fo lv fv _ (q + m) ac W h1 hlo hnl h2 (by omega) hlq.out (by omega) HINL.out (fun b' o' e => by injection e with e; injection e with e; omega) hfl hfs (by omega)
    obtain ⟨⟨⟨l1, f1⟩, ⟨n1, fi1, la1⟩⟩, hg1⟩ : ∃ g, g = glu l ls fo := ⟨_, rfl⟩
    rw [← hg1] at g1 g2 g3 g4 g5 HLC
    dsimp only at g1 g2 g3 g4 g5

    have HD : Hid (glu (Tr.node ⟨6, lr, lo, hi⟩ l .nil) ls fo = ((l1, linkN f1 la1 fi1), ⟨true, fi1, la1⟩)) := by
      unfold Hid
      simp only [glu, ← hg1]
      simp
    have HLK : Hid (∀ W lv fv, BP G W lv fv l1 f1 → Calls Tryd.prog 116 #[.pointer (some ⟨G, 0, none⟩), .int .i64 (la1 : Int), .int .i64 (fi1 : Int)] W (LinkOut G W lv fv l1 (linkN f1 la1 fi1))) := fun W lv fv h => l10Link_any G la1 fi1 lv fv l1 f1 W h (by omega) (by omega) g5 g4 g3
    clear hg1 hl hr hlt hln hfs
    go_enter Tryd.func63, Tryd.ntmps63
    go_wp2_with fail
    rw [← HY.out]
    clear c0 c1 c2 c3 d0 d1 d2 d3
    have K2 : Hid (KI G w y) := KI.of_since hsy
    have B2 := Lib.hid (HBP.out.since hsy)
    try rw [show ((q : Int) + (m : Int)).toNat - q = m from by omega]
    try rw [show ((q : Int) + (m : Int)).toNat = q + m from by omega]
    refine (HLC.out _ _ _ B2.out (toks_low HT1.out hbG K2.out)).mono ?_
    rintro e w3 ⟨lv3, fv3, rfl, hb3, hk3⟩
    rw [frgV]
    have K3 := Lib.hid (K2.out.trans hk3)
    have R3 := Lib.hid (hk3.typed _ _ _ BR.out (by decide) (by decide))
    obtain ⟨w4, hw4⟩ : ∃ w4, w4 = w3.alloc (.cells #[.bool n1, .int .i64 (fi1 : Int), .int .i64 (la1 : Int)] 92) := ⟨_, rfl⟩
    have hs4 : Since w3 w4 := by rw [hw4]; exact (Since.refl w3).alloc _
    have A4 : Hid (Blk w4 w3.heap.size 92 #[.bool n1, .int .i64 (fi1 : Int), .int .i64 (la1 : Int)]) := by rw [hw4]; exact Blk.new rfl _ _
    have B4 := Lib.hid (hb3.since hs4)
    have K4 := Lib.hid (K3.out.trans (KI.of_since hs4))
    have R4 := Lib.hid (R3.out.since hs4)
    have HW4 := Lib.hid hw4
    clear hw4 hb3 hk3 K3 R3 K2 B2
    obtain ⟨⟨a0, a1, a2⟩, _⟩ := A4.out.threeP
    rw [HW4.out] at a0 a1 a2
    go_wp2_with fail
    rw [← HW4.out]
    refine (HLK.out _ _ _ B4.out).mono ?_
    rintro e w7 ⟨rfl, hb7, hk7⟩
    have B7 := Lib.hid hb7
    have K7 := Lib.hid (K4.out.trans hk7)
    have R7 := Lib.hid (hk7.typed _ _ _ R4.out (by decide) (by decide))
    have A7 := Lib.hid (hk7.typed _ _ _ A4.out (by decide) (by decide))
    clear a0 a1 a2 hb7 hk7
    obtain ⟨⟨a0, a1, a2⟩, _⟩ := A7.out.threeP
    obtain ⟨_, r0, r1, r2⟩ := R7.out.threeP
    go_wp2_with fail
    refine bodyPost_ret (v := .agg #[.bool true, .int .i64 (fi1 : Int), .int .i64 (la1 : Int)]) (by simp [results, Tryd.results63, go_sem, *]) rfl ?_
    rw [HD.out]
    exact bldOut_box (f := ⟨true, fi1, la1⟩) B7.out K7.out R7.out (Nat.le_refl _) hGw (.bool true) (.int .i64 (fi1 : Int)) (.int .i64 (la1 : Int))
end Go.Proofs.YtblmiocjhbpklaaDoor
