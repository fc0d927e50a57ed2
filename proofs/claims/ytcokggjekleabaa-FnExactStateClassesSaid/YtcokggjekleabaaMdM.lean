/- Machines: the automaton being made, state by state. -/
import Derived.Test.YtcokggjekleabaaMcM
namespace Go.Proofs.Ytcokggjekleabaa
set_option maxRecDepth 100000
open Go.ChangeShapes Go.WideShapes Go.ChangeAt Go.RowKit Go.Maps
set_option linter.unusedVariables false
set_option linter.unusedSimpArgs false

theorem sameKey_KY (a b : Int) : (KY a).sameKey (KY b) = decide (a = b) := by simp [Lit.sameKey]
theorem grown_set (w : World) (r i : Nat) (u : Value) : w.grownBy (w.setCell ⟨r, i, none⟩ u) (some r) :=
  ⟨rfl, rfl, rfl, by simp [World.setCell], fun k _ hn => Below.heap_setCell w ⟨r, i, none⟩ u k (by intro e; apply hn; rw [e])⟩
theorem FillM.keep {lo g n : Nat} {wr w2 : World} {dn : Nat → Prop} {xs : List (List Int)} (h : FillM lo g wr n dn xs) {r : Nat} (hs : wr.grownBy w2 (some r)) (hr : ∀ cs t fz, wr.heap[r]? = some (.cells cs t fz) → t ≠ 3 ∧ t ≠ 30) : FillM lo g w2 n dn xs := by
  obtain ⟨ps, h1, h2, h3, h4⟩ := h
  refine ⟨ps, h1, h2.kept hs (.inr fun e => ?_), fun i hi h => (h3 i hi h).imp (fun k => k.grownX hs (.inr fun e => ?_)) id, h4⟩
  · obtain ⟨cs, fz, hq⟩ := own_block_of h2 r (by rw [e])
    exact (hr _ _ _ hq).2 rfl
  · obtain ⟨cs, fz, hq⟩ := own_block_of k.2 r (by rw [e])
    exact (hr _ _ _ hq).1 rfl
theorem ranges_nocells {P : Program} {k : TypeId} {R : Value → Option (DU × List MemPlace)} {w : World} {b r n : Nat} {D : DU} {left : Lit → Bool} {cnt : Nat} (h : w.ranges P k R b r n D left cnt) : ∀ cs t fz, w.heap[r]? ≠ some (.cells cs t fz) := by
  obtain ⟨_, _, _, _, _, _, _, _, _, hit, _⟩ := h
  intro cs t fz e
  rw [hit] at e
  cases e
theorem ranges_since {P : Program} {k : TypeId} {R : Value → Option (DU × List MemPlace)} {w w' : World} {b r n : Nat} {D : DU} {left : Lit → Bool} {cnt : Nat} (h : w.ranges P k R b r n D left cnt) (s : Since w w') : w'.ranges P k R b r n D left cnt :=
  h.kept (row := none) ⟨s.os, s.tape, s.output, s.size, fun i hi _ => s.block i hi⟩ (by simp) (by simp)
theorem ranges_set {P : Program} {k : TypeId} {R : Value → Option (DU × List MemPlace)} {w : World} {b r n : Nat} {D : DU} {left : Lit → Bool} {cnt : Nat} (h : w.ranges P k R b r n D left cnt) {q : Nat} {cs : Array Value} {t : TypeId} {fz : Nat × Nat} (hq : w.heap[q]? = some (.cells cs t fz)) (i : Nat) (u : Value) : (w.setCell ⟨q, i, none⟩ u).ranges P k R b r n D left cnt :=
  h.kept (grown_set w q i u) (fun e => by
    injection e with e
    subst e
    obtain ⟨_, _, _, _, _, hb, _⟩ := h
    rw [hq] at hb; cases hb) (fun e => by
    injection e with e
    subst e
    exact ranges_nocells h _ _ _ hq)
theorem nodup_inj {fs : List Int} (hd : fs.Nodup) {i j : Nat} (hi : i < fs.length) (hj : j < fs.length) (e : fs[i] = fs[j]) : i = j := by
  have h1 := posN_at fs hd i hi
  rw [e, posN_at fs hd j hj] at h1
  exact h1.symm
def DnL (fs : List Int) (left : Lit → Bool) (i : Nat) : Prop := ∀ h : i < fs.length, left (KY fs[i]) = false
/-- An automaton of n states has been made, nothing in it: its blocks. -/
def MadeA (W1 wx : World) (p : Value) (n : Nat) : Prop :=
  ∃ gb gi ga, p = .pointer (some ⟨ga, 0, none⟩) ∧ (W1.heap.size ≤ gb ∧ W1.heap.size ≤ gi ∧ W1.heap.size ≤ ga) ∧ (gb ≠ gi ∧ gb ≠ ga ∧ gi ≠ ga) ∧ OwnBo W1.heap.size wx (.slice (some ⟨gb, 0, none⟩) n n) (List.replicate n false) ∧
    wx.ownsRow W1.heap.size 30 1 (.slice (some ⟨gi, 0, none⟩) n n) n (List.replicate n nilS) ∧ Blk wx ga 27 #[.int .i64 0, .slice (some ⟨gb, 0, none⟩) n n, .slice (some ⟨gi, 0, none⟩) n n] ∧ Since W1 wx
theorem madeA_new {W1 wx : World} {n gb gi ga : Nat} (hga : ga = wx.heap.size) (h0 : W1.heap.size ≤ gb ∧ W1.heap.size ≤ gi ∧ gb < wx.heap.size ∧ gi < wx.heap.size) (h1 : gb ≠ gi) (hb : OwnBo W1.heap.size wx (.slice (some ⟨gb, 0, none⟩) n n) (List.replicate n false))
    (hr : wx.ownsRow W1.heap.size 30 1 (.slice (some ⟨gi, 0, none⟩) n n) n (List.replicate n nilS)) (hs : Since W1 wx) :
    MadeA W1 (wx.alloc (.cells #[.int .i64 0, .slice (some ⟨gb, 0, none⟩) n n, .slice (some ⟨gi, 0, none⟩) n n] 27)) (.pointer (some ⟨ga, 0, none⟩)) n := by
  have k : Since wx (wx.alloc (.cells #[.int .i64 0, .slice (some ⟨gb, 0, none⟩) n n, .slice (some ⟨gi, 0, none⟩) n n] 27)) := (Since.refl wx).alloc _
  have := hs.size
  exact ⟨gb, gi, ga, rfl, ⟨h0.1, h0.2.1, by omega⟩, ⟨h1, by omega, by omega⟩, hb.since k, row_since hr k, Blk.new hga _ _, hs.trans k⟩
theorem madeA_set {W1 wx : World} {n gb gi ga : Nat} {z0 z1 z2 : Value} (h0 : W1.heap.size ≤ gb ∧ W1.heap.size ≤ gi ∧ W1.heap.size ≤ ga) (h1 : gb ≠ gi ∧ gb ≠ ga ∧ gi ≠ ga) (hb : OwnBo W1.heap.size wx (.slice (some ⟨gb, 0, none⟩) n n) (List.replicate n false))
    (hr : wx.ownsRow W1.heap.size 30 1 (.slice (some ⟨gi, 0, none⟩) n n) n (List.replicate n nilS)) (hx : Blk wx ga 27 #[z0, z1, z2]) (hs : Since W1 wx) :
    MadeA W1 (((wx.setCell ⟨ga, 0, none⟩ (.int .i64 0)).setCell ⟨ga, 1, none⟩ (.slice (some ⟨gb, 0, none⟩) n n)).setCell ⟨ga, 2, none⟩ (.slice (some ⟨gi, 0, none⟩) n n)) (.pointer (some ⟨ga, 0, none⟩)) n := by
  have hr2 : ∀ (w : World) i u, w.ownsRow W1.heap.size 30 1 (.slice (some ⟨gi, 0, none⟩) n n) n (List.replicate n nilS) → (w.setCell ⟨ga, i, none⟩ u).ownsRow W1.heap.size 30 1 (.slice (some ⟨gi, 0, none⟩) n n) n (List.replicate n nilS) :=
    fun w i u h => h.kept (grown_set w ga i u) (.inr (by simp [Value.ownBlock]; omega))
  have hb2 : ∀ (w : World) i u, w.ownsRow W1.heap.size 4 1 (.slice (some ⟨gb, 0, none⟩) n n) (List.replicate n false).length ((List.replicate n false).map tcell) → (w.setCell ⟨ga, i, none⟩ u).ownsRow W1.heap.size 4 1 (.slice (some ⟨gb, 0, none⟩) n n) (List.replicate n false).length ((List.replicate n false).map tcell) :=
    fun w i u h => h.kept (grown_set w ga i u) (.inr (by simp [Value.ownBlock]; omega))
  exact ⟨gb, gi, ga, rfl, h0, h1, hb2 _ _ _ (hb2 _ _ _ (hb2 _ _ _ hb)), hr2 _ _ _ (hr2 _ _ _ (hr2 _ _ _ hr)), ((hx.set 0 _).set 1 _).set 2 _, ((hs.setCell h0.2.2 _).setCell h0.2.2 _).setCell h0.2.2 _⟩
theorem mkB_own (base : Nat) (W : World) (n : Nat) (h : base ≤ W.heap.size) (hn : n ≤ maxLen) : OwnBo base (W.alloc (.cells (madeCells #[.bool false] n) 4)) (.slice (some ⟨W.heap.size, 0, none⟩) n n) (List.replicate n false) := by
  have e : (madeCells #[.bool false] n).toList = List.replicate n (.bool false) := toList_madeCells_one _ n
  have hsz : (madeCells #[.bool false] n).size = n := by rw [← Array.length_toList, e]; simp
  have := World.ownsRow_lit (e := 4) (size := 1) W (madeCells #[.bool false] n) n h hn (by rw [hsz, Nat.mul_one])
  rw [e] at this
  unfold OwnBo
  rw [List.length_replicate, List.map_replicate]
  exact this
theorem mkI_own (base : Nat) (W : World) (n : Nat) (h : base ≤ W.heap.size) (hn : n ≤ maxLen) : (W.alloc (.cells (madeCells #[nilS] n) 30)).ownsRow base 30 1 (.slice (some ⟨W.heap.size, 0, none⟩) n n) n (List.replicate n nilS) := by
  have e : (madeCells #[nilS] n).toList = List.replicate n nilS := toList_madeCells_one _ n
  have hsz : (madeCells #[nilS] n).size = n := by rw [← Array.length_toList, e]; simp
  have := World.ownsRow_lit (e := 30) (size := 1) W (madeCells #[nilS] n) n h hn (by rw [hsz, Nat.mul_one])
  rw [e] at this
  exact this
/-- .. and those states that have come are in it. -/
structure MkA (lo n gb gi ga : Nat) (acc : Int → Bool) (xs : List (List Int)) (fs : List Int) (left : Lit → Bool) (wr : World) : Prop where
  ne : gb ≠ gi ∧ gb ≠ ga ∧ gi ≠ ga
  bl : ∃ bs, bs.length = n ∧ OwnBo lo wr (.slice (some ⟨gb, 0, none⟩) n n) bs ∧ ∀ i (h : i < bs.length) (h2 : i < fs.length), left (KY fs[i]) = false → bs[i] = acc fs[i]
  rw : FillM lo gi wr n (DnL fs left) xs
  bx : Blk wr ga 27 #[.int .i64 0, .slice (some ⟨gb, 0, none⟩) n n, .slice (some ⟨gi, 0, none⟩) n n]
section
variable {lo n gb gi ga : Nat} {acc : Int → Bool} {xs : List (List Int)} {fs : List Int} {left : Lit → Bool} {wr w2 w3 : World}
theorem MkA.start (hn : n = fs.length) (ne : gb ≠ gi ∧ gb ≠ ga ∧ gi ≠ ga) (hb : OwnBo lo wr (.slice (some ⟨gb, 0, none⟩) n n) (List.replicate n false)) (hr : wr.ownsRow lo 30 1 (.slice (some ⟨gi, 0, none⟩) n n) n (List.replicate n nilS))
    (hx : Blk wr ga 27 #[.int .i64 0, .slice (some ⟨gb, 0, none⟩) n n, .slice (some ⟨gi, 0, none⟩) n n]) (hl : ∀ i (h : i < fs.length), left (KY fs[i]) = true) : MkA lo n gb gi ga acc xs fs left wr :=
  ⟨ne, ⟨_, by simp, hb, fun i h h2 e => by rw [hl i h2] at e; cases e⟩, FillM.zero hr (fun i hi k => by have := k (by omega); rw [hl i (by omega)] at this; cases this), hx⟩
theorem MkA.since (h : MkA lo n gb gi ga acc xs fs left wr) (k : Since wr w2) : MkA lo n gb gi ga acc xs fs left w2 := by
  obtain ⟨bs, h1, h2, h3⟩ := h.bl
  exact ⟨h.ne, ⟨bs, h1, h2.since k, h3⟩, h.rw.since k, h.bx.since k⟩
theorem MkA.iter (h : MkA lo n gb gi ga acc xs fs left wr) {r : Nat} (k : wr.grownBy w2 (some r)) (hr : ∀ cs t fz, wr.heap[r]? ≠ some (.cells cs t fz)) : MkA lo n gb gi ga acc xs fs left w2 := by
  obtain ⟨bs, h1, h2, h3⟩ := h.bl
  have hga : ga ≠ r := fun e => by subst e; exact hr _ _ _ h.bx
  refine ⟨h.ne, ⟨bs, h1, ?_, h3⟩, h.rw.keep k (fun cs t fz e => absurd e (hr cs t fz)), (k.block _ h.bx.lt (by intro e; injection e with e; exact hga e)).trans h.bx⟩
  refine World.ownsRow.kept h2 k (.inr fun e => ?_)
  obtain ⟨cs, fz, hq⟩ := own_block_of h2 r (by rw [e])
  exact hr _ _ _ hq
theorem MkA.cellB (h : MkA lo n gb gi ga acc xs fs left wr) {i : Nat} (hi : i < n) : (∃ u, wr.cell? ⟨gb, i, none⟩ = some u) ∧ wr.frozen? ⟨gb, i, none⟩ = false ∧ gb < wr.heap.size ∧ ∃ cs fz, wr.heap[gb]? = some (.cells cs 4 fz) := by
  obtain ⟨bs, h1, h2, h3⟩ := h.bl
  obtain ⟨a, b⟩ := h2.cellB h1.symm i (by omega)
  obtain ⟨cs, fz, hq⟩ := own_block_of h2 gb rfl
  exact ⟨⟨_, a⟩, b, heap_lt hq, cs, fz, hq⟩
theorem MkA.cellR (h : MkA lo n gb gi ga acc xs fs left wr) {i : Nat} (hi : i < n) : (∃ u, wr.cell? ⟨gi, i, none⟩ = some u) ∧ wr.frozen? ⟨gi, i, none⟩ = false ∧ gi < wr.heap.size ∧ ∃ cs fz, wr.heap[gi]? = some (.cells cs 30 fz) := by
  obtain ⟨a, b⟩ := h.rw.cells hi
  obtain ⟨ps, h1, h2, h3, h4⟩ := h.rw
  obtain ⟨cs, fz, hq⟩ := own_block_of h2 gi rfl
  exact ⟨a, b, heap_lt hq, cs, fz, hq⟩
/-- One state more: its truth value is laid, then its row. -/
theorem MkA.bool (h : MkA lo n gb gi ga acc xs fs left wr) (hd : fs.Nodup) (hn : n = fs.length) {i : Nat} (hi : i < fs.length) (k : Since wr w2) :
    (∃ bs, bs.length = n ∧ OwnBo lo (w2.setCell ⟨gb, i, none⟩ (.bool (acc fs[i]))) (.slice (some ⟨gb, 0, none⟩) n n) bs ∧ ∀ j (h : j < bs.length) (h2 : j < fs.length), (left (KY fs[j]) && !(KY fs[j]).sameKey (KY fs[i])) = false → bs[j] = acc fs[j]) ∧
    FillM lo gi (w2.setCell ⟨gb, i, none⟩ (.bool (acc fs[i]))) n (DnL fs left) xs ∧ Blk (w2.setCell ⟨gb, i, none⟩ (.bool (acc fs[i]))) ga 27 #[.int .i64 0, .slice (some ⟨gb, 0, none⟩) n n, .slice (some ⟨gi, 0, none⟩) n n] := by
  have h' := h.since k
  obtain ⟨bs, h1, h2, h3⟩ := h'.bl
  refine ⟨⟨bs.set i (acc fs[i]), by simp [h1], h2.setV h1.symm i _, fun j hj h2 e => ?_⟩, h'.rw.keep (grown_set w2 gb i _) (fun cs t fz e => ?_), h'.bx.far (by have := h.ne; simp; omega) _⟩
  · rw [List.getElem_set]
    by_cases e2 : i = j
    · subst e2; rw [if_pos rfl]
    · rw [if_neg e2]
      refine h3 j (by simpa using hj) h2 ?_
      rw [sameKey_KY, decide_eq_false (fun e3 => e2 (nodup_inj hd hi h2 e3.symm))] at e
      simpa using e
  · obtain ⟨cs2, fz2, hq⟩ := own_block_of h2 gb rfl
    rw [hq] at e
    injection e with e
    injection e with _ e _
    subst e
    exact ⟨by decide, by decide⟩
theorem MkA.row (hne : gb ≠ gi ∧ gb ≠ ga ∧ gi ≠ ga) {i : Nat} (hd : fs.Nodup) (hi : i < fs.length) (hn : n = fs.length) (hx : n = xs.length)
    (hb : ∃ bs, bs.length = n ∧ OwnBo lo wr (.slice (some ⟨gb, 0, none⟩) n n) bs ∧ ∀ j (h : j < bs.length) (h2 : j < fs.length), (left (KY fs[j]) && !(KY fs[j]).sameKey (KY fs[i])) = false → bs[j] = acc fs[j]) (hr : FillM lo gi wr n (DnL fs left) xs)
    (hbx : Blk wr ga 27 #[.int .i64 0, .slice (some ⟨gb, 0, none⟩) n n, .slice (some ⟨gi, 0, none⟩) n n]) (k : Since wr w2) (hg : gi < wr.heap.size) {p : Value} (ho : Own wr.heap.size w2 p (xs[i]'(by omega))) :
    MkA lo n gb gi ga acc xs fs (fun z => left z && !z.sameKey (KY fs[i])) (w2.setCell ⟨gi, i, none⟩ p) := by
  obtain ⟨bs, h1, h2, h3⟩ := hb
  refine ⟨hne, ⟨bs, h1, World.ownsRow.kept (h2.since k) (grown_set w2 gi i p) (.inr (by have := hne.1; simp [Value.ownBlock]; omega)), h3⟩, hr.step hg hx (by omega) k ho (fun j hj e => ?_), (hbx.since k).far (by have := hne; simp; omega) _⟩
  by_cases e2 : j = i
  · exact .inl e2
  · refine .inr fun hj2 => ?_
    have := e hj2
    dsimp only at this
    rw [sameKey_KY, decide_eq_false (fun e3 => e2 (nodup_inj hd hj2 hi e3))] at this
    simpa using this
theorem MkA.done (h : MkA lo n gb gi ga acc xs fs left wr) (hn : n = fs.length) (hx : n = xs.length) (hlo : lo ≤ gi) (hl : ∀ z, left z = false) : OwnA lo wr.heap.size wr (.agg #[.int .i64 0, .slice (some ⟨gb, 0, none⟩) n n, .slice (some ⟨gi, 0, none⟩) n n]) ⟨0, fs.map acc, xs⟩ := by
  obtain ⟨bs, h1, h2, h3⟩ := h.bl
  have e : bs = fs.map acc := by
    apply List.ext_getElem
    · simp [h1, hn]
    · intro i hi hj
      rw [List.getElem_map]
      exact h3 i hi (by simpa using hj) (hl _)
  subst e
  exact ⟨_, _, rfl, by unfold InI; simp, h2, h2.inR, h.rw.done hx hlo (fun i hi hj => hl _)⟩
end
theorem ownA_zero (lo hi : Nat) (w : World) : OwnA lo hi w (.agg #[.int .i64 0, nilS, nilS]) ⟨0, [], []⟩ :=
  ⟨nilS, nilS, rfl, by unfold InI; simp, OwnBo.nil _ _, fun k hk => by simp [Value.ownBlock] at hk, OwnSS.nil _ _ _⟩
end Go.Proofs.Ytcokggjekleabaa
