/- Machines whose states are keys of any kind: the automaton being made, state by state; rows being filled. -/
import Derived.Test.YtmaagihfjldgeaaA3
import Derived.Test.YtmaagihfjldgeaaSgA
import Derived.Test.YtmaagihfjldgeaaLwM
namespace Go.Proofs.Ytmaagihfjldgeaa
set_option maxRecDepth 100000
open Go.ChangeShapes Go.WideShapes Go.ChangeAt Go.RowKit Go.Maps
set_option linter.unusedVariables false
set_option linter.unusedSimpArgs false

def DnG (ks : List Lit) (left : Lit → Bool) (i : Nat) : Prop := ∀ k, ks[i]? = some k → left k = false
/-- An automaton being made of the states whose keys are ks: those that have come are in it. -/
structure MkG (lo n gb gi ga : Nat) (qs : List Bool) (xs : List (List Int)) (ks : List Lit) (left : Lit → Bool) (wr : World) : Prop where
  ne : gb ≠ gi ∧ gb ≠ ga ∧ gi ≠ ga
  bl : ∃ bs, bs.length = n ∧ OwnBo lo wr (.slice (some ⟨gb, 0, none⟩) n n) bs ∧ ∀ (i : Nat) (k : Lit), ks[i]? = some k → left k = false → bs[i]? = qs[i]?
  rw : FillM lo gi wr n (DnG ks left) xs
  bx : Blk wr ga 39 #[.int .i64 0, .slice (some ⟨gb, 0, none⟩) n n, .slice (some ⟨gi, 0, none⟩) n n]
theorem nodup_ne {ks : List Lit} (hd : ks.Nodup) {i j : Nat} {a b : Lit} (ha : ks[i]? = some a) (hb : ks[j]? = some b) (hne : i ≠ j) : a ≠ b := by
  intro e
  subst e
  obtain ⟨hi, ei⟩ := List.getElem?_eq_some_iff.1 ha
  obtain ⟨hj, ej⟩ := List.getElem?_eq_some_iff.1 hb
  rw [List.Nodup, List.pairwise_iff_getElem] at hd
  rcases Nat.lt_or_gt_of_ne hne with h | h
  · exact hd i j hi hj h (by rw [ei, ej])
  · exact hd j i hj hi h (by rw [ei, ej])
section
variable {lo n gb gi ga : Nat} {qs : List Bool} {xs : List (List Int)} {ks : List Lit} {left : Lit → Bool} {wr w2 w3 : World}
theorem MkG.start (hn : n = ks.length) (ne : gb ≠ gi ∧ gb ≠ ga ∧ gi ≠ ga) (hb : OwnBo lo wr (.slice (some ⟨gb, 0, none⟩) n n) (List.replicate n false)) (hr : wr.ownsRow lo 24 1 (.slice (some ⟨gi, 0, none⟩) n n) n (List.replicate n nilS))
    (hx : Blk wr ga 39 #[.int .i64 0, .slice (some ⟨gb, 0, none⟩) n n, .slice (some ⟨gi, 0, none⟩) n n]) (hl : ∀ k ∈ ks, left k = true) : MkG lo n gb gi ga qs xs ks left wr :=
  ⟨ne, ⟨_, by simp, hb, fun i k h e => by rw [hl k (List.mem_of_getElem? h)] at e; cases e⟩, FillM.zero hr (fun i hi k => by
    have hik : i < ks.length := by omega
    have := k ks[i] (List.getElem?_eq_getElem hik)
    rw [hl _ (List.getElem_mem hik)] at this; cases this), hx⟩
theorem MkG.since (h : MkG lo n gb gi ga qs xs ks left wr) (k : Since wr w2) : MkG lo n gb gi ga qs xs ks left w2 := by
  obtain ⟨bs, h1, h2, h3⟩ := h.bl
  exact ⟨h.ne, ⟨bs, h1, h2.since k, h3⟩, h.rw.since k, h.bx.since k⟩
theorem MkG.iter (h : MkG lo n gb gi ga qs xs ks left wr) {r : Nat} (k : wr.grownBy w2 (some r)) (hr : ∀ cs t fz, wr.heap[r]? ≠ some (.cells cs t fz)) : MkG lo n gb gi ga qs xs ks left w2 := by
  obtain ⟨bs, h1, h2, h3⟩ := h.bl
  have hga : ga ≠ r := fun e => by subst e; exact hr _ _ _ h.bx
  refine ⟨h.ne, ⟨bs, h1, ?_, h3⟩, h.rw.keep k (fun cs t fz e => absurd e (hr cs t fz)), (k.block _ h.bx.lt (by intro e; injection e with e; exact hga e)).trans h.bx⟩
  refine World.ownsRow.kept h2 k (.inr fun e => ?_)
  obtain ⟨cs, fz, hq⟩ := own_block_of h2 r (by rw [e])
  exact hr _ _ _ hq
theorem MkG.cellB (h : MkG lo n gb gi ga qs xs ks left wr) {i : Nat} (hi : i < n) : (∃ u, wr.cell? ⟨gb, i, none⟩ = some u) ∧ wr.frozen? ⟨gb, i, none⟩ = false ∧ gb < wr.heap.size ∧ ∃ cs fz, wr.heap[gb]? = some (.cells cs 4 fz) := by
  obtain ⟨bs, h1, h2, h3⟩ := h.bl
  obtain ⟨a, b⟩ := h2.cellB h1.symm i (by omega)
  obtain ⟨cs, fz, hq⟩ := own_block_of h2 gb rfl
  exact ⟨⟨_, a⟩, b, heap_lt hq, cs, fz, hq⟩
/-- One state more: its truth value is laid, then its row. -/
theorem MkG.bool (h : MkG lo n gb gi ga qs xs ks left wr) (hd : ks.Nodup) {i : Nat} {kl : Lit} {q : Bool} (hi : ks[i]? = some kl) (hin : i < n) (hq : qs[i]? = some q) (k : Since wr w2) :
    (∃ bs, bs.length = n ∧ OwnBo lo (w2.setCell ⟨gb, i, none⟩ (.bool q)) (.slice (some ⟨gb, 0, none⟩) n n) bs ∧ ∀ (j : Nat) (k2 : Lit), ks[j]? = some k2 → (left k2 && !k2.sameKey kl) = false → bs[j]? = qs[j]?) ∧
    FillM lo gi (w2.setCell ⟨gb, i, none⟩ (.bool q)) n (DnG ks left) xs ∧ Blk (w2.setCell ⟨gb, i, none⟩ (.bool q)) ga 39 #[.int .i64 0, .slice (some ⟨gb, 0, none⟩) n n, .slice (some ⟨gi, 0, none⟩) n n] := by
  have h' := h.since k
  obtain ⟨bs, h1, h2, h3⟩ := h'.bl
  refine ⟨⟨bs.set i q, by simp [h1], h2.setV h1.symm i _, fun j k2 hj e => ?_⟩, h'.rw.keep (grown_set w2 gb i _) (fun cs t fz e => ?_), h'.bx.far (by have := h.ne; simp; omega) _⟩
  · by_cases e2 : i = j
    · subst e2; rw [List.getElem?_set_self (by omega), hq]
    · rw [List.getElem?_set_ne e2]
      refine h3 j k2 hj ?_
      rw [sameKey_ne (nodup_ne hd hj hi (fun x => e2 x.symm))] at e
      simpa using e
  · obtain ⟨cs2, fz2, hq⟩ := own_block_of h2 gb rfl
    rw [hq] at e
    injection e with e
    injection e with _ e _
    subst e
    exact ⟨by decide, by decide⟩
theorem MkG.row (hne : gb ≠ gi ∧ gb ≠ ga ∧ gi ≠ ga) {i : Nat} {kl : Lit} (hd : ks.Nodup) (hi : ks[i]? = some kl) (hin : i < n) (hx : n = xs.length)
    (hb : ∃ bs, bs.length = n ∧ OwnBo lo wr (.slice (some ⟨gb, 0, none⟩) n n) bs ∧ ∀ (j : Nat) (k2 : Lit), ks[j]? = some k2 → (left k2 && !k2.sameKey kl) = false → bs[j]? = qs[j]?) (hr : FillM lo gi wr n (DnG ks left) xs)
    (hbx : Blk wr ga 39 #[.int .i64 0, .slice (some ⟨gb, 0, none⟩) n n, .slice (some ⟨gi, 0, none⟩) n n]) (k : Since wr w2) (hg : gi < wr.heap.size) {p : Value} (ho : Own wr.heap.size w2 p (xs[i]'(by omega))) :
    MkG lo n gb gi ga qs xs ks (fun z => left z && !z.sameKey kl) (w2.setCell ⟨gi, i, none⟩ p) := by
  obtain ⟨bs, h1, h2, h3⟩ := hb
  refine ⟨hne, ⟨bs, h1, World.ownsRow.kept (h2.since k) (grown_set w2 gi i p) (.inr (by have := hne.1; simp [Value.ownBlock]; omega)), h3⟩, hr.step hg hx hin k ho (fun j hj e => ?_), (hbx.since k).far (by have := hne; simp; omega) _⟩
  by_cases e2 : j = i
  · exact .inl e2
  · refine .inr fun k2 hj2 => ?_
    have := e k2 hj2
    dsimp only at this
    rw [sameKey_ne (nodup_ne hd hj2 hi e2)] at this
    simpa using this
theorem MkG.done (h : MkG lo n gb gi ga qs xs ks left wr) (hn : n = ks.length) (ha : qs.length = n) (hx : n = xs.length) (hlo : lo ≤ gi) (hl : ∀ z, left z = false) : OwnA lo wr.heap.size wr (.agg #[.int .i64 0, .slice (some ⟨gb, 0, none⟩) n n, .slice (some ⟨gi, 0, none⟩) n n]) ⟨0, qs, xs⟩ := by
  obtain ⟨bs, h1, h2, h3⟩ := h.bl
  have e : bs = qs := by
    apply List.ext_getElem?
    intro i
    by_cases hi : i < n
    · exact h3 i ks[i] (List.getElem?_eq_getElem (by omega)) (hl _)
    · rw [List.getElem?_eq_none (by omega), List.getElem?_eq_none (by omega)]
  subst e
  exact ⟨_, _, rfl, by unfold InI; simp, h2, h2.inR, h.rw.done hx hlo (fun i hi k hk => hl _)⟩
end
/-- A row of which k cells are filled. -/
def fillC (c : Nat → Int) (k : Nat) : List Int := (List.range 9).map fun j => if j < k then c j else 0
theorem fillC_length (c : Nat → Int) (k : Nat) : (fillC c k).length = 9 := by simp [fillC]
theorem fillC_zero (c : Nat → Int) : fillC c 0 = List.replicate 9 0 := by
  unfold fillC; simp; rfl
theorem fillC_all (c : Nat → Int) : fillC c 9 = (List.range 9).map c := by
  unfold fillC
  apply List.map_congr_left
  intro j hj
  rw [if_pos (List.mem_range.1 hj)]
theorem fillC_set (c : Nat → Int) (k : Nat) (hk : k < 9) (x : Int) (hx : x = c k) : (fillC c k).set k x = fillC c (k + 1) := by
  subst hx
  apply List.ext_getElem
  · simp [fillC]
  · intro j h1 h2
    rw [List.getElem_set]
    simp only [fillC, List.getElem_map, List.getElem_range]
    by_cases e : k = j
    · subst e; rw [if_pos rfl, if_pos (by omega)]
    · rw [if_neg e]
      by_cases e2 : j < k
      · rw [if_pos e2, if_pos (by omega)]
      · rw [if_neg e2, if_neg (by omega)]
theorem fillC_set2 (c : Nat → Int) (k : Nat) (hk : k < 9) (y x : Int) (hx : x = c k) : ((fillC c k).set k y).set k x = fillC c (k + 1) := by
  rw [List.set_set]; exact fillC_set c k hk x hx
/-- .. and D holds no other key. -/
structure NumO (T : TypeId) (m : Nat) (fs : List (List Int)) (D : DU) : Prop where
  num : NumG T m fs D
  nodup : fs.Nodup
  only : ∀ kl, Maps.has D kl = true → ∃ x ∈ fs, kl = kyG T x
theorem NumO.nil (T : TypeId) (m : Nat) : NumO T m [] (.map [] : DU) := ⟨NumG.nil T m, List.nodup_nil, fun kl h => by simp [Maps.has] at h⟩
theorem NumO.snoc {T : TypeId} {m : Nat} (H : ArrT T m) {fs : List (List Int)} {D : DU} (h : NumO T m fs D) {x : List Int} (hok : OkS m x) (hx : x ∉ fs) : NumO T m (fs ++ [x]) (D.put (kyG T x) (.lit (.int .i64 (fs.length : Int)))) := by
  refine ⟨h.num.snoc H hok hx, nodup_snocG h.nodup hx, fun kl hk => ?_⟩
  by_cases e : kl = kyG T x
  · exact ⟨x, by simp, e⟩
  · rw [Maps.has_put_other e] at hk
    obtain ⟨y, hy, e2⟩ := h.only kl hk
    exact ⟨y, by simp [hy], e2⟩
/-- An entry's key: that of a state which was found, with its place. -/
theorem NumO.entry {T : TypeId} {m : Nat} (H : ArrT T m) {fs : List (List Int)} {D : DU} (h : NumO T m fs D) {kl : Lit} {c : Int} (hat : ∀ zd, D.atKey kl zd = .lit (.int .i64 c)) : ∃ i, ∃ hi : i < fs.length, kl = kyG T fs[i] ∧ c = (i : Int) := by
  have hh : Maps.has D kl = true := by
    cases e : Maps.has D kl with
    | true => rfl
    | false =>
      have h2 := hat (.lit (.bool true))
      rw [Maps.atKey_of_not_has e] at h2
      cases h2
  obtain ⟨x, hx, rfl⟩ := h.only kl hh
  obtain ⟨i, hi, rfl⟩ := List.getElem_of_mem hx
  refine ⟨i, hi, rfl, ?_⟩
  have h3 := hat (.lit (.int .i64 0))
  rw [h.num.at' i hi] at h3
  injection h3 with h3
  injection h3 with _ h3
  exact h3.symm
theorem NumO.keys {T : TypeId} {m : Nat} (H : ArrT T m) {fs : List (List Int)} {D : DU} (h : NumO T m fs D) : (fs.map (kyG T)).Nodup := by
  rw [List.Nodup, List.pairwise_map]
  refine List.Pairwise.imp_of_mem (fun {x y} hx hy hne e => ?_) h.nodup
  exact hne (H.inj (h.num.ok x hx) (h.num.ok y hy) e)
end Go.Proofs.Ytmaagihfjldgeaa
