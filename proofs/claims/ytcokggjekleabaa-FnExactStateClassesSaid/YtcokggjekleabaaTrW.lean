/- Rows of ints that grow side by side, and a slice of such rows: for the model's numbering. -/
import Derived.Test.YtcokggjekleabaaTrM
import Derived.Test.YtcokggjekleabaaK1
namespace Go.Proofs.Ytcokggjekleabaa
set_option maxRecDepth 100000
open Go.ChangeShapes Go.WideShapes Go.ChangeAt Go.RowKit Go.Maps
set_option linter.unusedVariables false
set_option linter.unusedSimpArgs false

/-- What an append leaves of a value's place: the same block, or a new one. -/
def NewB (w : World) (v v' : Value) : Prop := v'.ownBlock = v.ownBlock ∨ ∃ g, v'.ownBlock = some g ∧ w.heap.size ≤ g
theorem Apart.newB {w : World} {a o o' : Value} (h : Apart a o) (hn : NewB w o o') (hl : ∀ g, a.ownBlock = some g → g < w.heap.size) : Apart a o' := by
  rcases hn with e | ⟨g, e, hg⟩
  · rcases h with h | h
    · exact .inl h
    · exact .inr (by rw [e]; exact h)
  · cases ha : a.ownBlock with
    | none => exact .inl ha
    | some q => exact .inr (by rw [ha, e]; intro k; injection k with k; have := hl q ha; omega)
/-- append of one number, with what becomes of the place. -/
theorem wpList_append_at {wr : World} {ops : Array Oper} {rest : List Oper} {o : Oper} {a : Act} {Q : Exit → Act → World → Prop} (hgd : o.guard = none) (s x : Operand)
    (ho : o.op = .call { callee := .builtin .append, args := #[s, x], argTypes := #[30, 30] }) (base : Nat) (v : Value) (xs : List Int) (hs : a.eval s = v) (hown : Own base wr v xs)
    (z : Int) (hx : a.eval x = .slice (some ⟨wr.heap.size, 0, none⟩) 1 1) (hz : InI z) (hlen : xs.length ≤ 4000000) (hb : base ≤ wr.heap.size)
    (h : ∀ v' w', Own base w' v' (xs ++ [z]) → wr.grownBy w' v.ownBlock → NewB wr v v' → wpList Try.prog ops Q rest (a.put o.dst v') w') : wpList Try.prog ops Q (o :: rest) a (wr.alloc (.cells #[.int .i64 z] 3)) := by
  have hal : Since wr (wr.alloc (.cells #[.int .i64 z] 3)) := (Since.refl wr).alloc _
  have hB : Blk (wr.alloc (.cells #[.int .i64 z] 3)) wr.heap.size 3 #[.int .i64 z] := Blk.new rfl _ _
  refine wpList_append_ints hgd s x ho base v xs hs (hown.since hal) (some ⟨wr.heap.size, 0, none⟩) 1 1 hx [z] ⟨fun y hy => by simp at hy; subst hy; exact hz, .inr ⟨wr.heap.size, 0, 1, rfl, by simp, fun i hi => ?_⟩⟩ (by simp; omega) (by simp; omega) ?_
  · obtain rfl : i = 0 := by simpa using hi
    exact hB.cell 0
  · intro v' w' h1 h2 h3
    refine h v' w' h1 ⟨h2.os, h2.tape, h2.output, Nat.le_trans (by simp) h2.size, fun i hi hn2 => (h2.block i (by simp; omega) hn2).trans (Below.heap_alloc wr _ i hi)⟩ ?_
    rcases h3 with h3 | h3
    · exact .inl h3
    · exact .inr ⟨_, h3, by simp⟩
/-- Rows of ints of the call's own in a slice that grows, apart from the values av. -/
def RowsO (base : Nat) (w : World) (no : Value) (xs : List (List Int)) (av : List Value) : Prop :=
  ∃ ps : List Value, w.ownsRow base 30 1 no xs.length ps ∧ ps.length = xs.length ∧ (∀ i (h : i < ps.length) (h2 : i < xs.length), Own base w ps[i] xs[i]) ∧ (∀ i j (hi : i < ps.length) (hj : j < ps.length), i ≠ j → Apart ps[i] ps[j]) ∧
    ∀ i (h : i < ps.length), ∀ u ∈ av, Apart ps[i] u
section
variable {base : Nat} {w w' : World} {no : Value} {xs : List (List Int)} {av av' : List Value}
theorem RowsO.nil (base : Nat) (w : World) (av : List Value) : RowsO base w nilS [] av := ⟨[], World.ownsRow_nil _ _ _ _, rfl, fun i h => by simp at h, fun i j h => by simp at h, fun i h => by simp at h⟩
theorem RowsO.since (h : RowsO base w no xs av) (k : Since w w') : RowsO base w' no xs av := by
  obtain ⟨ps, h1, h2, h3, h4, h5⟩ := h
  exact ⟨ps, row_since h1 k, h2, fun i hi h => (h3 i hi h).since k, h4, h5⟩
theorem RowsO.fewer (h : RowsO base w no xs av) (k : ∀ u ∈ av', u ∈ av) : RowsO base w no xs av' := by
  obtain ⟨ps, h1, h2, h3, h4, h5⟩ := h
  exact ⟨ps, h1, h2, h3, h4, fun i hi u hu => h5 i hi u (k u hu)⟩
/-- A block of another type has turned, or none of these. -/
theorem RowsO.other (h : RowsO base w no xs av) {r : Option Nat} (k : w.grownBy w' r) (hr : ∀ q, r = some q → ∀ cs t fz, w.heap[q]? = some (.cells cs t fz) → t ≠ 3 ∧ t ≠ 30) : RowsO base w' no xs av := by
  obtain ⟨ps, h1, h2, h3, h4, h5⟩ := h
  refine ⟨ps, h1.kept k ?_, h2, fun i hi h => (h3 i hi h).grownX k ?_, h4, h5⟩
  · cases e : no.ownBlock with
    | none => exact .inl rfl
    | some q =>
      refine .inr fun e2 => ?_
      obtain ⟨cs, fz, hq⟩ := own_block_of h1 q e
      exact (hr q e2.symm _ _ _ hq).2 rfl
  · cases e : (ps[i]).ownBlock with
    | none => exact .inl rfl
    | some q =>
      refine .inr fun e2 => ?_
      obtain ⟨cs, fz, hq⟩ := own_block_of (h3 i hi h).2 q e
      exact (hr q e2.symm _ _ _ hq).1 rfl
theorem RowsO.lt (h : RowsO base w no xs av) : ∀ q, no.ownBlock = some q → base ≤ q ∧ q < w.heap.size := by
  obtain ⟨ps, h1, _⟩ := h
  exact h1.lt
/-- One of the ints beside has grown. -/
theorem RowsO.int (h : RowsO base w no xs av) {o : Value} {zs : List Int} (k : w.grownBy w' o.ownBlock) (hown : Own base w o zs) (ho : o ∈ av) (hav : ∀ u ∈ av', u ∈ av ∨ NewB w o u) : RowsO base w' no xs av' := by
  obtain ⟨ps, h1, h2, h3, h4, h5⟩ := h
  have hlt : ∀ i (hi : i < ps.length) g, (ps[i]).ownBlock = some g → g < w.heap.size := fun i hi g e => ((h3 i hi (by omega)).2.lt g e).2
  exact ⟨ps, h1.kept k (apart_types h1 hown.2 (by decide)), h2, fun i hi h => (h3 i hi h).grownX k (h5 i hi o ho), h4, fun i hi u hu => by
    rcases hav u hu with hu | hu
    · exact h5 i hi u hu
    · exact (h5 i hi o ho).newB hu (hlt i hi)⟩
/-- .. of which one has become a row. -/
theorem RowsO.push (h : RowsO base w no xs av) {p : Value} {x : List Int} (hp : p ∈ av) (hown : Own base w p x) {no' : Value} (hr : ∀ ps, ps.length = xs.length → w.ownsRow base 30 1 no xs.length ps → w'.ownsRow base 30 1 no' (xs.length + 1) (ps ++ [p])) (k : w.grownBy w' no.ownBlock) (hav : ∀ u ∈ av', u ∈ av ∧ Apart p u) :
    RowsO base w' no' (xs ++ [x]) av' := by
  obtain ⟨ps, h1, h2, h3, h4, h5⟩ := h
  have hk : ∀ (v : Value) (l : List Int), Own base w v l → Own base w' v l := fun v l hv => hv.grownX k (apart_types hv.2 h1 (by decide))
  refine ⟨ps ++ [p], by rw [List.length_append]; exact hr ps h2 h1, by simp [h2], fun i hi hx => ?_, fun i j hi hj hne => ?_, fun i hi u hu => ?_⟩
  · by_cases e : i < ps.length
    · rw [List.getElem_append_left e, List.getElem_append_left (by omega)]
      exact hk _ _ (h3 i e (by omega))
    · have e2 : i = xs.length := by simp at hi; omega
      subst e2
      rw [List.getElem_append_right (by omega), List.getElem_append_right (by omega)]
      simp only [h2, Nat.sub_self, List.getElem_cons_zero]
      exact hk _ _ hown
  · have hl : ∀ i (hi : i < (ps ++ [p]).length), ¬ i < ps.length → (ps ++ [p])[i] = p := fun i hi e => by
      rw [List.getElem_append_right (by omega)]
      have : i - ps.length = 0 := by simp at hi; omega
      simp [this]
    by_cases e : i < ps.length
    · rw [List.getElem_append_left e]
      by_cases e2 : j < ps.length
      · rw [List.getElem_append_left e2]; exact h4 i j e e2 hne
      · rw [hl j hj e2]; exact h5 i e p hp
    · rw [hl i hi e]
      by_cases e2 : j < ps.length
      · rw [List.getElem_append_left e2]; exact (h5 j e2 p hp).symm
      · simp at hi hj; omega
  · by_cases e : i < ps.length
    · rw [List.getElem_append_left e]; exact h5 i e u (hav u hu).1
    · have : (ps ++ [p])[i] = p := by
        rw [List.getElem_append_right (by omega)]
        have : i - ps.length = 0 := by simp at hi; omega
        simp [this]
      rw [this]; exact (hav u hu).2
theorem RowsO.done (h : RowsO base w no xs av) {lo : Nat} (hlo : lo ≤ base) : OwnSS lo w.heap.size w no xs := by
  obtain ⟨ps, h1, h2, h3, h4, _⟩ := h
  refine ⟨ps, row_mono h1 hlo, h2, fun q hq => ?_, fun i hi hx => ⟨(h3 i hi hx).mono hlo, fun q hq => ?_⟩, h4⟩
  · have := h1.lt q hq; omega
  · have := (h3 i hi hx).2.lt q hq; omega
theorem RowsO.len (h : RowsO base w no xs av) : ∃ ao cap, no = .slice ao xs.length cap := by
  obtain ⟨ps, h1, _⟩ := h
  rcases h1.2 with ⟨hv, hn⟩ | ⟨g, cap, cur, rfl, hb, hg, _⟩
  · exact ⟨none, 0, by rw [hv, hn]⟩
  · exact ⟨_, cap, rfl⟩
end
/-- append of a row onto rows. -/
theorem run_append_rowv (w : World) (base : Nat) (ty : TypeId) (v : Value) (n : Nat) (ps : List Value) (hown : w.ownsRow base 30 1 v n ps) (b : Nat) (p : Value) (hB : Blk w b 30 #[p]) (hp : p.oneCell' = true)
    (hlen : n ≤ 4194303) (hbase : base ≤ w.heap.size) :
    ∃ v' w', (Builtin.append_ #[25, 25] ty #[v, .slice (some ⟨b, 0, none⟩) 1 1]).run Try.prog w = .ok v' w' ∧ w'.ownsRow base 30 1 v' (n + 1) (ps ++ [p]) ∧ w.grownBy w' v.ownBlock ∧ (v'.ownBlock = v.ownBlock ∨ v'.ownBlock = some w.heap.size) := by
  have hs : SrcAt w (some ⟨b, 0, none⟩) [p] := fun _ => ⟨⟨b, 0, none⟩, rfl, fun j u hu => by
    rw [add_plain, Nat.zero_add, hB.cell, ← hu, ← Array.getElem?_toList]⟩
  exact run_append_src w base 25 ty 30 nilS 1 24 Try.underlying25 info_ints rfl (by decide) v n ps hown (some ⟨b, 0, none⟩) 1 1 [p] rfl hs (by intro u hu; simp at hu; subst hu; exact hp) (by unfold maxLen; omega) (by omega) hbase
end Go.Proofs.Ytcokggjekleabaa
