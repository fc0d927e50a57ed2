/- Machines: the automaton of the states that were found, as plain data; rows that are being filled. -/
import Derived.Test.YtcokggjekleabaaNuM
namespace Go.Proofs.Ytcokggjekleabaa
set_option maxRecDepth 100000
open Go.ChangeShapes Go.WideShapes Go.ChangeAt Go.RowKit Go.Maps
set_option linter.unusedVariables false
set_option linter.unusedSimpArgs false

/-- The place of a state among those found. -/
def posN : List Int → Int → Nat
  | [], _ => 0
  | y :: ys, x => if y = x then 0 else posN ys x + 1
theorem posN_at : ∀ (fs : List Int), fs.Nodup → ∀ i (h : i < fs.length), posN fs fs[i] = i
  | y :: ys, hd, 0, h => by simp [posN]
  | y :: ys, hd, i + 1, h => by
    obtain ⟨h1, h2⟩ := List.nodup_cons.1 hd
    have hi : i < ys.length := by simpa using h
    have hne : y ≠ ys[i] := fun e => h1 (by rw [e]; exact List.getElem_mem hi)
    rw [List.getElem_cons_succ]
    unfold posN
    rw [if_neg hne, posN_at ys h2 i hi]
theorem posN_app : ∀ (fs t : List Int) (x : Int), x ∈ fs → posN (fs ++ t) x = posN fs x
  | y :: ys, t, x, h => by
    rw [List.cons_append]
    unfold posN
    by_cases e : y = x
    · rw [if_pos e, if_pos e]
    · rw [if_neg e, if_neg e, posN_app ys t x (by
        rcases List.mem_cons.1 h with h | h
        · exact absurd h.symm e
        · exact h)]
theorem posN_lt : ∀ (fs : List Int) (x : Int), x ∈ fs → posN fs x < fs.length
  | y :: ys, x, h => by
    unfold posN
    by_cases e : y = x
    · rw [if_pos e]; simp
    · rw [if_neg e]
      have := posN_lt ys x (by
        rcases List.mem_cons.1 h with h | h
        · exact absurd h.symm e
        · exact h)
      simp; omega
theorem posN_none : ∀ (fs : List Int) (x : Int), x ∉ fs → posN fs x = fs.length
  | [], x, h => rfl
  | y :: ys, x, h => by
    have h1 : y ≠ x := fun e => h (by simp [e])
    have h2 : x ∉ ys := fun e => h (by simp [e])
    unfold posN
    rw [if_neg h1, posN_none ys x h2]; rfl
theorem posN_new (fs : List Int) (x : Int) (h : x ∉ fs) : posN (fs ++ [x]) x = fs.length := by
  induction fs with
  | nil => simp [posN]
  | cons y ys ih =>
    have h1 : y ≠ x := fun e => h (by simp [e])
    have h2 : x ∉ ys := fun e => h (by simp [e])
    rw [List.cons_append]
    unfold posN
    rw [if_neg h1, ih h2]; rfl
def rowAt (step : Int → Nat → Option Int) (fs : List Int) (s : Int) (k : Nat) : Int := match step s k with
  | none => -1
  | some x => (posN fs x : Int)
theorem rowAt_none {step : Int → Nat → Option Int} {fs : List Int} {s : Int} {k : Nat} (h : step s k = none) : rowAt step fs s k = -1 := by unfold rowAt; rw [h]
theorem rowAt_some {step : Int → Nat → Option Int} {fs : List Int} {s x : Int} {k : Nat} (h : step s k = some x) : rowAt step fs s k = (posN fs x : Int) := by unfold rowAt; rw [h]
def rowOf (step : Int → Nat → Option Int) (fs : List Int) (s : Int) : List Int := (List.range 9).map (rowAt step fs s)
/-- The automaton of the states found: each has its place's number. -/
def autN (step : Int → Nat → Option Int) (acc : Int → Bool) (fs : List Int) : Aut := ⟨0, fs.map acc, fs.map (rowOf step fs)⟩
theorem posN_le (fs : List Int) (x : Int) : posN fs x ≤ fs.length := by
  by_cases h : x ∈ fs
  · exact Nat.le_of_lt (posN_lt fs x h)
  · rw [posN_none fs x h]; exact Nat.le_refl _
theorem rowAt_in (step : Int → Nat → Option Int) (fs : List Int) (s : Int) (k : Nat) (hl : fs.length ≤ 4000000) : InI (rowAt step fs s k) := by
  unfold rowAt
  split
  · unfold InI; omega
  · rename_i x _
    have := posN_le fs x
    unfold InI; omega
theorem rowOf_length (step : Int → Nat → Option Int) (fs : List Int) (s : Int) : (rowOf step fs s).length = 9 := by simp [rowOf]
/-- A row of which k cells are filled. -/
def fillR (step : Int → Nat → Option Int) (fs : List Int) (s : Int) (k : Nat) : List Int := (List.range 9).map fun j => if j < k then rowAt step fs s j else 0
theorem fillR_length (step : Int → Nat → Option Int) (fs : List Int) (s : Int) (k : Nat) : (fillR step fs s k).length = 9 := by simp [fillR]
theorem fillR_at (step : Int → Nat → Option Int) (fs : List Int) (s : Int) (k j : Nat) (h : j < (fillR step fs s k).length) : (fillR step fs s k)[j] = if j < k then rowAt step fs s j else 0 := by simp [fillR]
theorem fillR_zero (step : Int → Nat → Option Int) (fs : List Int) (s : Int) : fillR step fs s 0 = List.replicate 9 0 := by
  unfold fillR; simp; rfl
theorem fillR_all (step : Int → Nat → Option Int) (fs : List Int) (s : Int) : fillR step fs s 9 = rowOf step fs s := by
  unfold fillR rowOf
  apply List.map_congr_left
  intro j hj
  rw [if_pos (List.mem_range.1 hj)]
theorem fillR_set (step : Int → Nat → Option Int) (fs : List Int) (s : Int) (k : Nat) (hk : k < 9) (x : Int) (hx : x = rowAt step fs s k) : (fillR step fs s k).set k x = fillR step fs s (k + 1) := by
  subst hx
  apply List.ext_getElem
  · simp [fillR]
  · intro j h1 h2
    rw [List.getElem_set, fillR_at, fillR_at]
    by_cases e : k = j
    · subst e; rw [if_pos rfl, if_pos (by omega)]
    · rw [if_neg e]
      by_cases e2 : j < k
      · rw [if_pos e2, if_pos (by omega)]
      · rw [if_neg e2, if_neg (by omega)]
theorem fillR_set2 (step : Int → Nat → Option Int) (fs : List Int) (s : Int) (k : Nat) (hk : k < 9) (y x : Int) (hx : x = rowAt step fs s k) : ((fillR step fs s k).set k y).set k x = fillR step fs s (k + 1) := by
  rw [List.set_set]; exact fillR_set step fs s k hk x hx
theorem NumD.nodup {fs : List Int} {D : DU} (h : NumD fs D) : fs.Nodup := by
  rw [List.Nodup, List.pairwise_iff_getElem]
  intro i j hi hj hij e
  have h1 := h.at' i hi (.lit (.int .i64 0))
  rw [e, h.at' j hj] at h1
  injection h1 with h1
  injection h1 with _ h1
  omega
theorem NumD.val {fs : List Int} {D : DU} (h : NumD fs D) {x c : Int} (hx : x ∈ fs) (hc : D.atKey (KY x) (.lit (.int .i64 0)) = .lit (.int .i64 c)) : c = (posN fs x : Int) := by
  obtain ⟨i, hi, rfl, rfl⟩ := h.look hx hc
  rw [posN_at fs h.nodup i hi]
theorem Own.cellI {base g cap n : Nat} {w : World} {xs : List Int} (h : Own base w (.slice (some ⟨g, 0, none⟩) n cap) xs) (hn : n = xs.length) (s : Nat) (hs : s < xs.length) : w.cell? ⟨g, s, none⟩ = some (.int .i64 xs[s]) ∧ w.frozen? ⟨g, s, none⟩ = false := by
  subst hn
  refine ⟨?_, h.2.frozenAt s⟩
  rw [h.2.cellAt s (by omega)]
  simp [hs, icell]
theorem Own.setI {base g cap n : Nat} {w : World} {xs : List Int} (h : Own base w (.slice (some ⟨g, 0, none⟩) n cap) xs) (hn : n = xs.length) (s : Nat) (x : Int) (hx : InI x) : Own base (w.setCell ⟨g, s, none⟩ (.int .i64 x)) (.slice (some ⟨g, 0, none⟩) n cap) (xs.set s x) := by
  subst hn
  have := (h.2.stored s (.int .i64 x)).1
  refine ⟨fun y hy => ?_, ?_⟩
  · rcases List.mem_or_eq_of_mem_set hy with hy | hy
    · exact h.1 y hy
    · subst hy; exact hx
  · rw [List.length_set, List.map_set]; exact this
theorem OwnBo.setV {base g cap n : Nat} {w : World} {b : List Bool} (h : OwnBo base w (.slice (some ⟨g, 0, none⟩) n cap) b) (hn : n = b.length) (s : Nat) (x : Bool) : OwnBo base (w.setCell ⟨g, s, none⟩ (.bool x)) (.slice (some ⟨g, 0, none⟩) n cap) (b.set s x) := by
  subst hn
  have h' : w.ownsRow base 4 1 (.slice (some ⟨g, 0, none⟩) b.length cap) b.length (b.map tcell) := h
  have := (h'.stored s (.bool x)).1
  unfold OwnBo
  rw [List.length_set, List.map_set]
  exact this
/-- A row of int rows of which those that dn tells are filled, in whatever order. -/
def FillM (lo g : Nat) (wr : World) (n : Nat) (dn : Nat → Prop) (xs : List (List Int)) : Prop :=
  ∃ ps : List Value, ps.length = n ∧ wr.ownsRow lo 30 1 (.slice (some ⟨g, 0, none⟩) n n) n ps ∧
    (∀ i (h : i < ps.length) (h2 : i < xs.length), Own (g + 1) wr ps[i] xs[i] ∨ (¬ dn i ∧ ps[i] = nilS)) ∧ (∀ i j (hi : i < ps.length) (hj : j < ps.length), i ≠ j → Apart ps[i] ps[j])
theorem FillM.zero {lo g n : Nat} {wr : World} {dn : Nat → Prop} {xs : List (List Int)} (h : wr.ownsRow lo 30 1 (.slice (some ⟨g, 0, none⟩) n n) n (List.replicate n nilS)) (hd : ∀ i, i < n → ¬ dn i) : FillM lo g wr n dn xs :=
  ⟨_, by simp, h, fun i hi h2 => .inr ⟨hd i (by simpa using hi), by simp⟩, fun i j hi hj hne => .inl (by simp [Value.ownBlock])⟩
theorem FillM.since {lo g n : Nat} {wr w2 : World} {dn : Nat → Prop} {xs : List (List Int)} (h : FillM lo g wr n dn xs) (hs : Since wr w2) : FillM lo g w2 n dn xs := by
  obtain ⟨ps, h1, h2, h3, h4⟩ := h
  exact ⟨ps, h1, row_since h2 hs, fun i hi h => (h3 i hi h).imp (fun k => k.since hs) id, h4⟩
/-- A world that has turned in a block of another kind, or grown. -/
theorem FillM.kept {lo g n : Nat} {wr w2 : World} {dn : Nat → Prop} {xs : List (List Int)} (h : FillM lo g wr n dn xs) {r : Nat} (hs : wr.grownBy w2 (some r)) (hr : r ≤ g) (hne : r ≠ g) : FillM lo g w2 n dn xs := by
  obtain ⟨ps, h1, h2, h3, h4⟩ := h
  refine ⟨ps, h1, h2.kept hs (.inr (by simp [Value.ownBlock]; omega)), fun i hi h => (h3 i hi h).imp (fun k => k.grownX hs ?_) id, h4⟩
  cases e : (ps[i]).ownBlock with
  | none => exact .inl rfl
  | some q => exact .inr (fun e2 => by injection e2 with e2; have := (k.2.lt q e).1; omega)
theorem FillM.cells {lo g n : Nat} {wr : World} {dn : Nat → Prop} {xs : List (List Int)} (h : FillM lo g wr n dn xs) {k : Nat} (hk : k < n) : (∃ u, wr.cell? ⟨g, k, none⟩ = some u) ∧ wr.frozen? ⟨g, k, none⟩ = false := by
  obtain ⟨ps, h1, h2, h3, h4⟩ := h
  refine ⟨⟨ps[k], ?_⟩, h2.frozenAt _⟩
  rw [h2.cellAt k (by omega)]
  simp [h1, hk]
theorem FillM.far {lo g n : Nat} {wr : World} {dn : Nat → Prop} {xs : List (List Int)} (h : FillM lo g wr n dn xs) {r : Nat} (hr : r < g) (i : Nat) (u : Value) : FillM lo g (wr.setCell ⟨r, i, none⟩ u) n dn xs := by
  obtain ⟨ps, h1, h2, h3, h4⟩ := h
  have key : wr.grownBy (wr.setCell ⟨r, i, none⟩ u) (some r) := ⟨rfl, rfl, rfl, by simp [World.setCell], fun k _ hn => Below.heap_setCell wr ⟨r, i, none⟩ u k (by intro e; apply hn; rw [e])⟩
  exact FillM.kept ⟨ps, h1, h2, h3, h4⟩ key (by omega) (by omega)
theorem FillM.step {lo g n k : Nat} {wr w2 : World} {dn dn2 : Nat → Prop} {xs : List (List Int)} {p : Value} (h : FillM lo g wr n dn xs) (hg : g < wr.heap.size) (hn : n = xs.length) (hk : k < n) (hs : Since wr w2) (ho : Own wr.heap.size w2 p (xs[k]'(by omega))) (hd : ∀ i, i < n → dn2 i → i = k ∨ dn i) :
    FillM lo g (w2.setCell ⟨g, k, none⟩ p) n dn2 xs := by
  obtain ⟨ps, h1, h2, h3, h4⟩ := h
  have hst := (row_since h2 hs).stored k p
  have lt : ∀ i (hi : i < ps.length) (hx : i < xs.length) q, (ps[i]).ownBlock = some q → q < wr.heap.size := fun i hi hx q e => by
    rcases h3 i hi hx with h | ⟨_, h⟩
    · exact (h.2.lt q e).2
    · rw [h] at e; simp [Value.ownBlock] at e
  refine ⟨ps.set k p, by simp [h1], hst.1, fun i hi hx => ?_, fun i j hi hj hne => ?_⟩
  · rw [List.getElem_set]
    by_cases e : k = i
    · subst e
      rw [if_pos rfl]
      exact .inl ((ho.far (p := ⟨g, k, none⟩) hg p).mono hg)
    · rw [if_neg e]
      have hi2 : i < ps.length := by simpa using hi
      refine (h3 i hi2 hx).imp (fun h => (h.since hs).far (p := ⟨g, k, none⟩) (Nat.lt_succ_self _) p) (fun ⟨a, b⟩ => ⟨fun h => ?_, b⟩)
      rcases hd i (by omega) h with h | h
      · exact e h.symm
      · exact a h
  · have key : ∀ i (hi : i < ps.length), Apart ps[i] p := by
      intro i hi
      cases e : (ps[i]).ownBlock with
      | none => exact .inl e
      | some q =>
        right
        intro e2
        rw [e] at e2
        have l1 := lt i hi (by omega) q e
        have l2 := (ho.2.lt q e2.symm).1
        omega
    have hi2 : i < ps.length := by simpa using hi
    have hj2 : j < ps.length := by simpa using hj
    rw [List.getElem_set, List.getElem_set]
    by_cases e : k = i
    · rw [if_pos e, if_neg (by omega)]; exact (key j hj2).symm
    · rw [if_neg e]
      by_cases e2 : k = j
      · rw [if_pos e2]; exact key i hi2
      · rw [if_neg e2]; exact h4 i j hi2 hj2 hne
theorem FillM.done {lo g n : Nat} {wr : World} {dn : Nat → Prop} {xs : List (List Int)} (h : FillM lo g wr n dn xs) (hn : n = xs.length) (hlo : lo ≤ g) (hd : ∀ i, i < n → dn i) : OwnSS lo wr.heap.size wr (.slice (some ⟨g, 0, none⟩) n n) xs := by
  obtain ⟨ps, h1, h2, h3, h4⟩ := h
  have h5 : ∀ i (hi : i < ps.length) (hx : i < xs.length), Own (g + 1) wr ps[i] xs[i] := fun i hi hx => (h3 i hi hx).elim id (fun ⟨a, _⟩ => absurd (hd i (by omega)) a)
  subst hn
  refine ⟨ps, h2, h1, fun q hq => h2.lt q hq, fun i hi hx => ⟨(h5 i hi hx).mono (by omega), fun q hq => ?_⟩, h4⟩
  have := (h5 i hi hx).2.lt q hq
  exact ⟨by omega, this.2⟩
end Go.Proofs.Ytcokggjekleabaa
