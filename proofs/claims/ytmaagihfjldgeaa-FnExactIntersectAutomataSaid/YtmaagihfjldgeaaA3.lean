/- NuM, McM, MdM, TrM, TrW: small words and contracts that the other texts use. -/
import Derived.Test.YtmaagihfjldgeaaA1
import Derived.Test.YtmaagihfjldgeaaA2
import Derived.Maps.OwnSet
import Derived.Maps.OwnOps
import Derived.Maps.RangeWalk
import Derived.Maps.Ext
import Derived.Test.YtmaagihfjldgeaaK1
/- Maps from states to their numbers; rows of states of whatever type. -/
namespace Go.Proofs.Ytmaagihfjldgeaa
set_option maxRecDepth 100000
open Go.ChangeShapes Go.WideShapes Go.ChangeAt Go.RowKit Go.Maps
set_option linter.unusedVariables false
set_option linter.unusedSimpArgs false

abbrev DU := DataW Unit
abbrev KY (x : Int) : Lit := .int .i64 x
/-- D holds the states of fs, each with its place. -/
structure NumD (fs : List Int) (D : DU) : Prop where
  tidy : Maps.Tidy D
  size : Maps.size D = fs.length
  has : ∀ x, Maps.has D (KY x) = decide (x ∈ fs)
  at' : ∀ i (h : i < fs.length) z, D.atKey (KY fs[i]) z = .lit (.int .i64 (i : Int))
theorem ky_key (x : Int) : WideAt.IsKeyLit (KY x) := trivial
theorem KY_ne {x y : Int} (h : x ≠ y) : KY x ≠ KY y := fun e => h (by injection e)
theorem NumD.nil : NumD [] (.map [] : DU) := ⟨Maps.tidy_empty, rfl, fun x => rfl, fun i h => by simp at h⟩
theorem NumD.snoc {fs : List Int} {D : DU} (h : NumD fs D) {x : Int} (hx : x ∉ fs) : NumD (fs ++ [x]) (D.put (KY x) (.lit (.int .i64 (fs.length : Int)))) := by
  refine ⟨h.tidy.put (ky_key x) _, ?_, fun y => ?_, fun i hi z => ?_⟩
  · rw [Maps.size_put h.tidy, h.has x]
    simp [hx, h.size]
  · by_cases e : y = x
    · subst e; rw [Maps.has_put_same h.tidy.isMap (ky_key _)]; simp
    · rw [Maps.has_put_other (KY_ne e), h.has y]; simp [e]
  · by_cases e : i < fs.length
    · rw [List.getElem_append_left e]
      have hne : fs[i] ≠ x := fun k => hx (by rw [← k]; exact List.getElem_mem e)
      rw [Maps.atKey_put_other (KY_ne hne), h.at' i e z]
    · have e2 : i = fs.length := by simp at hi; omega
      subst e2
      have : (fs ++ [x])[fs.length] = x := by rw [List.getElem_append_right (Nat.le_refl _)]; simp
      rw [this, Maps.atKey_put_same h.tidy.isMap (ky_key _)]
theorem NumD.look {fs : List Int} {D : DU} (h : NumD fs D) {x c : Int} (hx : x ∈ fs) (hc : D.atKey (KY x) (.lit (.int .i64 0)) = .lit (.int .i64 c)) : ∃ i, ∃ hi : i < fs.length, fs[i] = x ∧ c = (i : Int) := by
  obtain ⟨i, hi, rfl⟩ := List.getElem_of_mem hx
  rw [h.at' i hi] at hc
  injection hc with hc
  injection hc with _ hc
  exact ⟨i, hi, rfl, hc.symm⟩
theorem NumD.mem_of {fs : List Int} {D : DU} (h : NumD fs D) {x c : Int} (hc : ∀ zd, D.atKey (KY x) zd = .lit (.int .i64 c)) : x ∈ fs := by
  refine Decidable.byContradiction fun hx => ?_
  have h1 : Maps.has D (KY x) = false := by rw [h.has x]; simp [hx]
  have h2 := hc (.lit (.bool true))
  rw [Maps.atKey_of_not_has h1] at h2
  cases h2
/-- v is a slice of the call's own that reads as the numbers xs, whatever the elements' type is called. -/
def OwnNt (e : TypeId) (base : Nat) (w : World) (v : Value) (xs : List Int) : Prop := (∀ x ∈ xs, InI x) ∧ w.ownsRow base e 1 v xs.length (xs.map icell)
section
variable {e : TypeId} {base : Nat} {w w' : World} {v : Value} {xs : List Int}
theorem OwnNt.since (h : OwnNt e base w v xs) (k : Since w w') : OwnNt e base w' v xs := ⟨h.1, row_since h.2 k⟩
theorem OwnNt.len (h : OwnNt e base w v xs) (hn : 0 < xs.length) : ∃ g cap, v = .slice (some ⟨g, 0, none⟩) xs.length cap ∧ base ≤ g ∧ g < w.heap.size := by
  obtain ⟨g, cap, e1, hg⟩ := own_block h.2 hn
  exact ⟨g, cap, e1, hg, (h.2.lt g (by rw [e1]; rfl)).2⟩
theorem OwnNt.cell {g cap n : Nat} (h : OwnNt e base w (.slice (some ⟨g, 0, none⟩) n cap) xs) (hn : n = xs.length) (i : Nat) (hi : i < xs.length) : w.cell? ⟨g, i, none⟩ = some (.int .i64 xs[i]) := by
  subst hn
  rw [h.2.cellAt i (by omega)]
  simp [hi, icell]
theorem OwnNt.kept {row : Option Nat} (h : OwnNt e base w v xs) (k : w.grownBy w' row) (hr : v.ownBlock = none ∨ v.ownBlock ≠ row) : OwnNt e base w' v xs := ⟨h.1, h.2.kept k hr⟩
end
theorem ownT_lit (e : TypeId) (base : Nat) (w1 : World) (h : base ≤ w1.heap.size) (z : Int) (hz : InI z) : OwnNt e base (w1.alloc (.cells #[.int .i64 z] e)) (.slice (some ⟨w1.heap.size, 0, none⟩) 1 1) [z] :=
  ⟨fun x hx => by simp at hx; subst hx; exact hz, World.ownsRow_lit w1 #[.int .i64 z] 1 h (by unfold maxLen; omega) rfl⟩
/-- append of one number. -/
theorem wpList_append_T {wr : World} {ops : Array Oper} {rest : List Oper} {o : Oper} {a : Act} {Q : Exit → Act → World → Prop} (hgd : o.guard = none) (s x : Operand) (t e : TypeId)
    (ho : o.op = .call { callee := .builtin .append, args := #[s, x], argTypes := #[t, t] }) (hu : Try.prog.underlying t = some (.slice e)) (hinfo : (Try.prog.info? e).map (fun i => (i.zero, i.size, i.bytes)) = some (some (.int .i64 0), 1, 8)) (base : Nat) (v : Value) (xs : List Int) (hs : a.eval s = v) (hown : OwnNt e base wr v xs)
    (z : Int) (hx : a.eval x = .slice (some ⟨wr.heap.size, 0, none⟩) 1 1) (hz : InI z) (hlen : xs.length ≤ 4194304) (hb : base ≤ wr.heap.size)
    (h : ∀ v' w', OwnNt e base w' v' (xs ++ [z]) → wr.grownBy w' v.ownBlock → wpList Try.prog ops Q rest (a.put o.dst v') w') : wpList Try.prog ops Q (o :: rest) a (wr.alloc (.cells #[.int .i64 z] e)) := by
  obtain ⟨i0, hi, hz0, hz1, hz2⟩ := info_parts hinfo
  have hown' : OwnNt e base (wr.alloc (.cells #[.int .i64 z] e)) v xs := hown.since ((Since.refl wr).alloc _)
  have hB : Blk (wr.alloc (.cells #[.int .i64 z] e)) wr.heap.size e #[.int .i64 z] := Blk.new rfl _ _
  refine wpList_append_own _ hgd s x t ho base e i0 (.int .i64 0) 1 8 hu hi hz0 hz1 hz2 rfl (by decide) v xs.length (xs.map icell) hs hown'.2 ⟨wr.heap.size, 0, none⟩ 1 1 [icell z] hx rfl ?_ (by intro u hu; simp at hu; subst hu; rfl) (by unfold maxLen; omega) (by omega) (by simp; omega) ?_
  · intro j u hj
    rw [add_plain, Nat.zero_add, hB.cell, ← hj, ← Array.getElem?_toList]; rfl
  · intro v' w' h1 h2 _
    refine h v' w' ⟨fun y hy => ?_, ?_⟩ ?_
    · rcases List.mem_append.1 hy with hy | hy
      · exact hown.1 y hy
      · simp at hy; subst hy; exact hz
    · rw [List.length_append, List.map_append]; exact h1
    · refine ⟨h2.os, h2.tape, h2.output, Nat.le_trans (by simp) h2.size, fun i hi2 hn2 => ?_⟩
      exact (h2.block i (by simp; omega) hn2).trans (Below.heap_alloc wr _ i hi2)
/-- An entry of a map literal. -/
theorem wpList_insert_own {H : Type} {P : Program} (w : World) {ops : Array Oper} {rest : List Oper} {o : Oper} {a : Act} {Q : Exit → Act → World → Prop}
    (hg : o.guard = none) (m x v : Operand) (t : TypeId) (hop : o.op = Op.insert t m x v)
    (k e : TypeId) (K : Keyed P k) (ht : P.underlying t = some (.map k e)) (R : Value → Option (DataW H × List MemPlace)) (b n : Nat) (D : DataW H)
    (hm : a.eval m = .map (some b)) (hown : w.ownsMap P k R b n D) (hn : n < maxLen) (key val : Value) (kl : Lit) (hx : a.eval x = key) (hv : a.eval v = val) (hkey : keyOf P k key = some kl)
    (d : DataW H) (ps : List MemPlace) (hval : R val = some (d, ps))
    (hK : ∀ w', w'.ownsMap P k R b (n + 1) (D.put kl d) → w.grownBy w' (some b) → wpList P ops Q rest (a.put o.dst undef) w') :
    wpList P ops Q (o :: rest) a w := by
  refine wpList_plain hg fun K' hK' => ?_
  obtain ⟨w', hrun, r1, r2⟩ := hown.update K ht hn hkey hval
  unfold Oper.wp
  simp [execOp, hop, hm, hx, hv, hrun, Result.andThen]
  exact hK' _ _ (hK w' r1 r2)
theorem wf_in {x : Int} (h : InI x) : (Lit.int .i64 x).wf = true := by
  simp [Lit.wf]
  have e1 : IntKind.i64.min = -9223372036854775808 := by decide
  rw [e1]; exact h
theorem Since.keptMap {w w' : World} {P : Program} {k : TypeId} {R : Value → Option (DU × List MemPlace)} {b n : Nat} {D : DU} (h : w.ownsMap P k R b n D) (s : Since w w') : w'.ownsMap P k R b n D :=
  h.kept (row := none) ⟨s.os, s.tape, s.output, s.size, fun i hi _ => s.block i hi⟩ (by simp)
end Go.Proofs.Ytmaagihfjldgeaa

/- Machines: the automaton of the states that were found, as plain data; rows that are being filled. -/
namespace Go.Proofs.Ytmaagihfjldgeaa
set_option maxRecDepth 100000
open Go.ChangeShapes Go.WideShapes Go.ChangeAt Go.RowKit Go.Maps
set_option linter.unusedVariables false
set_option linter.unusedSimpArgs false

/-- The place of a state among those found. -/
def posN : List Int → Int → Nat
  | [], _ => 0
  | y :: ys, x => if y = x then 0 else posN ys x + 1
theorem posN_at : ∀ (fs : List Int), fs.Nodup → ∀ i (h : i < fs.length), posN fs fs[i] = i
  | y :: ys, hd, 0, h => by simp [posN]
  | y :: ys, hd, i + 1, h => by
    obtain ⟨h1, h2⟩ := List.nodup_cons.1 hd
    have hi : i < ys.length := by simpa using h
    have hne : y ≠ ys[i] := fun e => h1 (by rw [e]; exact List.getElem_mem hi)
    rw [List.getElem_cons_succ]
    unfold posN
    rw [if_neg hne, posN_at ys h2 i hi]
theorem posN_app : ∀ (fs t : List Int) (x : Int), x ∈ fs → posN (fs ++ t) x = posN fs x
  | y :: ys, t, x, h => by
    rw [List.cons_append]
    unfold posN
    by_cases e : y = x
    · rw [if_pos e, if_pos e]
    · rw [if_neg e, if_neg e, posN_app ys t x (by
        rcases List.mem_cons.1 h with h | h
        · exact absurd h.symm e
        · exact h)]
theorem posN_lt : ∀ (fs : List Int) (x : Int), x ∈ fs → posN fs x < fs.length
  | y :: ys, x, h => by
    unfold posN
    by_cases e : y = x
    · rw [if_pos e]; simp
    · rw [if_neg e]
      have := posN_lt ys x (by
        rcases List.mem_cons.1 h with h | h
        · exact absurd h.symm e
        · exact h)
      simp; omega
theorem posN_none : ∀ (fs : List Int) (x : Int), x ∉ fs → posN fs x = fs.length
  | [], x, h => rfl
  | y :: ys, x, h => by
    have h1 : y ≠ x := fun e => h (by simp [e])
    have h2 : x ∉ ys := fun e => h (by simp [e])
    unfold posN
    rw [if_neg h1, posN_none ys x h2]; rfl
theorem posN_new (fs : List Int) (x : Int) (h : x ∉ fs) : posN (fs ++ [x]) x = fs.length := by
  induction fs with
  | nil => simp [posN]
  | cons y ys ih =>
    have h1 : y ≠ x := fun e => h (by simp [e])
    have h2 : x ∉ ys := fun e => h (by simp [e])
    rw [List.cons_append]
    unfold posN
    rw [if_neg h1, ih h2]; rfl
def rowAt (step : Int → Nat → Option Int) (fs : List Int) (s : Int) (k : Nat) : Int := match step s k with
  | none => -1
  | some x => (posN fs x : Int)
theorem rowAt_none {step : Int → Nat → Option Int} {fs : List Int} {s : Int} {k : Nat} (h : step s k = none) : rowAt step fs s k = -1 := by unfold rowAt; rw [h]
theorem rowAt_some {step : Int → Nat → Option Int} {fs : List Int} {s x : Int} {k : Nat} (h : step s k = some x) : rowAt step fs s k = (posN fs x : Int) := by unfold rowAt; rw [h]
def rowOf (step : Int → Nat → Option Int) (fs : List Int) (s : Int) : List Int := (List.range 9).map (rowAt step fs s)
/-- The automaton of the states found: each has its place's number. -/
def autN (step : Int → Nat → Option Int) (acc : Int → Bool) (fs : List Int) : Aut := ⟨0, fs.map acc, fs.map (rowOf step fs)⟩
theorem posN_le (fs : List Int) (x : Int) : posN fs x ≤ fs.length := by
  by_cases h : x ∈ fs
  · exact Nat.le_of_lt (posN_lt fs x h)
  · rw [posN_none fs x h]; exact Nat.le_refl _
theorem rowAt_in (step : Int → Nat → Option Int) (fs : List Int) (s : Int) (k : Nat) (hl : fs.length ≤ 4000000) : InI (rowAt step fs s k) := by
  unfold rowAt
  split
  · unfold InI; omega
  · rename_i x _
    have := posN_le fs x
    unfold InI; omega
theorem rowOf_length (step : Int → Nat → Option Int) (fs : List Int) (s : Int) : (rowOf step fs s).length = 9 := by simp [rowOf]
/-- A row of which k cells are filled. -/
def fillR (step : Int → Nat → Option Int) (fs : List Int) (s : Int) (k : Nat) : List Int := (List.range 9).map fun j => if j < k then rowAt step fs s j else 0
theorem fillR_length (step : Int → Nat → Option Int) (fs : List Int) (s : Int) (k : Nat) : (fillR step fs s k).length = 9 := by simp [fillR]
theorem fillR_at (step : Int → Nat → Option Int) (fs : List Int) (s : Int) (k j : Nat) (h : j < (fillR step fs s k).length) : (fillR step fs s k)[j] = if j < k then rowAt step fs s j else 0 := by simp [fillR]
theorem fillR_zero (step : Int → Nat → Option Int) (fs : List Int) (s : Int) : fillR step fs s 0 = List.replicate 9 0 := by
  unfold fillR; simp; rfl
theorem fillR_all (step : Int → Nat → Option Int) (fs : List Int) (s : Int) : fillR step fs s 9 = rowOf step fs s := by
  unfold fillR rowOf
  apply List.map_congr_left
  intro j hj
  rw [if_pos (List.mem_range.1 hj)]
theorem fillR_set (step : Int → Nat → Option Int) (fs : List Int) (s : Int) (k : Nat) (hk : k < 9) (x : Int) (hx : x = rowAt step fs s k) : (fillR step fs s k).set k x = fillR step fs s (k + 1) := by
  subst hx
  apply List.ext_getElem
  · simp [fillR]
  · intro j h1 h2
    rw [List.getElem_set, fillR_at, fillR_at]
    by_cases e : k = j
    · subst e; rw [if_pos rfl, if_pos (by omega)]
    · rw [if_neg e]
      by_cases e2 : j < k
      · rw [if_pos e2, if_pos (by omega)]
      · rw [if_neg e2, if_neg (by omega)]
theorem fillR_set2 (step : Int → Nat → Option Int) (fs : List Int) (s : Int) (k : Nat) (hk : k < 9) (y x : Int) (hx : x = rowAt step fs s k) : ((fillR step fs s k).set k y).set k x = fillR step fs s (k + 1) := by
  rw [List.set_set]; exact fillR_set step fs s k hk x hx
theorem NumD.nodup {fs : List Int} {D : DU} (h : NumD fs D) : fs.Nodup := by
  rw [List.Nodup, List.pairwise_iff_getElem]
  intro i j hi hj hij e
  have h1 := h.at' i hi (.lit (.int .i64 0))
  rw [e, h.at' j hj] at h1
  injection h1 with h1
  injection h1 with _ h1
  omega
theorem NumD.val {fs : List Int} {D : DU} (h : NumD fs D) {x c : Int} (hx : x ∈ fs) (hc : D.atKey (KY x) (.lit (.int .i64 0)) = .lit (.int .i64 c)) : c = (posN fs x : Int) := by
  obtain ⟨i, hi, rfl, rfl⟩ := h.look hx hc
  rw [posN_at fs h.nodup i hi]
theorem Own.cellI {base g cap n : Nat} {w : World} {xs : List Int} (h : Own base w (.slice (some ⟨g, 0, none⟩) n cap) xs) (hn : n = xs.length) (s : Nat) (hs : s < xs.length) : w.cell? ⟨g, s, none⟩ = some (.int .i64 xs[s]) ∧ w.frozen? ⟨g, s, none⟩ = false := by
  subst hn
  refine ⟨?_, h.2.frozenAt s⟩
  rw [h.2.cellAt s (by omega)]
  simp [hs, icell]
theorem Own.setI {base g cap n : Nat} {w : World} {xs : List Int} (h : Own base w (.slice (some ⟨g, 0, none⟩) n cap) xs) (hn : n = xs.length) (s : Nat) (x : Int) (hx : InI x) : Own base (w.setCell ⟨g, s, none⟩ (.int .i64 x)) (.slice (some ⟨g, 0, none⟩) n cap) (xs.set s x) := by
  subst hn
  have := (h.2.stored s (.int .i64 x)).1
  refine ⟨fun y hy => ?_, ?_⟩
  · rcases List.mem_or_eq_of_mem_set hy with hy | hy
    · exact h.1 y hy
    · subst hy; exact hx
  · rw [List.length_set, List.map_set]; exact this
theorem OwnBo.setV {base g cap n : Nat} {w : World} {b : List Bool} (h : OwnBo base w (.slice (some ⟨g, 0, none⟩) n cap) b) (hn : n = b.length) (s : Nat) (x : Bool) : OwnBo base (w.setCell ⟨g, s, none⟩ (.bool x)) (.slice (some ⟨g, 0, none⟩) n cap) (b.set s x) := by
  subst hn
  have h' : w.ownsRow base 4 1 (.slice (some ⟨g, 0, none⟩) b.length cap) b.length (b.map tcell) := h
  have := (h'.stored s (.bool x)).1
  unfold OwnBo
  rw [List.length_set, List.map_set]
  exact this
/-- A row of int rows of which those that dn tells are filled, in whatever order. -/
def FillM (lo g : Nat) (wr : World) (n : Nat) (dn : Nat → Prop) (xs : List (List Int)) : Prop :=
  ∃ ps : List Value, ps.length = n ∧ wr.ownsRow lo 24 1 (.slice (some ⟨g, 0, none⟩) n n) n ps ∧
    (∀ i (h : i < ps.length) (h2 : i < xs.length), Own (g + 1) wr ps[i] xs[i] ∨ (¬ dn i ∧ ps[i] = nilS)) ∧ (∀ i j (hi : i < ps.length) (hj : j < ps.length), i ≠ j → Apart ps[i] ps[j])
theorem FillM.zero {lo g n : Nat} {wr : World} {dn : Nat → Prop} {xs : List (List Int)} (h : wr.ownsRow lo 24 1 (.slice (some ⟨g, 0, none⟩) n n) n (List.replicate n nilS)) (hd : ∀ i, i < n → ¬ dn i) : FillM lo g wr n dn xs :=
  ⟨_, by simp, h, fun i hi h2 => .inr ⟨hd i (by simpa using hi), by simp⟩, fun i j hi hj hne => .inl (by simp [Value.ownBlock])⟩
theorem FillM.since {lo g n : Nat} {wr w2 : World} {dn : Nat → Prop} {xs : List (List Int)} (h : FillM lo g wr n dn xs) (hs : Since wr w2) : FillM lo g w2 n dn xs := by
  obtain ⟨ps, h1, h2, h3, h4⟩ := h
  exact ⟨ps, h1, row_since h2 hs, fun i hi h => (h3 i hi h).imp (fun k => k.since hs) id, h4⟩
/-- A world that has turned in a block of another kind, or grown. -/
theorem FillM.kept {lo g n : Nat} {wr w2 : World} {dn : Nat → Prop} {xs : List (List Int)} (h : FillM lo g wr n dn xs) {r : Nat} (hs : wr.grownBy w2 (some r)) (hr : r ≤ g) (hne : r ≠ g) : FillM lo g w2 n dn xs := by
  obtain ⟨ps, h1, h2, h3, h4⟩ := h
  refine ⟨ps, h1, h2.kept hs (.inr (by simp [Value.ownBlock]; omega)), fun i hi h => (h3 i hi h).imp (fun k => k.grownX hs ?_) id, h4⟩
  cases e : (ps[i]).ownBlock with
  | none => exact .inl rfl
  | some q => exact .inr (fun e2 => by injection e2 with e2; have := (k.2.lt q e).1; omega)
theorem FillM.cells {lo g n : Nat} {wr : World} {dn : Nat → Prop} {xs : List (List Int)} (h : FillM lo g wr n dn xs) {k : Nat} (hk : k < n) : (∃ u, wr.cell? ⟨g, k, none⟩ = some u) ∧ wr.frozen? ⟨g, k, none⟩ = false := by
  obtain ⟨ps, h1, h2, h3, h4⟩ := h
  refine ⟨⟨ps[k], ?_⟩, h2.frozenAt _⟩
  rw [h2.cellAt k (by omega)]
  simp [h1, hk]
theorem FillM.far {lo g n : Nat} {wr : World} {dn : Nat → Prop} {xs : List (List Int)} (h : FillM lo g wr n dn xs) {r : Nat} (hr : r < g) (i : Nat) (u : Value) : FillM lo g (wr.setCell ⟨r, i, none⟩ u) n dn xs := by
  obtain ⟨ps, h1, h2, h3, h4⟩ := h
  have key : wr.grownBy (wr.setCell ⟨r, i, none⟩ u) (some r) := ⟨rfl, rfl, rfl, by simp [World.setCell], fun k _ hn => Below.heap_setCell wr ⟨r, i, none⟩ u k (by intro e; apply hn; rw [e])⟩
  exact FillM.kept ⟨ps, h1, h2, h3, h4⟩ key (by omega) (by omega)
theorem FillM.step {lo g n k : Nat} {wr w2 : World} {dn dn2 : Nat → Prop} {xs : List (List Int)} {p : Value} (h : FillM lo g wr n dn xs) (hg : g < wr.heap.size) (hn : n = xs.length) (hk : k < n) (hs : Since wr w2) (ho : Own wr.heap.size w2 p (xs[k]'(by omega))) (hd : ∀ i, i < n → dn2 i → i = k ∨ dn i) :
    FillM lo g (w2.setCell ⟨g, k, none⟩ p) n dn2 xs := by
  obtain ⟨ps, h1, h2, h3, h4⟩ := h
  have hst := (row_since h2 hs).stored k p
  have lt : ∀ i (hi : i < ps.length) (hx : i < xs.length) q, (ps[i]).ownBlock = some q → q < wr.heap.size := fun i hi hx q e => by
    rcases h3 i hi hx with h | ⟨_, h⟩
    · exact (h.2.lt q e).2
    · rw [h] at e; simp [Value.ownBlock] at e
  refine ⟨ps.set k p, by simp [h1], hst.1, fun i hi hx => ?_, fun i j hi hj hne => ?_⟩
  · rw [List.getElem_set]
    by_cases e : k = i
    · subst e
      rw [if_pos rfl]
      exact .inl ((ho.far (p := ⟨g, k, none⟩) hg p).mono hg)
    · rw [if_neg e]
      have hi2 : i < ps.length := by simpa using hi
      refine (h3 i hi2 hx).imp (fun h => (h.since hs).far (p := ⟨g, k, none⟩) (Nat.lt_succ_self _) p) (fun ⟨a, b⟩ => ⟨fun h => ?_, b⟩)
      rcases hd i (by omega) h with h | h
      · exact e h.symm
      · exact a h
  · have key : ∀ i (hi : i < ps.length), Apart ps[i] p := by
      intro i hi
      cases e : (ps[i]).ownBlock with
      | none => exact .inl e
      | some q =>
        right
        intro e2
        rw [e] at e2
        have l1 := lt i hi (by omega) q e
        have l2 := (ho.2.lt q e2.symm).1
        omega
    have hi2 : i < ps.length := by simpa using hi
    have hj2 : j < ps.length := by simpa using hj
    rw [List.getElem_set, List.getElem_set]
    by_cases e : k = i
    · rw [if_pos e, if_neg (by omega)]; exact (key j hj2).symm
    · rw [if_neg e]
      by_cases e2 : k = j
      · rw [if_pos e2]; exact key i hi2
      · rw [if_neg e2]; exact h4 i j hi2 hj2 hne
theorem FillM.done {lo g n : Nat} {wr : World} {dn : Nat → Prop} {xs : List (List Int)} (h : FillM lo g wr n dn xs) (hn : n = xs.length) (hlo : lo ≤ g) (hd : ∀ i, i < n → dn i) : OwnSS lo wr.heap.size wr (.slice (some ⟨g, 0, none⟩) n n) xs := by
  obtain ⟨ps, h1, h2, h3, h4⟩ := h
  have h5 : ∀ i (hi : i < ps.length) (hx : i < xs.length), Own (g + 1) wr ps[i] xs[i] := fun i hi hx => (h3 i hi hx).elim id (fun ⟨a, _⟩ => absurd (hd i (by omega)) a)
  subst hn
  refine ⟨ps, h2, h1, fun q hq => h2.lt q hq, fun i hi hx => ⟨(h5 i hi hx).mono (by omega), fun q hq => ?_⟩, h4⟩
  have := (h5 i hi hx).2.lt q hq
  exact ⟨by omega, this.2⟩
end Go.Proofs.Ytmaagihfjldgeaa

/- Machines: the automaton being made, state by state. -/
namespace Go.Proofs.Ytmaagihfjldgeaa
set_option maxRecDepth 100000
open Go.ChangeShapes Go.WideShapes Go.ChangeAt Go.RowKit Go.Maps
set_option linter.unusedVariables false
set_option linter.unusedSimpArgs false

theorem sameKey_KY (a b : Int) : (KY a).sameKey (KY b) = decide (a = b) := by simp [Lit.sameKey]
theorem grown_set (w : World) (r i : Nat) (u : Value) : w.grownBy (w.setCell ⟨r, i, none⟩ u) (some r) :=
  ⟨rfl, rfl, rfl, by simp [World.setCell], fun k _ hn => Below.heap_setCell w ⟨r, i, none⟩ u k (by intro e; apply hn; rw [e])⟩
theorem FillM.keep {lo g n : Nat} {wr w2 : World} {dn : Nat → Prop} {xs : List (List Int)} (h : FillM lo g wr n dn xs) {r : Nat} (hs : wr.grownBy w2 (some r)) (hr : ∀ cs t fz, wr.heap[r]? = some (.cells cs t fz) → t ≠ 3 ∧ t ≠ 24) : FillM lo g w2 n dn xs := by
  obtain ⟨ps, h1, h2, h3, h4⟩ := h
  refine ⟨ps, h1, h2.kept hs (.inr fun e => ?_), fun i hi h => (h3 i hi h).imp (fun k => k.grownX hs (.inr fun e => ?_)) id, h4⟩
  · obtain ⟨cs, fz, hq⟩ := own_block_of h2 r (by rw [e])
    exact (hr _ _ _ hq).2 rfl
  · obtain ⟨cs, fz, hq⟩ := own_block_of k.2 r (by rw [e])
    exact (hr _ _ _ hq).1 rfl
theorem ranges_nocells {P : Program} {k : TypeId} {R : Value → Option (DU × List MemPlace)} {w : World} {b r n : Nat} {D : DU} {left : Lit → Bool} {cnt : Nat} (h : w.ranges P k R b r n D left cnt) : ∀ cs t fz, w.heap[r]? ≠ some (.cells cs t fz) := by
  obtain ⟨_, _, _, _, _, _, _, _, _, hit, _⟩ := h
  intro cs t fz e
  rw [hit] at e
  cases e
theorem ranges_since {P : Program} {k : TypeId} {R : Value → Option (DU × List MemPlace)} {w w' : World} {b r n : Nat} {D : DU} {left : Lit → Bool} {cnt : Nat} (h : w.ranges P k R b r n D left cnt) (s : Since w w') : w'.ranges P k R b r n D left cnt :=
  h.kept (row := none) ⟨s.os, s.tape, s.output, s.size, fun i hi _ => s.block i hi⟩ (by simp) (by simp)
theorem ranges_set {P : Program} {k : TypeId} {R : Value → Option (DU × List MemPlace)} {w : World} {b r n : Nat} {D : DU} {left : Lit → Bool} {cnt : Nat} (h : w.ranges P k R b r n D left cnt) {q : Nat} {cs : Array Value} {t : TypeId} {fz : Nat × Nat} (hq : w.heap[q]? = some (.cells cs t fz)) (i : Nat) (u : Value) : (w.setCell ⟨q, i, none⟩ u).ranges P k R b r n D left cnt :=
  h.kept (grown_set w q i u) (fun e => by
    injection e with e
    subst e
    obtain ⟨_, _, _, _, _, hb, _⟩ := h
    rw [hq] at hb; cases hb) (fun e => by
    injection e with e
    subst e
    exact ranges_nocells h _ _ _ hq)
theorem nodup_inj {fs : List Int} (hd : fs.Nodup) {i j : Nat} (hi : i < fs.length) (hj : j < fs.length) (e : fs[i] = fs[j]) : i = j := by
  have h1 := posN_at fs hd i hi
  rw [e, posN_at fs hd j hj] at h1
  exact h1.symm
def DnL (fs : List Int) (left : Lit → Bool) (i : Nat) : Prop := ∀ h : i < fs.length, left (KY fs[i]) = false
/-- An automaton of n states has been made, nothing in it: its blocks. -/
def MadeA (W1 wx : World) (p : Value) (n : Nat) : Prop :=
  ∃ gb gi ga, p = .pointer (some ⟨ga, 0, none⟩) ∧ (W1.heap.size ≤ gb ∧ W1.heap.size ≤ gi ∧ W1.heap.size ≤ ga) ∧ (gb ≠ gi ∧ gb ≠ ga ∧ gi ≠ ga) ∧ OwnBo W1.heap.size wx (.slice (some ⟨gb, 0, none⟩) n n) (List.replicate n false) ∧
    wx.ownsRow W1.heap.size 24 1 (.slice (some ⟨gi, 0, none⟩) n n) n (List.replicate n nilS) ∧ Blk wx ga 39 #[.int .i64 0, .slice (some ⟨gb, 0, none⟩) n n, .slice (some ⟨gi, 0, none⟩) n n] ∧ Since W1 wx
theorem madeA_new {W1 wx : World} {n gb gi ga : Nat} (hga : ga = wx.heap.size) (h0 : W1.heap.size ≤ gb ∧ W1.heap.size ≤ gi ∧ gb < wx.heap.size ∧ gi < wx.heap.size) (h1 : gb ≠ gi) (hb : OwnBo W1.heap.size wx (.slice (some ⟨gb, 0, none⟩) n n) (List.replicate n false))
    (hr : wx.ownsRow W1.heap.size 24 1 (.slice (some ⟨gi, 0, none⟩) n n) n (List.replicate n nilS)) (hs : Since W1 wx) :
    MadeA W1 (wx.alloc (.cells #[.int .i64 0, .slice (some ⟨gb, 0, none⟩) n n, .slice (some ⟨gi, 0, none⟩) n n] 39)) (.pointer (some ⟨ga, 0, none⟩)) n := by
  have k : Since wx (wx.alloc (.cells #[.int .i64 0, .slice (some ⟨gb, 0, none⟩) n n, .slice (some ⟨gi, 0, none⟩) n n] 39)) := (Since.refl wx).alloc _
  have := hs.size
  exact ⟨gb, gi, ga, rfl, ⟨h0.1, h0.2.1, by omega⟩, ⟨h1, by omega, by omega⟩, hb.since k, row_since hr k, Blk.new hga _ _, hs.trans k⟩
theorem madeA_set {W1 wx : World} {n gb gi ga : Nat} {z0 z1 z2 : Value} (h0 : W1.heap.size ≤ gb ∧ W1.heap.size ≤ gi ∧ W1.heap.size ≤ ga) (h1 : gb ≠ gi ∧ gb ≠ ga ∧ gi ≠ ga) (hb : OwnBo W1.heap.size wx (.slice (some ⟨gb, 0, none⟩) n n) (List.replicate n false))
    (hr : wx.ownsRow W1.heap.size 24 1 (.slice (some ⟨gi, 0, none⟩) n n) n (List.replicate n nilS)) (hx : Blk wx ga 39 #[z0, z1, z2]) (hs : Since W1 wx) :
    MadeA W1 (((wx.setCell ⟨ga, 0, none⟩ (.int .i64 0)).setCell ⟨ga, 1, none⟩ (.slice (some ⟨gb, 0, none⟩) n n)).setCell ⟨ga, 2, none⟩ (.slice (some ⟨gi, 0, none⟩) n n)) (.pointer (some ⟨ga, 0, none⟩)) n := by
  have hr2 : ∀ (w : World) i u, w.ownsRow W1.heap.size 24 1 (.slice (some ⟨gi, 0, none⟩) n n) n (List.replicate n nilS) → (w.setCell ⟨ga, i, none⟩ u).ownsRow W1.heap.size 24 1 (.slice (some ⟨gi, 0, none⟩) n n) n (List.replicate n nilS) :=
    fun w i u h => h.kept (grown_set w ga i u) (.inr (by simp [Value.ownBlock]; omega))
  have hb2 : ∀ (w : World) i u, w.ownsRow W1.heap.size 4 1 (.slice (some ⟨gb, 0, none⟩) n n) (List.replicate n false).length ((List.replicate n false).map tcell) → (w.setCell ⟨ga, i, none⟩ u).ownsRow W1.heap.size 4 1 (.slice (some ⟨gb, 0, none⟩) n n) (List.replicate n false).length ((List.replicate n false).map tcell) :=
    fun w i u h => h.kept (grown_set w ga i u) (.inr (by simp [Value.ownBlock]; omega))
  exact ⟨gb, gi, ga, rfl, h0, h1, hb2 _ _ _ (hb2 _ _ _ (hb2 _ _ _ hb)), hr2 _ _ _ (hr2 _ _ _ (hr2 _ _ _ hr)), ((hx.set 0 _).set 1 _).set 2 _, ((hs.setCell h0.2.2 _).setCell h0.2.2 _).setCell h0.2.2 _⟩
theorem mkB_own (base : Nat) (W : World) (n : Nat) (h : base ≤ W.heap.size) (hn : n ≤ maxLen) : OwnBo base (W.alloc (.cells (madeCells #[.bool false] n) 4)) (.slice (some ⟨W.heap.size, 0, none⟩) n n) (List.replicate n false) := by
  have e : (madeCells #[.bool false] n).toList = List.replicate n (.bool false) := toList_madeCells_one _ n
  have hsz : (madeCells #[.bool false] n).size = n := by rw [← Array.length_toList, e]; simp
  have := World.ownsRow_lit (e := 4) (size := 1) W (madeCells #[.bool false] n) n h hn (by rw [hsz, Nat.mul_one])
  rw [e] at this
  unfold OwnBo
  rw [List.length_replicate, List.map_replicate]
  exact this
theorem mkI_own (base : Nat) (W : World) (n : Nat) (h : base ≤ W.heap.size) (hn : n ≤ maxLen) : (W.alloc (.cells (madeCells #[nilS] n) 24)).ownsRow base 24 1 (.slice (some ⟨W.heap.size, 0, none⟩) n n) n (List.replicate n nilS) := by
  have e : (madeCells #[nilS] n).toList = List.replicate n nilS := toList_madeCells_one _ n
  have hsz : (madeCells #[nilS] n).size = n := by rw [← Array.length_toList, e]; simp
  have := World.ownsRow_lit (e := 24) (size := 1) W (madeCells #[nilS] n) n h hn (by rw [hsz, Nat.mul_one])
  rw [e] at this
  exact this
/-- .. and those states that have come are in it. -/
structure MkA (lo n gb gi ga : Nat) (acc : Int → Bool) (xs : List (List Int)) (fs : List Int) (left : Lit → Bool) (wr : World) : Prop where
  ne : gb ≠ gi ∧ gb ≠ ga ∧ gi ≠ ga
  bl : ∃ bs, bs.length = n ∧ OwnBo lo wr (.slice (some ⟨gb, 0, none⟩) n n) bs ∧ ∀ i (h : i < bs.length) (h2 : i < fs.length), left (KY fs[i]) = false → bs[i] = acc fs[i]
  rw : FillM lo gi wr n (DnL fs left) xs
  bx : Blk wr ga 39 #[.int .i64 0, .slice (some ⟨gb, 0, none⟩) n n, .slice (some ⟨gi, 0, none⟩) n n]
section
variable {lo n gb gi ga : Nat} {acc : Int → Bool} {xs : List (List Int)} {fs : List Int} {left : Lit → Bool} {wr w2 w3 : World}
theorem MkA.start (hn : n = fs.length) (ne : gb ≠ gi ∧ gb ≠ ga ∧ gi ≠ ga) (hb : OwnBo lo wr (.slice (some ⟨gb, 0, none⟩) n n) (List.replicate n false)) (hr : wr.ownsRow lo 24 1 (.slice (some ⟨gi, 0, none⟩) n n) n (List.replicate n nilS))
    (hx : Blk wr ga 39 #[.int .i64 0, .slice (some ⟨gb, 0, none⟩) n n, .slice (some ⟨gi, 0, none⟩) n n]) (hl : ∀ i (h : i < fs.length), left (KY fs[i]) = true) : MkA lo n gb gi ga acc xs fs left wr :=
  ⟨ne, ⟨_, by simp, hb, fun i h h2 e => by rw [hl i h2] at e; cases e⟩, FillM.zero hr (fun i hi k => by have := k (by omega); rw [hl i (by omega)] at this; cases this), hx⟩
theorem MkA.since (h : MkA lo n gb gi ga acc xs fs left wr) (k : Since wr w2) : MkA lo n gb gi ga acc xs fs left w2 := by
  obtain ⟨bs, h1, h2, h3⟩ := h.bl
  exact ⟨h.ne, ⟨bs, h1, h2.since k, h3⟩, h.rw.since k, h.bx.since k⟩
theorem MkA.iter (h : MkA lo n gb gi ga acc xs fs left wr) {r : Nat} (k : wr.grownBy w2 (some r)) (hr : ∀ cs t fz, wr.heap[r]? ≠ some (.cells cs t fz)) : MkA lo n gb gi ga acc xs fs left w2 := by
  obtain ⟨bs, h1, h2, h3⟩ := h.bl
  have hga : ga ≠ r := fun e => by subst e; exact hr _ _ _ h.bx
  refine ⟨h.ne, ⟨bs, h1, ?_, h3⟩, h.rw.keep k (fun cs t fz e => absurd e (hr cs t fz)), (k.block _ h.bx.lt (by intro e; injection e with e; exact hga e)).trans h.bx⟩
  refine World.ownsRow.kept h2 k (.inr fun e => ?_)
  obtain ⟨cs, fz, hq⟩ := own_block_of h2 r (by rw [e])
  exact hr _ _ _ hq
theorem MkA.cellB (h : MkA lo n gb gi ga acc xs fs left wr) {i : Nat} (hi : i < n) : (∃ u, wr.cell? ⟨gb, i, none⟩ = some u) ∧ wr.frozen? ⟨gb, i, none⟩ = false ∧ gb < wr.heap.size ∧ ∃ cs fz, wr.heap[gb]? = some (.cells cs 4 fz) := by
  obtain ⟨bs, h1, h2, h3⟩ := h.bl
  obtain ⟨a, b⟩ := h2.cellB h1.symm i (by omega)
  obtain ⟨cs, fz, hq⟩ := own_block_of h2 gb rfl
  exact ⟨⟨_, a⟩, b, heap_lt hq, cs, fz, hq⟩
theorem MkA.cellR (h : MkA lo n gb gi ga acc xs fs left wr) {i : Nat} (hi : i < n) : (∃ u, wr.cell? ⟨gi, i, none⟩ = some u) ∧ wr.frozen? ⟨gi, i, none⟩ = false ∧ gi < wr.heap.size ∧ ∃ cs fz, wr.heap[gi]? = some (.cells cs 24 fz) := by
  obtain ⟨a, b⟩ := h.rw.cells hi
  obtain ⟨ps, h1, h2, h3, h4⟩ := h.rw
  obtain ⟨cs, fz, hq⟩ := own_block_of h2 gi rfl
  exact ⟨a, b, heap_lt hq, cs, fz, hq⟩
/-- One state more: its truth value is laid, then its row. -/
theorem MkA.bool (h : MkA lo n gb gi ga acc xs fs left wr) (hd : fs.Nodup) (hn : n = fs.length) {i : Nat} (hi : i < fs.length) (k : Since wr w2) :
    (∃ bs, bs.length = n ∧ OwnBo lo (w2.setCell ⟨gb, i, none⟩ (.bool (acc fs[i]))) (.slice (some ⟨gb, 0, none⟩) n n) bs ∧ ∀ j (h : j < bs.length) (h2 : j < fs.length), (left (KY fs[j]) && !(KY fs[j]).sameKey (KY fs[i])) = false → bs[j] = acc fs[j]) ∧
    FillM lo gi (w2.setCell ⟨gb, i, none⟩ (.bool (acc fs[i]))) n (DnL fs left) xs ∧ Blk (w2.setCell ⟨gb, i, none⟩ (.bool (acc fs[i]))) ga 39 #[.int .i64 0, .slice (some ⟨gb, 0, none⟩) n n, .slice (some ⟨gi, 0, none⟩) n n] := by
  have h' := h.since k
  obtain ⟨bs, h1, h2, h3⟩ := h'.bl
  refine ⟨⟨bs.set i (acc fs[i]), by simp [h1], h2.setV h1.symm i _, fun j hj h2 e => ?_⟩, h'.rw.keep (grown_set w2 gb i _) (fun cs t fz e => ?_), h'.bx.far (by have := h.ne; simp; omega) _⟩
  · rw [List.getElem_set]
    by_cases e2 : i = j
    · subst e2; rw [if_pos rfl]
    · rw [if_neg e2]
      refine h3 j (by simpa using hj) h2 ?_
      rw [sameKey_KY, decide_eq_false (fun e3 => e2 (nodup_inj hd hi h2 e3.symm))] at e
      simpa using e
  · obtain ⟨cs2, fz2, hq⟩ := own_block_of h2 gb rfl
    rw [hq] at e
    injection e with e
    injection e with _ e _
    subst e
    exact ⟨by decide, by decide⟩
theorem MkA.row (hne : gb ≠ gi ∧ gb ≠ ga ∧ gi ≠ ga) {i : Nat} (hd : fs.Nodup) (hi : i < fs.length) (hn : n = fs.length) (hx : n = xs.length)
    (hb : ∃ bs, bs.length = n ∧ OwnBo lo wr (.slice (some ⟨gb, 0, none⟩) n n) bs ∧ ∀ j (h : j < bs.length) (h2 : j < fs.length), (left (KY fs[j]) && !(KY fs[j]).sameKey (KY fs[i])) = false → bs[j] = acc fs[j]) (hr : FillM lo gi wr n (DnL fs left) xs)
    (hbx : Blk wr ga 39 #[.int .i64 0, .slice (some ⟨gb, 0, none⟩) n n, .slice (some ⟨gi, 0, none⟩) n n]) (k : Since wr w2) (hg : gi < wr.heap.size) {p : Value} (ho : Own wr.heap.size w2 p (xs[i]'(by omega))) :
    MkA lo n gb gi ga acc xs fs (fun z => left z && !z.sameKey (KY fs[i])) (w2.setCell ⟨gi, i, none⟩ p) := by
  obtain ⟨bs, h1, h2, h3⟩ := hb
  refine ⟨hne, ⟨bs, h1, World.ownsRow.kept (h2.since k) (grown_set w2 gi i p) (.inr (by have := hne.1; simp [Value.ownBlock]; omega)), h3⟩, hr.step hg hx (by omega) k ho (fun j hj e => ?_), (hbx.since k).far (by have := hne; simp; omega) _⟩
  by_cases e2 : j = i
  · exact .inl e2
  · refine .inr fun hj2 => ?_
    have := e hj2
    dsimp only at this
    rw [sameKey_KY, decide_eq_false (fun e3 => e2 (nodup_inj hd hj2 hi e3))] at this
    simpa using this
theorem MkA.done (h : MkA lo n gb gi ga acc xs fs left wr) (hn : n = fs.length) (hx : n = xs.length) (hlo : lo ≤ gi) (hl : ∀ z, left z = false) : OwnA lo wr.heap.size wr (.agg #[.int .i64 0, .slice (some ⟨gb, 0, none⟩) n n, .slice (some ⟨gi, 0, none⟩) n n]) ⟨0, fs.map acc, xs⟩ := by
  obtain ⟨bs, h1, h2, h3⟩ := h.bl
  have e : bs = fs.map acc := by
    apply List.ext_getElem
    · simp [h1, hn]
    · intro i hi hj
      rw [List.getElem_map]
      exact h3 i hi (by simpa using hj) (hl _)
  subst e
  exact ⟨_, _, rfl, by unfold InI; simp, h2, h2.inR, h.rw.done hx hlo (fun i hi hj => hl _)⟩
end
theorem ownA_zero (lo hi : Nat) (w : World) : OwnA lo hi w (.agg #[.int .i64 0, nilS, nilS]) ⟨0, [], []⟩ :=
  ⟨nilS, nilS, rfl, by unfold InI; simp, OwnBo.nil _ _, fun k hk => by simp [Value.ownBlock] at hk, OwnSS.nil _ _ _⟩
end Go.Proofs.Ytmaagihfjldgeaa

/- Numbering the states by a key (their classes), without a limit: as plain data, and against the machine's numbers. -/
namespace Go.Proofs.Ytmaagihfjldgeaa
set_option maxRecDepth 100000
set_option linter.unusedVariables false
set_option linter.unusedSimpArgs false

def addK (key : Int → Int) (rs : List Int) (o : Option Int) : List Int := match o with
  | none => rs
  | some x => if key x ∈ rs.map key then rs else rs ++ [x]
def rowK (step : Int → Nat → Option Int) (key : Int → Int) (s : Int) : Nat → List Int → List Int
  | 0, rs => rs
  | m + 1, rs => rowK step key s m (addK key rs (step s (8 - m)))
def runK (step : Int → Nat → Option Int) (key : Int → Int) : Nat → Nat → List Int → List Int
  | 0, _, rs => rs
  | m + 1, p, rs => match rs[p]? with
    | none => rs
    | some s => runK step key m (p + 1) (rowK step key s 9 rs)
theorem addK_pre (key : Int → Int) (rs : List Int) (o : Option Int) : ∃ t, addK key rs o = rs ++ t := by
  cases o with
  | none => exact ⟨[], by simp [addK]⟩
  | some x =>
    by_cases h : key x ∈ rs.map key
    · exact ⟨[], by unfold addK; simp only; rw [if_pos h]; simp⟩
    · exact ⟨[x], by unfold addK; simp only; rw [if_neg h]⟩
theorem rowK_pre (step : Int → Nat → Option Int) (key : Int → Int) (s : Int) : ∀ m rs, ∃ t, rowK step key s m rs = rs ++ t
  | 0, rs => ⟨[], by simp [rowK]⟩
  | m + 1, rs => by
    obtain ⟨t, ht⟩ := addK_pre key rs (step s (8 - m))
    obtain ⟨t2, ht2⟩ := rowK_pre step key s m (addK key rs (step s (8 - m)))
    exact ⟨t ++ t2, by unfold rowK; rw [ht2, ht, List.append_assoc]⟩
theorem runK_pre (step : Int → Nat → Option Int) (key : Int → Int) : ∀ m p rs, ∃ t, runK step key m p rs = rs ++ t
  | 0, p, rs => ⟨[], by simp [runK]⟩
  | m + 1, p, rs => by
    unfold runK
    cases h : rs[p]? with
    | none => exact ⟨[], by simp⟩
    | some s =>
      obtain ⟨t, ht⟩ := rowK_pre step key s 9 rs
      obtain ⟨t2, ht2⟩ := runK_pre step key m (p + 1) (rowK step key s 9 rs)
      exact ⟨t ++ t2, by simp only; rw [ht2, ht, List.append_assoc]⟩
theorem runK_at (step : Int → Nat → Option Int) (key : Int → Int) (m p : Nat) (rs : List Int) (hp : p < rs.length) : runK step key (m + 1) p rs = runK step key m (p + 1) (rowK step key rs[p] 9 rs) := by
  conv => lhs; unfold runK
  rw [List.getElem?_eq_getElem hp]
theorem runK_end (step : Int → Nat → Option Int) (key : Int → Int) (m p : Nat) (rs : List Int) (hp : rs.length ≤ p) : runK step key m p rs = rs := by
  cases m with
  | zero => rfl
  | succ m => unfold runK; rw [List.getElem?_eq_none hp]
theorem rowK_at (step : Int → Nat → Option Int) (key : Int → Int) (s : Int) (k : Nat) (hk : k < 9) (rs : List Int) : rowK step key s (9 - k) rs = rowK step key s (9 - (k + 1)) (addK key rs (step s k)) := by
  have e : 9 - k = (8 - k) + 1 := by omega
  rw [e]
  conv => lhs; unfold rowK
  rw [show 8 - (8 - k) = k from by omega, show 9 - (k + 1) = 8 - k from by omega]
def rowAtK (step : Int → Nat → Option Int) (key : Int → Int) (F : List Int) (s : Int) (k : Nat) : Int := match step s k with
  | none => -1
  | some x => (posN (F.map key) (key x) : Int)
theorem rowAtK_none {step : Int → Nat → Option Int} {key : Int → Int} {F : List Int} {s : Int} {k : Nat} (h : step s k = none) : rowAtK step key F s k = -1 := by unfold rowAtK; rw [h]
theorem rowAtK_some {step : Int → Nat → Option Int} {key : Int → Int} {F : List Int} {s x : Int} {k : Nat} (h : step s k = some x) : rowAtK step key F s k = (posN (F.map key) (key x) : Int) := by unfold rowAtK; rw [h]
def rowOfK (step : Int → Nat → Option Int) (key : Int → Int) (F : List Int) (s : Int) : List Int := (List.range 9).map (rowAtK step key F s)
def preK (step : Int → Nat → Option Int) (key : Int → Int) (F : List Int) (s : Int) (k : Nat) : List Int := (List.range k).map (rowAtK step key F s)
theorem preK_step (step : Int → Nat → Option Int) (key : Int → Int) (F : List Int) (s : Int) (k : Nat) : preK step key F s (k + 1) = preK step key F s k ++ [rowAtK step key F s k] := by
  unfold preK; rw [List.range_succ, List.map_append]; rfl
theorem preK_length (step : Int → Nat → Option Int) (key : Int → Int) (F : List Int) (s : Int) (k : Nat) : (preK step key F s k).length = k := by simp [preK]
def autK (step : Int → Nat → Option Int) (key : Int → Int) (acc : Int → Bool) (F : List Int) : Aut := ⟨0, F.map acc, F.map (rowOfK step key F)⟩
/-- A state that is known keeps its number; a new one has the next. -/
theorem rowAtK_old {step : Int → Nat → Option Int} {key : Int → Int} {F gs t : List Int} {s x : Int} {k : Nat} (hF : F = gs ++ t) (h : step s k = some x) (hx : key x ∈ gs.map key) : rowAtK step key F s k = (posN (gs.map key) (key x) : Int) := by
  rw [rowAtK_some h, hF, List.map_append, posN_app _ _ _ hx]
theorem rowAtK_new {step : Int → Nat → Option Int} {key : Int → Int} {F gs t : List Int} {s x : Int} {k : Nat} (hF : F = (gs ++ [x]) ++ t) (h : step s k = some x) (hx : key x ∉ gs.map key) : rowAtK step key F s k = (gs.length : Int) := by
  rw [rowAtK_some h, hF, List.map_append, posN_app _ _ _ (by simp), List.map_append, List.map_cons, List.map_nil, posN_new _ _ hx, List.length_map]
/-- Where the key tells states apart, it is the machine's numbers. -/
theorem addK_is {key : Int → Int} {Q : Int → Prop} (hk : ∀ x, Q x → key x = x) {lim : Nat} {fs gs : List Int} {o : Option Int} (hf : ∀ x ∈ fs, Q x) (ho : ∀ x, o = some x → Q x) (h : addN lim fs o = some gs) : addK key fs o = gs := by
  have e1 : fs.map key = fs := by
    conv => rhs; rw [← List.map_id fs]
    exact List.map_congr_left (fun x hx => hk x (hf x hx))
  cases o with
  | none => simp [addN] at h; simp [addK, h]
  | some x =>
    unfold addK
    simp only
    rw [hk x (ho x rfl), e1]
    unfold addN at h
    simp only at h
    by_cases hx : x ∈ fs
    · rw [if_pos hx] at h ⊢; injection h
    · rw [if_neg hx] at h ⊢
      by_cases hl : fs.length = lim
      · rw [if_pos hl] at h; cases h
      · rw [if_neg hl] at h; injection h
theorem addN_Q {Q : Int → Prop} {lim : Nat} {fs gs : List Int} {o : Option Int} (hf : ∀ x ∈ fs, Q x) (ho : ∀ x, o = some x → Q x) (h : addN lim fs o = some gs) : ∀ x ∈ gs, Q x := by
  cases o with
  | none => simp [addN] at h; subst h; exact hf
  | some x =>
    unfold addN at h
    simp only at h
    by_cases hx : x ∈ fs
    · rw [if_pos hx] at h; injection h with h; subst h; exact hf
    · rw [if_neg hx] at h
      by_cases hl : fs.length = lim
      · rw [if_pos hl] at h; cases h
      · rw [if_neg hl] at h
        injection h with h
        subst h
        intro y hy
        rcases List.mem_append.1 hy with k | k
        · exact hf y k
        · simp at k; subst k; exact ho _ rfl
theorem rowK_is {step : Int → Nat → Option Int} {key : Int → Int} {Q : Int → Prop} (hk : ∀ x, Q x → key x = x) (hQ : ∀ s k x, k < 9 → Q s → step s k = some x → Q x) {lim : Nat} {s : Int} (hs : Q s) : ∀ m, m ≤ 9 → ∀ fs gs, (∀ x ∈ fs, Q x) → rowN step lim s m fs = some gs → rowK step key s m fs = gs ∧ ∀ x ∈ gs, Q x
  | 0, _, fs, gs, hf, h => by simp [rowN] at h; subst h; exact ⟨rfl, hf⟩
  | m + 1, hm, fs, gs, hf, h => by
    unfold rowN at h
    cases e : addN lim fs (step s (8 - m)) with
    | none => rw [e] at h; cases h
    | some g1 =>
      rw [e] at h
      have ho : ∀ x, step s (8 - m) = some x → Q x := fun x hx => hQ s (8 - m) x (by omega) hs hx
      have h1 := addK_is hk hf ho e
      obtain ⟨h2, h3⟩ := rowK_is hk hQ hs m (by omega) g1 gs (addN_Q hf ho e) h
      exact ⟨by unfold rowK; rw [h1]; exact h2, h3⟩
theorem runK_is {step : Int → Nat → Option Int} {key : Int → Int} {Q : Int → Prop} (hk : ∀ x, Q x → key x = x) (hQ : ∀ s k x, k < 9 → Q s → step s k = some x → Q x) {lim : Nat} : ∀ m p fs gs, (∀ x ∈ fs, Q x) → runN step lim m p fs = some gs → runK step key m p fs = gs
  | 0, p, fs, gs, hf, h => by simp [runN] at h; subst h; rfl
  | m + 1, p, fs, gs, hf, h => by
    unfold runN at h
    unfold runK
    cases e : fs[p]? with
    | none => rw [e] at h; simp only at h ⊢; injection h
    | some s =>
      rw [e] at h
      simp only at h ⊢
      have hs : Q s := hf s (List.mem_of_getElem? e)
      cases e2 : rowN step lim s 9 fs with
      | none => rw [e2] at h; cases h
      | some g1 =>
        rw [e2] at h
        obtain ⟨h1, h2⟩ := rowK_is hk hQ hs 9 (Nat.le_refl _) fs g1 hf e2
        rw [h1]
        exact runK_is hk hQ m (p + 1) g1 gs h2 h
theorem numK_is {step : Int → Nat → Option Int} {key : Int → Int} {Q : Int → Prop} (hk : ∀ x, Q x → key x = x) (hQ : ∀ s k x, k < 9 → Q s → step s k = some x → Q x) {s0 : Int} (h0 : Q s0) {F : List Int} (h : numN step 12 s0 = some F) : runK step key 13 0 [s0] = F :=
  runK_is hk hQ 13 0 [s0] F (fun x hx => by simp at hx; subst hx; exact h0) h
theorem autK_is {step : Int → Nat → Option Int} {key : Int → Int} {Q : Int → Prop} (hk : ∀ x, Q x → key x = x) (hQ : ∀ s k x, k < 9 → Q s → step s k = some x → Q x) (acc : Int → Bool) {F : List Int} (hF : ∀ x ∈ F, Q x) : autK step key acc F = autN step acc F := by
  have e1 : F.map key = F := by
    conv => rhs; rw [← List.map_id F]
    exact List.map_congr_left (fun x hx => hk x (hF x hx))
  unfold autK autN
  congr 1
  refine List.map_congr_left fun s hs => ?_
  unfold rowOfK rowOf
  refine List.map_congr_left fun k hk9 => ?_
  have hk9 := List.mem_range.1 hk9
  unfold rowAtK rowAt
  cases e : step s k with
  | none => rfl
  | some x =>
    have := hk x (hQ s k x hk9 (hF s hs) e)
    simp only
    rw [e1, this]
/-- What numbering by the key keeps. -/
def FsK (key : Int → Int) (Q : Int → Prop) (rs : List Int) : Prop := (rs.map key).Nodup ∧ ∀ x ∈ rs, Q x
theorem FsK.snoc {key : Int → Int} {Q : Int → Prop} {rs : List Int} (h : FsK key Q rs) {x : Int} (hx : key x ∉ rs.map key) (hq : Q x) : FsK key Q (rs ++ [x]) :=
  ⟨by rw [List.map_append]; exact nodup_snoc h.1 hx, fun y hy => by
    rcases List.mem_append.1 hy with k | k
    · exact h.2 y k
    · simp at k; subst k; exact hq⟩
theorem FsK.len {key : Int → Int} {Q : Int → Prop} {rs : List Int} (h : FsK key Q rs) {n : Nat} (hb : ∀ x, Q x → 0 ≤ key x ∧ key x < (n : Int)) : rs.length ≤ n := by
  have := pigeon_le (n := n) h.1 (fun x hx => by
    obtain ⟨y, hy, rfl⟩ := List.mem_map.1 hx
    exact hb y (h.2 y hy))
  rw [List.length_map] at this
  exact this
end Go.Proofs.Ytmaagihfjldgeaa

/- Rows of ints that grow side by side, and a slice of such rows: for the model's numbering. -/
namespace Go.Proofs.Ytmaagihfjldgeaa
set_option maxRecDepth 100000
open Go.ChangeShapes Go.WideShapes Go.ChangeAt Go.RowKit Go.Maps
set_option linter.unusedVariables false
set_option linter.unusedSimpArgs false

/-- What an append leaves of a value's place: the same block, or a new one. -/
def NewB (w : World) (v v' : Value) : Prop := v'.ownBlock = v.ownBlock ∨ ∃ g, v'.ownBlock = some g ∧ w.heap.size ≤ g
theorem Apart.newB {w : World} {a o o' : Value} (h : Apart a o) (hn : NewB w o o') (hl : ∀ g, a.ownBlock = some g → g < w.heap.size) : Apart a o' := by
  rcases hn with e | ⟨g, e, hg⟩
  · rcases h with h | h
    · exact .inl h
    · exact .inr (by rw [e]; exact h)
  · cases ha : a.ownBlock with
    | none => exact .inl ha
    | some q => exact .inr (by rw [ha, e]; intro k; injection k with k; have := hl q ha; omega)
/-- append of one number, with what becomes of the place. -/
theorem wpList_append_at {wr : World} {ops : Array Oper} {rest : List Oper} {o : Oper} {a : Act} {Q : Exit → Act → World → Prop} (hgd : o.guard = none) (s x : Operand)
    (ho : o.op = .call { callee := .builtin .append, args := #[s, x], argTypes := #[24, 24] }) (base : Nat) (v : Value) (xs : List Int) (hs : a.eval s = v) (hown : Own base wr v xs)
    (z : Int) (hx : a.eval x = .slice (some ⟨wr.heap.size, 0, none⟩) 1 1) (hz : InI z) (hlen : xs.length ≤ 4000000) (hb : base ≤ wr.heap.size)
    (h : ∀ v' w', Own base w' v' (xs ++ [z]) → wr.grownBy w' v.ownBlock → NewB wr v v' → wpList Try.prog ops Q rest (a.put o.dst v') w') : wpList Try.prog ops Q (o :: rest) a (wr.alloc (.cells #[.int .i64 z] 3)) := by
  have hal : Since wr (wr.alloc (.cells #[.int .i64 z] 3)) := (Since.refl wr).alloc _
  have hB : Blk (wr.alloc (.cells #[.int .i64 z] 3)) wr.heap.size 3 #[.int .i64 z] := Blk.new rfl _ _
  refine wpList_append_ints hgd s x ho base v xs hs (hown.since hal) (some ⟨wr.heap.size, 0, none⟩) 1 1 hx [z] ⟨fun y hy => by simp at hy; subst hy; exact hz, .inr ⟨wr.heap.size, 0, 1, rfl, by simp, fun i hi => ?_⟩⟩ (by simp; omega) (by simp; omega) ?_
  · obtain rfl : i = 0 := by simpa using hi
    exact hB.cell 0
  · intro v' w' h1 h2 h3
    refine h v' w' h1 ⟨h2.os, h2.tape, h2.output, Nat.le_trans (by simp) h2.size, fun i hi hn2 => (h2.block i (by simp; omega) hn2).trans (Below.heap_alloc wr _ i hi)⟩ ?_
    rcases h3 with h3 | h3
    · exact .inl h3
    · exact .inr ⟨_, h3, by simp⟩
/-- Rows of ints of the call's own in a slice that grows, apart from the values av. -/
def RowsO (base : Nat) (w : World) (no : Value) (xs : List (List Int)) (av : List Value) : Prop :=
  ∃ ps : List Value, w.ownsRow base 24 1 no xs.length ps ∧ ps.length = xs.length ∧ (∀ i (h : i < ps.length) (h2 : i < xs.length), Own base w ps[i] xs[i]) ∧ (∀ i j (hi : i < ps.length) (hj : j < ps.length), i ≠ j → Apart ps[i] ps[j]) ∧
    ∀ i (h : i < ps.length), ∀ u ∈ av, Apart ps[i] u
section
variable {base : Nat} {w w' : World} {no : Value} {xs : List (List Int)} {av av' : List Value}
theorem RowsO.nil (base : Nat) (w : World) (av : List Value) : RowsO base w nilS [] av := ⟨[], World.ownsRow_nil _ _ _ _, rfl, fun i h => by simp at h, fun i j h => by simp at h, fun i h => by simp at h⟩
theorem RowsO.since (h : RowsO base w no xs av) (k : Since w w') : RowsO base w' no xs av := by
  obtain ⟨ps, h1, h2, h3, h4, h5⟩ := h
  exact ⟨ps, row_since h1 k, h2, fun i hi h => (h3 i hi h).since k, h4, h5⟩
theorem RowsO.fewer (h : RowsO base w no xs av) (k : ∀ u ∈ av', u ∈ av) : RowsO base w no xs av' := by
  obtain ⟨ps, h1, h2, h3, h4, h5⟩ := h
  exact ⟨ps, h1, h2, h3, h4, fun i hi u hu => h5 i hi u (k u hu)⟩
/-- A block of another type has turned, or none of these. -/
theorem RowsO.other (h : RowsO base w no xs av) {r : Option Nat} (k : w.grownBy w' r) (hr : ∀ q, r = some q → ∀ cs t fz, w.heap[q]? = some (.cells cs t fz) → t ≠ 3 ∧ t ≠ 24) : RowsO base w' no xs av := by
  obtain ⟨ps, h1, h2, h3, h4, h5⟩ := h
  refine ⟨ps, h1.kept k ?_, h2, fun i hi h => (h3 i hi h).grownX k ?_, h4, h5⟩
  · cases e : no.ownBlock with
    | none => exact .inl rfl
    | some q =>
      refine .inr fun e2 => ?_
      obtain ⟨cs, fz, hq⟩ := own_block_of h1 q e
      exact (hr q e2.symm _ _ _ hq).2 rfl
  · cases e : (ps[i]).ownBlock with
    | none => exact .inl rfl
    | some q =>
      refine .inr fun e2 => ?_
      obtain ⟨cs, fz, hq⟩ := own_block_of (h3 i hi h).2 q e
      exact (hr q e2.symm _ _ _ hq).1 rfl
theorem RowsO.lt (h : RowsO base w no xs av) : ∀ q, no.ownBlock = some q → base ≤ q ∧ q < w.heap.size := by
  obtain ⟨ps, h1, _⟩ := h
  exact h1.lt
/-- One of the ints beside has grown. -/
theorem RowsO.int (h : RowsO base w no xs av) {o : Value} {zs : List Int} (k : w.grownBy w' o.ownBlock) (hown : Own base w o zs) (ho : o ∈ av) (hav : ∀ u ∈ av', u ∈ av ∨ NewB w o u) : RowsO base w' no xs av' := by
  obtain ⟨ps, h1, h2, h3, h4, h5⟩ := h
  have hlt : ∀ i (hi : i < ps.length) g, (ps[i]).ownBlock = some g → g < w.heap.size := fun i hi g e => ((h3 i hi (by omega)).2.lt g e).2
  exact ⟨ps, h1.kept k (apart_types h1 hown.2 (by decide)), h2, fun i hi h => (h3 i hi h).grownX k (h5 i hi o ho), h4, fun i hi u hu => by
    rcases hav u hu with hu | hu
    · exact h5 i hi u hu
    · exact (h5 i hi o ho).newB hu (hlt i hi)⟩
/-- .. of which one has become a row. -/
theorem RowsO.push (h : RowsO base w no xs av) {p : Value} {x : List Int} (hp : p ∈ av) (hown : Own base w p x) {no' : Value} (hr : ∀ ps, ps.length = xs.length → w.ownsRow base 24 1 no xs.length ps → w'.ownsRow base 24 1 no' (xs.length + 1) (ps ++ [p])) (k : w.grownBy w' no.ownBlock) (hav : ∀ u ∈ av', u ∈ av ∧ Apart p u) :
    RowsO base w' no' (xs ++ [x]) av' := by
  obtain ⟨ps, h1, h2, h3, h4, h5⟩ := h
  have hk : ∀ (v : Value) (l : List Int), Own base w v l → Own base w' v l := fun v l hv => hv.grownX k (apart_types hv.2 h1 (by decide))
  refine ⟨ps ++ [p], by rw [List.length_append]; exact hr ps h2 h1, by simp [h2], fun i hi hx => ?_, fun i j hi hj hne => ?_, fun i hi u hu => ?_⟩
  · by_cases e : i < ps.length
    · rw [List.getElem_append_left e, List.getElem_append_left (by omega)]
      exact hk _ _ (h3 i e (by omega))
    · have e2 : i = xs.length := by simp at hi; omega
      subst e2
      rw [List.getElem_append_right (by omega), List.getElem_append_right (by omega)]
      simp only [h2, Nat.sub_self, List.getElem_cons_zero]
      exact hk _ _ hown
  · have hl : ∀ i (hi : i < (ps ++ [p]).length), ¬ i < ps.length → (ps ++ [p])[i] = p := fun i hi e => by
      rw [List.getElem_append_right (by omega)]
      have : i - ps.length = 0 := by simp at hi; omega
      simp [this]
    by_cases e : i < ps.length
    · rw [List.getElem_append_left e]
      by_cases e2 : j < ps.length
      · rw [List.getElem_append_left e2]; exact h4 i j e e2 hne
      · rw [hl j hj e2]; exact h5 i e p hp
    · rw [hl i hi e]
      by_cases e2 : j < ps.length
      · rw [List.getElem_append_left e2]; exact (h5 j e2 p hp).symm
      · simp at hi hj; omega
  · by_cases e : i < ps.length
    · rw [List.getElem_append_left e]; exact h5 i e u (hav u hu).1
    · have : (ps ++ [p])[i] = p := by
        rw [List.getElem_append_right (by omega)]
        have : i - ps.length = 0 := by simp at hi; omega
        simp [this]
      rw [this]; exact (hav u hu).2
theorem RowsO.done (h : RowsO base w no xs av) {lo : Nat} (hlo : lo ≤ base) : OwnSS lo w.heap.size w no xs := by
  obtain ⟨ps, h1, h2, h3, h4, _⟩ := h
  refine ⟨ps, row_mono h1 hlo, h2, fun q hq => ?_, fun i hi hx => ⟨(h3 i hi hx).mono hlo, fun q hq => ?_⟩, h4⟩
  · have := h1.lt q hq; omega
  · have := (h3 i hi hx).2.lt q hq; omega
theorem RowsO.len (h : RowsO base w no xs av) : ∃ ao cap, no = .slice ao xs.length cap := by
  obtain ⟨ps, h1, _⟩ := h
  rcases h1.2 with ⟨hv, hn⟩ | ⟨g, cap, cur, rfl, hb, hg, _⟩
  · exact ⟨none, 0, by rw [hv, hn]⟩
  · exact ⟨_, cap, rfl⟩
end
/-- append of a row onto rows. -/
theorem run_append_rowv (w : World) (base : Nat) (ty : TypeId) (v : Value) (n : Nat) (ps : List Value) (hown : w.ownsRow base 24 1 v n ps) (b : Nat) (p : Value) (hB : Blk w b 24 #[p]) (hp : p.oneCell' = true)
    (hlen : n ≤ 4194303) (hbase : base ≤ w.heap.size) :
    ∃ v' w', (Builtin.append_ #[37, 37] ty #[v, .slice (some ⟨b, 0, none⟩) 1 1]).run Try.prog w = .ok v' w' ∧ w'.ownsRow base 24 1 v' (n + 1) (ps ++ [p]) ∧ w.grownBy w' v.ownBlock ∧ (v'.ownBlock = v.ownBlock ∨ v'.ownBlock = some w.heap.size) := by
  have hs : SrcAt w (some ⟨b, 0, none⟩) [p] := fun _ => ⟨⟨b, 0, none⟩, rfl, fun j u hu => by
    rw [add_plain, Nat.zero_add, hB.cell, ← hu, ← Array.getElem?_toList]⟩
  exact run_append_src w base 37 ty 24 nilS 1 24 Try.underlying37 info_ints rfl (by decide) v n ps hown (some ⟨b, 0, none⟩) 1 1 [p] rfl hs (by intro u hu; simp at hu; subst hu; exact hp) (by unfold maxLen; omega) (by omega) hbase
end Go.Proofs.Ytmaagihfjldgeaa
