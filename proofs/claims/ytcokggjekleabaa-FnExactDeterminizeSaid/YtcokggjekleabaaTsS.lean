/- The state of the model's determinizing: what it holds, round by round (after the model's numbering). -/
import Derived.Test.YtcokggjekleabaaA4
import Derived.Test.YtcokggjekleabaaTrN
import Derived.Test.YtcokggjekleabaaPsE
namespace Go.Proofs.Ytcokggjekleabaa
set_option maxRecDepth 100000
open Go.ChangeShapes Go.WideShapes Go.ChangeAt Go.RowKit Go.Maps
set_option linter.unusedVariables false
set_option linter.unusedSimpArgs false

/-- Between the rounds. -/
structure NpO (w : World) (CS : Array Value) (wr : World) (ov rv bv nv : Value) (os rs : List Int) (bs : List Bool) (xs : List (List Int)) : Prop where
  so : Own (w.heap.size + 3) wr ov os
  sr : Own (w.heap.size + 3) wr rv rs
  ap : Apart ov rv
  sb : OwnBo (w.heap.size + 3) wr bv bs
  sn : RowsO (w.heap.size + 3) wr nv xs [ov, rv]
  bx : Blk wr (w.heap.size + 2) 27 #[.int .i64 0, bv, nv]
  b0 : Blk wr w.heap.size 41 CS
  b1 : Blk wr (w.heap.size + 1) 27 #[.int .i64 0, nilS, nilS]
  sc : Since w wr
/-- In a round: with the row under way. -/
structure NpT (w : World) (CS : Array Value) (wr : World) (ov rv bv nv tv : Value) (os rs : List Int) (bs : List Bool) (xs : List (List Int)) (ts : List Int) : Prop where
  so : Own (w.heap.size + 3) wr ov os
  sr : Own (w.heap.size + 3) wr rv rs
  st : Own (w.heap.size + 3) wr tv ts
  ap : Apart ov rv
  a1 : Apart ov tv
  a2 : Apart rv tv
  sb : OwnBo (w.heap.size + 3) wr bv bs
  sn : RowsO (w.heap.size + 3) wr nv xs [ov, rv, tv]
  bx : Blk wr (w.heap.size + 2) 27 #[.int .i64 0, bv, nv]
  b0 : Blk wr w.heap.size 41 CS
  b1 : Blk wr (w.heap.size + 1) 27 #[.int .i64 0, nilS, nilS]
  sc : Since w wr
section
variable {w wr w' : World} {CS : Array Value} {ov rv bv nv tv : Value} {os rs ts : List Int} {bs : List Bool} {xs : List (List Int)}
theorem NpO.lt (h : NpO w CS wr ov rv bv nv os rs bs xs) : w.heap.size + 3 ≤ wr.heap.size := h.bx.lt
theorem NpT.lt (h : NpT w CS wr ov rv bv nv tv os rs bs xs ts) : w.heap.size + 3 ≤ wr.heap.size := h.bx.lt
theorem NpT.since (h : NpT w CS wr ov rv bv nv tv os rs bs xs ts) (k : Since wr w') : NpT w CS w' ov rv bv nv tv os rs bs xs ts :=
  ⟨h.so.since k, h.sr.since k, h.st.since k, h.ap, h.a1, h.a2, h.sb.since k, h.sn.since k, h.bx.since k, h.b0.since k, h.b1.since k, h.sc.trans k⟩
/-- A new, empty row. -/
theorem NpO.begin (h : NpO w CS wr ov rv bv nv os rs bs xs) : NpT w CS (wr.alloc (.cells #[] 3)) ov rv bv nv (.slice (some ⟨wr.heap.size, 0, none⟩) 0 0) os rs bs xs [] := by
  have k : Since wr (wr.alloc (.cells #[] 3)) := (Since.refl _).alloc _
  have hl := h.lt
  have key : ∀ (v : Value) (l : List Int), Own (w.heap.size + 3) wr v l → Apart v (.slice (some ⟨wr.heap.size, 0, none⟩) 0 0) := fun v l hv => by
    cases e : v.ownBlock with
    | none => exact .inl e
    | some q => exact .inr fun e2 => by rw [e] at e2; simp [Value.ownBlock] at e2; have := (hv.2.lt q e).2; omega
  have hn := h.sn.add (u := .slice (some ⟨wr.heap.size, 0, none⟩) 0 0) (fun g e => by simp [Value.ownBlock] at e; omega)
  exact ⟨h.so.since k, h.sr.since k, ⟨fun x hx => by simp at hx, World.ownsRow_lit wr #[] 0 hl (Nat.zero_le _) rfl⟩, h.ap, key _ _ h.so, key _ _ h.sr, h.sb.since k,
    (hn.fewer (fun u hu => by simp at hu ⊢; rcases hu with hu | hu | hu <;> simp [hu])).since k, h.bx.since k, h.b0.since k, h.b1.since k, h.sc.trans k⟩
theorem NpT.ord (h : NpT w CS wr ov rv bv nv tv os rs bs xs ts) {ov' : Value} {os' : List Int} (ho : Own (w.heap.size + 3) w' ov' os') (k : wr.grownBy w' ov.ownBlock) (hn : NewB wr ov ov') : NpT w CS w' ov' rv bv nv tv os' rs bs xs ts := by
  have hr : ∀ q, ov.ownBlock = some q → w.heap.size + 3 ≤ q := fun q e => (h.so.2.lt q e).1
  refine ⟨ho, h.sr.grownX k h.ap.symm, h.st.grownX k h.a1.symm, (h.ap.symm.newB hn (own_ltX h.sr)).symm, (h.a1.symm.newB hn (own_ltX h.st)).symm, h.a2, bools_keep h.sb k h.so, h.sn.int k h.so (by simp) (fun u hu => ?_), blk_keep h.bx k hr (by omega), blk_keep h.b0 k hr (by omega), blk_keep h.b1 k hr (by omega), h.sc.grown k (fun j hj => by have := hr j hj; omega)⟩
  simp at hu
  rcases hu with hu | hu | hu
  · subst hu; exact .inr hn
  · left; simp [hu]
  · left; simp [hu]
theorem NpT.rep (h : NpT w CS wr ov rv bv nv tv os rs bs xs ts) {rv' : Value} {rs' : List Int} (ho : Own (w.heap.size + 3) w' rv' rs') (k : wr.grownBy w' rv.ownBlock) (hn : NewB wr rv rv') : NpT w CS w' ov rv' bv nv tv os rs' bs xs ts := by
  have hr : ∀ q, rv.ownBlock = some q → w.heap.size + 3 ≤ q := fun q e => (h.sr.2.lt q e).1
  refine ⟨h.so.grownX k h.ap, ho, h.st.grownX k h.a2.symm, h.ap.newB hn (own_ltX h.so), h.a1, (h.a2.symm.newB hn (own_ltX h.st)).symm, bools_keep h.sb k h.sr, h.sn.int k h.sr (by simp) (fun u hu => ?_), blk_keep h.bx k hr (by omega), blk_keep h.b0 k hr (by omega), blk_keep h.b1 k hr (by omega), h.sc.grown k (fun j hj => by have := hr j hj; omega)⟩
  simp at hu
  rcases hu with hu | hu | hu
  · left; simp [hu]
  · subst hu; exact .inr hn
  · left; simp [hu]
theorem NpT.row (h : NpT w CS wr ov rv bv nv tv os rs bs xs ts) {tv' : Value} {ts' : List Int} (ho : Own (w.heap.size + 3) w' tv' ts') (k : wr.grownBy w' tv.ownBlock) (hn : NewB wr tv tv') : NpT w CS w' ov rv bv nv tv' os rs bs xs ts' := by
  have hr : ∀ q, tv.ownBlock = some q → w.heap.size + 3 ≤ q := fun q e => (h.st.2.lt q e).1
  refine ⟨h.so.grownX k h.a1, h.sr.grownX k h.a2, ho, h.ap, h.a1.newB hn (own_ltX h.so), h.a2.newB hn (own_ltX h.sr), bools_keep h.sb k h.st, h.sn.int k h.st (by simp) (fun u hu => ?_), blk_keep h.bx k hr (by omega), blk_keep h.b0 k hr (by omega), blk_keep h.b1 k hr (by omega), h.sc.grown k (fun j hj => by have := hr j hj; omega)⟩
  simp at hu
  rcases hu with hu | hu | hu
  · left; simp [hu]
  · left; simp [hu]
  · subst hu; exact .inr hn
/-- The truth values have grown and are laid into the box. -/
theorem NpT.acc (h : NpT w CS wr ov rv bv nv tv os rs bs xs ts) {bv' : Value} {bs' : List Bool} (ho : OwnBo (w.heap.size + 3) w' bv' bs') (k : wr.grownBy w' bv.ownBlock) : NpT w CS (w'.setCell ⟨w.heap.size + 2, 1, none⟩ bv') ov rv bv' nv tv os rs bs' xs ts := by
  have hr : ∀ q, bv.ownBlock = some q → w.heap.size + 3 ≤ q := fun q e => (World.ownsRow.lt h.sb q e).1
  have hl := h.lt
  have ki : ∀ (v : Value) (l : List Int), Own (w.heap.size + 3) wr v l → Own (w.heap.size + 3) (w'.setCell ⟨w.heap.size + 2, 1, none⟩ bv') v l := fun v l hv =>
    (hv.grownX k (apart_types hv.2 h.sb (by decide))).far (p := ⟨w.heap.size + 2, 1, none⟩) (by show w.heap.size + 2 < w.heap.size + 3; omega) _
  have kx := blk_keep h.bx k hr (by omega)
  have hn : RowsO (w.heap.size + 3) w' nv xs [ov, rv, tv] := h.sn.other k (boolT h.sb)
  refine ⟨ki _ _ h.so, ki _ _ h.sr, ki _ _ h.st, h.ap, h.a1, h.a2, ho.far (p := ⟨w.heap.size + 2, 1, none⟩) (by show w.heap.size + 2 < w.heap.size + 3; omega) _, hn.other (grown_set w' (w.heap.size + 2) 1 bv') (fun q e cs t fz hq => ?_), kx.set 1 _, (blk_keep h.b0 k hr (by omega)).far (by show w.heap.size ≠ w.heap.size + 2; omega) _, (blk_keep h.b1 k hr (by omega)).far (by show w.heap.size + 1 ≠ w.heap.size + 2; omega) _, (h.sc.grown k (fun j hj => by have := hr j hj; omega)).setCell (by show w.heap.size ≤ w.heap.size + 2; omega) _⟩
  injection e with e
  subst e
  rw [kx] at hq
  injection hq with hq
  injection hq with _ hq _
  subst hq
  exact ⟨by decide, by decide⟩
/-- The row is laid into the rows, and they into the box. -/
theorem NpT.fin (h : NpT w CS wr ov rv bv nv tv os rs bs xs ts) {nv' : Value} (ho : ∀ ps, ps.length = xs.length → wr.ownsRow (w.heap.size + 3) 30 1 nv xs.length ps → w'.ownsRow (w.heap.size + 3) 30 1 nv' (xs.length + 1) (ps ++ [tv])) (k : wr.grownBy w' nv.ownBlock) : NpO w CS (w'.setCell ⟨w.heap.size + 2, 2, none⟩ nv') ov rv bv nv' os rs bs (xs ++ [ts]) := by
  have hr : ∀ q, nv.ownBlock = some q → w.heap.size + 3 ≤ q := fun q e => (h.sn.lt q e).1
  obtain ⟨ps0, p1, _⟩ := h.sn
  have hl := h.lt
  have ki : ∀ (v : Value) (l : List Int), Own (w.heap.size + 3) wr v l → Own (w.heap.size + 3) (w'.setCell ⟨w.heap.size + 2, 2, none⟩ nv') v l := fun v l hv =>
    (hv.grownX k (apart_types hv.2 p1 (by decide))).far (p := ⟨w.heap.size + 2, 2, none⟩) (by show w.heap.size + 2 < w.heap.size + 3; omega) _
  have kx := blk_keep h.bx k hr (by omega)
  have hn : RowsO (w.heap.size + 3) w' nv' (xs ++ [ts]) [ov, rv] := h.sn.push (p := tv) (by simp) h.st ho k (fun u hu => by
    simp at hu
    rcases hu with hu | hu
    · subst hu; exact ⟨by simp, h.a1.symm⟩
    · subst hu; exact ⟨by simp, h.a2.symm⟩)
  have hb2 : OwnBo (w.heap.size + 3) w' bv bs := World.ownsRow.kept h.sb k (apart_types (a := bv) (b := nv) h.sb p1 (by decide))
  refine ⟨ki _ _ h.so, ki _ _ h.sr, h.ap, hb2.far (p := ⟨w.heap.size + 2, 2, none⟩) (by show w.heap.size + 2 < w.heap.size + 3; omega) _, hn.other (grown_set w' (w.heap.size + 2) 2 nv') (fun q e cs t fz hq => ?_), kx.set 2 _, (blk_keep h.b0 k hr (by omega)).far (by show w.heap.size ≠ w.heap.size + 2; omega) _, (blk_keep h.b1 k hr (by omega)).far (by show w.heap.size + 1 ≠ w.heap.size + 2; omega) _, (h.sc.grown k (fun j hj => by have := hr j hj; omega)).setCell (by show w.heap.size ≤ w.heap.size + 2; omega) _⟩
  injection e with e
  subst e
  rw [kx] at hq
  injection hq with hq
  injection hq with _ hq _
  subst hq
  exact ⟨by decide, by decide⟩
theorem NpO.done (h : NpO w CS wr ov rv bv nv os rs bs xs) : OwnA (w.heap.size + 3) wr.heap.size wr (.agg #[.int .i64 0, bv, nv]) ⟨0, bs, xs⟩ :=
  ⟨_, _, rfl, by unfold InI; simp, h.sb, OwnBo.inR h.sb, h.sn.done (Nat.le_refl _)⟩
end
theorem NpT.mid {w wr w' : World} {CS : Array Value} {ov rv bv nv tv : Value} {os rs ts : List Int} {bs : List Bool} {xs : List (List Int)} (h : NpT w CS wr ov rv bv nv tv os rs bs xs ts) (k : wr.grownBy w' bv.ownBlock) :
    Blk w' w.heap.size 41 CS ∧ Own (w.heap.size + 3) w' rv rs ∧ Since w w' ∧ Blk w' (w.heap.size + 2) 27 #[.int .i64 0, bv, nv] := by
  have hr : ∀ q, bv.ownBlock = some q → w.heap.size + 3 ≤ q := fun q e => (World.ownsRow.lt h.sb q e).1
  exact ⟨blk_keep h.b0 k hr (by omega), h.sr.grownX k (apart_types h.sr.2 h.sb (by decide)), h.sc.grown k (fun j hj => by have := hr j hj; omega), blk_keep h.bx k hr (by omega)⟩
end Go.Proofs.Ytcokggjekleabaa
