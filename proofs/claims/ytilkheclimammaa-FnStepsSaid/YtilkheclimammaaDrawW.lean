/- The drawing of a graph: what holds of the memory while a graph is drawn into a local variable (block G) by a cursor (block cb). -/
import Derived.Test.YtilkheclimammaaDrawP
import Derived.Test.YtilkheclimammaaK1
namespace Go.Proofs.Ytilkheclimammaa
set_option maxRecDepth 100000
set_option linter.unusedVariables false
open Go.ChangeShapes Go.WideShapes Go.ChangeAt Go.RowKit

/-- Old blocks but cb and G are as they were. -/
structure Two (cb G : Nat) (y w : World) : Prop where
  os : w.os = y.os
  tape : w.tape = y.tape
  output : w.output = y.output
  size : y.heap.size ≤ w.heap.size
  block : ∀ k, k < y.heap.size → k ≠ cb → k ≠ G → w.heap[k]? = y.heap[k]?
theorem Two.refl (cb G : Nat) (y : World) : Two cb G y y := ⟨rfl, rfl, rfl, Nat.le_refl _, fun _ _ _ _ => rfl⟩
theorem Two.grown {cb G : Nat} {y a b : World} {row : Option Nat} (h : Two cb G y a) (k : a.grownBy b row) (hr : ∀ j, row = some j → j = cb ∨ j = G ∨ y.heap.size ≤ j) : Two cb G y b :=
  ⟨k.os.trans h.os, k.tape.trans h.tape, k.output.trans h.output, Nat.le_trans h.size k.size, fun i hi h1 h2 => (k.block i (Nat.lt_of_lt_of_le hi h.size) (fun e => by have := hr i e.symm; omega)).trans (h.block i hi h1 h2)⟩
theorem Two.turn {cb G : Nat} {y w w0 : World} (h : Two cb G y w) (k : Turn cb w0 y) (hG : w0.heap.size ≤ G) : Turn cb w0 w :=
  ⟨h.os.trans k.os, h.tape.trans k.tape, h.output.trans k.output, Nat.le_trans k.size h.size, fun i hi hn => (h.block i (Nat.lt_of_lt_of_le hi k.size) (fun e => hn (by rw [e])) (by omega)).trans (k.block i hi hn)⟩
theorem grown_since {a b : World} (h : Since a b) : a.grownBy b none := ⟨h.os, h.tape, h.output, h.size, fun i hi _ => h.block i hi⟩
theorem grown_set (w : World) (G o : Nat) (u : Value) : w.grownBy (w.setCell ⟨G, o, none⟩ u) (some G) :=
  ⟨rfl, rfl, rfl, by simp [World.setCell], fun i hi hn => Below.heap_setCell w ⟨G, o, none⟩ u i (fun e => hn (by rw [e]))⟩
theorem Blk.grownQ {w w' : World} {g : Nat} {t : TypeId} {cs : Array Value} {row : Option Nat} (h : Blk w g t cs) (k : w.grownBy w' row) (hd : some g ≠ row) : Blk w' g t cs := (k.block g h.lt hd).trans h
/-- A literal list of ints in block lb. -/
def LitAt (w : World) (lb : Nat) (l : List Int) : Prop := lb < w.heap.size ∧ ∀ j (h : j < l.length), w.cell? ⟨lb, j, none⟩ = some (.int .i64 l[j])
theorem LitAt.new (w : World) (l : List Int) (A : Array Value) (hA : A = (l.map icell).toArray) : LitAt (w.alloc (.cells A 3)) w.heap.size l := by
  refine ⟨by simp, fun j hj => ?_⟩
  rw [World.cell?_alloc_at _ _ _ _ rfl, hA, List.getElem?_toArray, List.getElem?_map, List.getElem?_eq_getElem hj]; rfl
theorem LitAt.grown {w w' : World} {lb : Nat} {l : List Int} {row : Option Nat} (h : LitAt w lb l) (k : w.grownBy w' row) (hd : some lb ≠ row) : LitAt w' lb l :=
  ⟨Nat.lt_of_lt_of_le h.1 k.size, fun j hj => (World.cell?_of_block (w := w) (w' := w') (a := ⟨lb, j, none⟩) (k.block lb h.1 hd)).trans (h.2 j hj)⟩
/-- l1PickInt over a literal that stands in memory. -/
theorem pick_at (l : List Int) (B cb lb n : Nat) (w : World) (hc : Cur B w cb) (hne : lb ≠ cb) (hl : LitAt w lb l) (hn : n = l.length) (h0 : 0 < n) (h9 : n ≤ 1000) :
    Calls Try.prog 92 #[.pointer (some ⟨cb, 0, none⟩), .slice (some ⟨lb, 0, none⟩) n n] w (PickOut l B cb w) := by
  have HL := Lib.hid hl
  have HNE := Lib.hid hne
  have HN := Lib.hid hn
  have HC := Lib.hid hc
  clear hl hne hn hc
  go_enter Try.func92, Try.ntmps92
  go_wp2_with fail
  refine (l1Below_any B cb n _ HC.out (by omega) (by omega)).mono ?_
  rintro e w1 ⟨x, hx0, hx9, rfl, hc1, ht1⟩
  obtain ⟨x, rfl⟩ := Int.eq_ofNat_of_zero_le hx0
  have hxn : x < n := by omega
  have hxl : x < l.length := by have := HN.out; omega
  have hy1 : w1.cell? ⟨lb, x, none⟩ = some (.int .i64 l[x]) := (HL.out.grown ht1 (fun e => HNE.out (by injection e))).2 x hxl
  have HC1 := Lib.hid hc1
  have HT1 := Lib.hid ht1
  have HM := Lib.hid (List.getElem_mem hxl)
  generalize l[x] = z at hy1 HM
  clear hc1 ht1
  go_wp2_with fail
  go_ret
  exact ⟨z, HM.out, rfl, HC1.out, HT1.out⟩

/-- The state: the cursor, the old blocks, the local graph's two cells, its rows. -/
structure DG (B cb G : Nat) (y w : World) (v v2 : Value) (xs : List Int) (es : List Edg) : Prop where
  cur : Cur B w cb
  two : Two cb G y w
  blk : Blk w G 27 #[v, v2]
  own : Own (G + 1) w v xs
  ownE : OwnE (G + 1) w v2 es
section
variable {B cb G : Nat} {y w w' : World} {v v2 : Value} {xs : List Int} {es : List Edg}
theorem own_block_not {base k : Nat} (h : Own base w v xs) (hk : k < base) : v.ownBlock = none ∨ v.ownBlock ≠ some k := by
  cases e : v.ownBlock with
  | none => exact .inl rfl
  | some j => exact .inr (fun e2 => by have := h.2.lt j e; injection e2 with e2; omega)
theorem ownE_block_not {base k : Nat} (h : OwnE base w v2 es) (hk : k < base) : v2.ownBlock = none ∨ v2.ownBlock ≠ some k := by
  cases e : v2.ownBlock with
  | none => exact .inl rfl
  | some j => exact .inr (fun e2 => by have := h.2.lt j e; injection e2 with e2; omega)
theorem DG.since (h : DG B cb G y w v v2 xs es) (k : Since w w') : DG B cb G y w' v v2 xs es :=
  ⟨h.cur.since k, h.two.grown (grown_since k) (fun _ e => by cases e), h.blk.since k, h.own.since k, h.ownE.since k⟩
theorem DG.turn (h : DG B cb G y w v v2 xs es) (hcb : cb < G) (hc : Cur B w' cb) (k : Turn cb w w') : DG B cb G y w' v v2 xs es :=
  ⟨hc, h.two.grown k (fun j e => .inl (by injection e with e; exact e.symm)), h.blk.grownQ k (fun e => by injection e; omega), h.own.grownX k (own_block_not h.own (by omega)), h.ownE.grownX k (ownE_block_not h.ownE (by omega))⟩
theorem DG.push (h : DG B cb G y w v v2 xs es) (hcb : cb < G) (hy : y.heap.size = G + 1) {u : Value} {zs : List Int} (ho : Own (G + 1) w' u zs) (k : w.grownBy w' v.ownBlock) : Cur B w' cb ∧ Two cb G y w' ∧ Blk w' G 27 #[v, v2] ∧ Own (G + 1) w' u zs ∧ OwnE (G + 1) w' v2 es :=
  ⟨h.cur.grown k (fun j e => by have := h.own.2.lt j e; omega), h.two.grown k (fun j e => by have := h.own.2.lt j e; omega), h.blk.grownQ k (fun e => by have := h.own.2.lt G e.symm; omega), ho, h.ownE.grownX k (own_apart' h.own h.ownE)⟩
theorem DG.pushE (h : DG B cb G y w v v2 xs es) (hcb : cb < G) (hy : y.heap.size = G + 1) {u : Value} {zs : List Edg} (ho : OwnE (G + 1) w' u zs) (k : w.grownBy w' v2.ownBlock) : Cur B w' cb ∧ Two cb G y w' ∧ Blk w' G 27 #[v, v2] ∧ Own (G + 1) w' v xs ∧ OwnE (G + 1) w' u zs :=
  ⟨h.cur.grown k (fun j e => by have := h.ownE.2.lt j e; omega), h.two.grown k (fun j e => by have := h.ownE.2.lt j e; omega), h.blk.grownQ k (fun e => by have := h.ownE.2.lt G e.symm; omega), h.own.grownX k (own_apart h.own h.ownE), ho⟩
theorem DG.set0 (hcb : cb < G) {u : Value} (h : Cur B w cb ∧ Two cb G y w ∧ Blk w G 27 #[v, v2] ∧ Own (G + 1) w u xs ∧ OwnE (G + 1) w v2 es) : DG B cb G y (w.setCell ⟨G, 0, none⟩ u) u v2 xs es := by
  obtain ⟨h1, h2, h3, h4, h5⟩ := h
  have k := grown_set w G 0 u
  exact ⟨h1.grown k (fun j e => by injection e; omega), h2.grown k (fun j e => .inr (.inl (by injection e with e; exact e.symm))), h3.set 0 u, h4.far (by simp) u, h5.far (by simp) u⟩
theorem DG.set1 (hcb : cb < G) {u : Value} (h : Cur B w cb ∧ Two cb G y w ∧ Blk w G 27 #[v, v2] ∧ Own (G + 1) w v xs ∧ OwnE (G + 1) w u es) : DG B cb G y (w.setCell ⟨G, 1, none⟩ u) v u xs es := by
  obtain ⟨h1, h2, h3, h4, h5⟩ := h
  have k := grown_set w G 1 u
  exact ⟨h1.grown k (fun j e => by injection e; omega), h2.grown k (fun j e => .inr (.inl (by injection e with e; exact e.symm))), h3.set 1 u, h4.far (by simp) u, h5.far (by simp) u⟩
end
end Go.Proofs.Ytilkheclimammaa
