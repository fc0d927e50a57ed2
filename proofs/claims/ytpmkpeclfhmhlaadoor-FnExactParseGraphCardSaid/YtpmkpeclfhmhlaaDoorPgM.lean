/- ParseGraph: what it answers. -/
import Derived.Test.YtpmkpeclfhmhlaaDoorPeI
import Derived.Test.YtpmkpeclfhmhlaaDoorK1
import Derived.Test.YtpmkpeclfhmhlaaDoorK2
namespace Go.Proofs.YtpmkpeclfhmhlaaDoor
set_option maxRecDepth 100000
open Go.ChangeShapes Go.WideShapes Go.ChangeAt Go.RowKit
set_option linter.unusedVariables false

def vsOf (p : ByteArray) : List Int := p.data.toList.map fun b => (b.toNat : Int) - 48
def esOf (r : List ByteArray) : List Edg := r.map fun q => (peO q).1
def okE (r : List ByteArray) : Bool := r.all fun q => (peO q).2
/-- What the parts of a graph's text say: the graph is one, and which. -/
def pgB (p : ByteArray) (r : List ByteArray) : Bool := okE r && validB ⟨vsOf p, esOf r⟩
def pgG (p : ByteArray) (r : List ByteArray) : Grf := if pgB p r = true then ⟨vsOf p, esOf r⟩ else ⟨[], []⟩
theorem pg_no {p : ByteArray} {r : List ByteArray} (h : pgB p r = false) : pgG p r = ⟨[], []⟩ := by unfold pgG; rw [h]; exact if_neg (by decide)
theorem pg_yes {p : ByteArray} {r : List ByteArray} (h : pgB p r = true) : pgG p r = ⟨vsOf p, esOf r⟩ := by unfold pgG; exact if_pos h
theorem pg_bad {p : ByteArray} {r : List ByteArray} (k : Nat) (hk : k < r.length) (h : (peO r[k]).2 = false) : pgB p r = false := by
  unfold pgB okE
  rw [Bool.and_eq_false_iff]; left
  rw [List.all_eq_false]
  exact ⟨r[k], List.getElem_mem hk, by simp [h]⟩
theorem vsOf_length (p : ByteArray) : (vsOf p).length = p.size := by unfold vsOf; rw [List.length_map]; exact Array.length_toList
theorem esOf_length (r : List ByteArray) : (esOf r).length = r.length := by unfold esOf; rw [List.length_map]
theorem valid_len {g : Grf} (h : validB g = true) : g.vs.length ≤ 5 ∧ g.es.length ≤ 12 := by
  have := ((validB_iff g).1 h).1; omega
theorem pg_long {p : ByteArray} {r : List ByteArray} (h : 12 < r.length ∨ 5 < p.size) : pgB p r = false := by
  unfold pgB
  rw [Bool.and_eq_false_iff]; right
  cases hv : validB ⟨vsOf p, esOf r⟩ with
  | false => rfl
  | true => have := valid_len hv; simp only [vsOf_length, esOf_length] at this; omega
theorem okE_take {r : List ByteArray} (k : Nat) (h : k < r.length) (h1 : okE (r.take k) = true) (h2 : (peO r[k]).2 = true) : okE (r.take (k + 1)) = true := by
  unfold okE at *
  rw [List.take_succ_eq_append_getElem h, List.all_append, h1]; simp [h2]
theorem esOf_take {r : List ByteArray} (k : Nat) (h : k < r.length) : (esOf r).take (k + 1) = (esOf r).take k ++ [(peO r[k]).1] := by
  rw [List.take_succ_eq_append_getElem (by rw [esOf_length]; exact h)]; unfold esOf; rw [List.getElem_map]
theorem vsOf_take {p : ByteArray} (k : Nat) (h : k < p.size) : (vsOf p).take (k + 1) = (vsOf p).take k ++ [(p[k].toNat : Int) - 48] := by
  rw [List.take_succ_eq_append_getElem (by rw [vsOf_length]; exact h)]; unfold vsOf; rw [List.getElem_map]; rfl
/-- The model reads six values and thirteen edges at most: enough to see that there are too many. -/
theorem pg_cut (p : ByteArray) (r : List ByteArray) (a b : Nat) (ha : a = min p.size 6) (hb : b = min r.length 13) (h : okE (r.take b) = true) :
    validB ⟨(vsOf p).take a, (esOf r).take b⟩ = pgB p r := by
  by_cases h1 : 12 < r.length ∨ 5 < p.size
  · rw [pg_long h1]
    cases hv : validB ⟨(vsOf p).take a, (esOf r).take b⟩ with
    | false => rfl
    | true => have := valid_len hv; simp only [List.length_take, vsOf_length, esOf_length] at this; omega
  · have e1 : (vsOf p).take a = vsOf p := List.take_of_length_le (by rw [vsOf_length]; omega)
    have e2 : (esOf r).take b = esOf r := List.take_of_length_le (by rw [esOf_length]; omega)
    have e3 : r.take b = r := List.take_of_length_le (by omega)
    rw [e3] at h
    rw [e1, e2]; unfold pgB; rw [h]; simp
theorem pg_same {p : ByteArray} {r : List ByteArray} {a b : Nat} (h : pgB p r = true) (ha : a = min p.size 6) (hb : b = min r.length 13) : pgG p r = ⟨(vsOf p).take a, (esOf r).take b⟩ := by
  rw [pg_yes h]
  have h1 : ¬ (12 < r.length ∨ 5 < p.size) := fun k => by rw [pg_long k] at h; cases h
  rw [List.take_of_length_le (by rw [vsOf_length]; omega), List.take_of_length_le (by rw [esOf_length]; omega)]
theorem plN_lt (s : ByteArray) : plN s ≤ 8 ∧ 0 ≤ plN s := ⟨(plN_half s).2.2.2, (plN_half s).2.2.1⟩
theorem pOut_in64 (l : List UInt8) : InI (pOut l).1 := by
  by_cases h : Acc l
  · rw [pOut_in h]; have := sval_bounds l h.2.1; unfold InI; simp only; omega
  · rw [pOut_out h]; unfold InI; simp
theorem gb_in (m : ByteArray) (i : Nat) : 0 ≤ gb m i ∧ gb m i < 256 := by
  unfold gb; split
  · rename_i h; have := byte_lt m i h; omega
  · omega
theorem peO_in (s : ByteArray) : (peO s).1.In := by
  unfold peO
  split
  · split
    · rename_i a m _ _
      refine ⟨pOut_in64 _, ?_, ?_, ?_⟩
      · have := gb_in m 0; unfold InI eOf; simp only; omega
      · have := gb_in m 2; unfold InI eOf; simp only; omega
      · have := plN_half (m.extract 1 2); unfold InI eOf; simp only; omega
    · exact zeroE_in
  · exact zeroE_in
theorem within_grown {lo hi : Nat} {y a b : World} {row : Option Nat} (h : Within lo hi y a) (k : a.grownBy b row) (hr : ∀ j, row = some j → y.heap.size ≤ j) : Within lo hi y b :=
  ⟨k.os.trans h.os, k.tape.trans h.tape, k.output.trans h.output, Nat.le_trans h.size k.size, fun i hi hn => (k.block i (Nat.lt_of_lt_of_le hi h.size) (fun e => by have := hr i e.symm; omega)).trans (h.block i hi hn)⟩
theorem ints_one (W : World) (x : Int) (hx : InI x) : IntsAt (W.alloc (.cells #[.int .i64 x] 3)) (.slice (some ⟨W.heap.size, 0, none⟩) 1 1) [x] := by
  refine ⟨fun y hy => by rw [List.mem_singleton.1 hy]; exact hx, .inr ⟨_, 0, 1, rfl, by simp, fun i hi => ?_⟩⟩
  obtain rfl : i = 0 := by simpa using hi
  exact (Blk.new (g := W.heap.size) (w := W) rfl 3 #[.int .i64 x]).cell 0
theorem edges_one (W : World) (e : Edg) (he : e.In) (b : Nat) (hb : b = W.heap.size) : EdgesAt (W.alloc (.cells #[.int .i64 e.id, .int .i64 e.fr, .int .i64 e.to, .int .i64 e.lb] 25)) (.slice (some ⟨b, 0, none⟩) 1 1) [e] :=
  (ownE_one W W (Since.refl W) e he b hb).at
theorem own_not {base G : Nat} {w : World} {v : Value} {xs : List Int} (h : Own base w v xs) (hG : G < base) : some G ≠ v.ownBlock := fun e => by have := h.2.lt G e.symm; omega
theorem ownE_not {base G : Nat} {w : World} {v : Value} {xs : List Edg} (h : OwnE base w v xs) (hG : G < base) : some G ≠ v.ownBlock := fun e => by have := h.2.lt G e.symm; omega
end Go.Proofs.YtpmkpeclfhmhlaaDoor
