/- TrvE, TrvG, Tof, Dlt, TrvD, StO, StS, StF, Api: small words and contracts that the other texts use. -/
import Derived.Test.YtmaagihfjldgeaaK1
import Derived.Test.YtmaagihfjldgeaaK0
import Derived.Test.YtmaagihfjldgeaaK2
import Derived.Laws.StructEq
import Derived.Deep.RegionLaw
import Derived.Lib.SliceRun
/- The program's traversals of an edge: both its steps. -/
namespace Go.Proofs.Ytmaagihfjldgeaa
set_option maxRecDepth 100000
open Go.ChangeShapes Go.WideShapes Go.ChangeAt Go.RowKit
set_option linter.unusedVariables false
set_option linter.unusedSimpArgs false

def fwdT (e : Edg) : Trv := ⟨e.id, false, e.fr, e.to, 2 * e.lb⟩
def invT (e : Edg) : Trv := ⟨e.id, true, e.to, e.fr, 2 * e.lb + 1⟩
def both (e : Edg) : List Trv := [fwdT e, invT e]
def travL (es : List Edg) : List Trv := es.flatMap both
theorem travL_length (es : List Edg) : (travL es).length = es.length * 2 := fcells_len2 (fun _ => rfl) es
theorem invL_move {x : Int} (h0 : 0 ≤ x) (h2 : x ≤ 2) : invL (2 * x) = 2 * x + 1 := by
  have h : x = 0 ∨ x = 1 ∨ x = 2 := by omega
  rcases h with h | h | h <;> subst h <;> decide
theorem Blk.five {w : World} {g : Nat} {t : TypeId} {a b c d e : Value} (h : Blk w g t #[a, b, c, d, e]) : w.cell? ⟨g, 0, none⟩ = some a ∧ w.cell? ⟨g, 1, none⟩ = some b ∧ w.cell? ⟨g, 2, none⟩ = some c ∧ w.cell? ⟨g, 3, none⟩ = some d ∧ w.cell? ⟨g, 4, none⟩ = some e ∧
    w.frozen? ⟨g, 0, none⟩ = false ∧ w.frozen? ⟨g, 1, none⟩ = false ∧ w.frozen? ⟨g, 2, none⟩ = false ∧ w.frozen? ⟨g, 3, none⟩ = false ∧ w.frozen? ⟨g, 4, none⟩ = false :=
  ⟨h.cell 0, h.cell 1, h.cell 2, h.cell 3, h.cell 4, h.frozen 0, h.frozen 1, h.frozen 2, h.frozen 3, h.frozen 4⟩
theorem Blk.ten {w : World} {g : Nat} {t : TypeId} {a b c d e a' b' c' d' e' : Value} (h : Blk w g t #[a, b, c, d, e, a', b', c', d', e']) : w.cell? ⟨g, 0, none⟩ = some a ∧ w.cell? ⟨g, 1, none⟩ = some b ∧ w.cell? ⟨g, 2, none⟩ = some c ∧ w.cell? ⟨g, 3, none⟩ = some d ∧ w.cell? ⟨g, 4, none⟩ = some e ∧
    w.cell? ⟨g, 5, none⟩ = some a' ∧ w.cell? ⟨g, 6, none⟩ = some b' ∧ w.cell? ⟨g, 7, none⟩ = some c' ∧ w.cell? ⟨g, 8, none⟩ = some d' ∧ w.cell? ⟨g, 9, none⟩ = some e' ∧
    w.frozen? ⟨g, 0, none⟩ = false ∧ w.frozen? ⟨g, 1, none⟩ = false ∧ w.frozen? ⟨g, 2, none⟩ = false ∧ w.frozen? ⟨g, 3, none⟩ = false ∧ w.frozen? ⟨g, 4, none⟩ = false ∧
    w.frozen? ⟨g, 5, none⟩ = false ∧ w.frozen? ⟨g, 6, none⟩ = false ∧ w.frozen? ⟨g, 7, none⟩ = false ∧ w.frozen? ⟨g, 8, none⟩ = false ∧ w.frozen? ⟨g, 9, none⟩ = false :=
  ⟨h.cell 0, h.cell 1, h.cell 2, h.cell 3, h.cell 4, h.cell 5, h.cell 6, h.cell 7, h.cell 8, h.cell 9, h.frozen 0, h.frozen 1, h.frozen 2, h.frozen 3, h.frozen 4, h.frozen 5, h.frozen 6, h.frozen 7, h.frozen 8, h.frozen 9⟩

end Go.Proofs.Ytmaagihfjldgeaa

/- The program's traversals of a graph. -/
namespace Go.Proofs.Ytmaagihfjldgeaa
set_option maxRecDepth 100000
open Go.ChangeShapes Go.WideShapes Go.ChangeAt Go.RowKit
set_option linter.unusedVariables false
set_option linter.unusedSimpArgs false

def travG (g : Grf) : List Trv := if validB g = true then travL g.es else []
theorem travL_take (es : List Edg) (k : Nat) (hk : k < es.length) : travL (es.take (k + 1)) = travL (es.take k) ++ both es[k] := by
  unfold travL; rw [List.take_succ_eq_append_getElem hk, List.flatMap_append, List.flatMap_cons, List.flatMap_nil, List.append_nil]
theorem tcells_both (e : Edg) : tcells (both e) = [.int .i64 e.id, .bool false, .int .i64 e.fr, .int .i64 e.to, .int .i64 (2 * e.lb), .int .i64 e.id, .bool true, .int .i64 e.to, .int .i64 e.fr, .int .i64 (2 * e.lb + 1)] := rfl
end Go.Proofs.Ytmaagihfjldgeaa

/- The program's traversalOf, StepFrom, StepTo, StepLetter. -/
namespace Go.Proofs.Ytmaagihfjldgeaa
set_option maxRecDepth 100000
open Go.ChangeShapes Go.WideShapes Go.ChangeAt Go.RowKit
set_option linter.unusedVariables false
set_option linter.unusedSimpArgs false
def noTrv : Trv := ⟨0, false, -1, -1, -1⟩
/-- The traversal of this step, or none. -/
def tOf (xs : List Trv) (s : Stp) : Trv := (xs.find? fun t => decide (t.st = s)).getD noTrv
theorem tOf_at {xs : List Trv} {s : Stp} {k : Nat} (hk : k < xs.length) (h : (xs[k]).st = s) (hlt : ∀ j (hj : j < k), (xs[j]'(by omega)).st ≠ s) : tOf xs s = xs[k] := by
  unfold tOf
  rw [List.find?_eq_some_iff_getElem.2 ⟨by simpa using h, k, hk, rfl, fun j hj => by simpa using hlt j hj⟩]; rfl
theorem tOf_none {xs : List Trv} {s : Stp} (h : ∀ j (hj : j < xs.length), (xs[j]).st ≠ s) : tOf xs s = noTrv := by
  unfold tOf
  rw [List.find?_eq_none.2 (fun x hx => by obtain ⟨j, hj, rfl⟩ := List.getElem_of_mem hx; simpa using h j hj)]; rfl
def noTo (xs : List Trv) (s : Stp) (k : Nat) : Prop := ∀ j (_ : j < k) (h : j < xs.length), (xs[j]).st ≠ s
theorem noTo_zero (xs : List Trv) (s : Stp) : noTo xs s 0 := fun j hj => by omega
theorem noTo_step {xs : List Trv} {s : Stp} {k : Nat} (hk : k < xs.length) (h : noTo xs s k) (hx : (xs[k]).st ≠ s) : noTo xs s (k + 1) := by
  intro j hj hl
  by_cases e : j = k
  · subst e; exact hx
  · exact h j (by omega) hl

end Go.Proofs.Ytmaagihfjldgeaa

/- slices.Delete of one edge, in place. -/
namespace Go.Proofs.Ytmaagihfjldgeaa
set_option maxRecDepth 100000
open Go.ChangeShapes Go.WideShapes Go.ChangeAt Go.RowKit
set_option linter.unusedVariables false
set_option linter.unusedSimpArgs false

/-- Cells of a block written one after the other. -/
theorem Blk.sets {g : Nat} {t : TypeId} : ∀ (vs : List Value) (o : Nat) (w : World) (cur : Array Value), Blk w g t cur → ∃ cur', Blk (w.setCells g o vs) g t cur' ∧ cur'.size = cur.size ∧
    (∀ j, j < o ∨ o + vs.length ≤ j → cur'[j]? = cur[j]?) ∧ (∀ j, j < vs.length → o + j < cur.size → cur'[o + j]? = vs[j]?)
  | [], o, w, cur, h => ⟨cur, h, rfl, fun _ _ => rfl, fun j hj => by simp at hj⟩
  | v :: r, o, w, cur, h => by
    obtain ⟨cur', h1, h2, h3, h4⟩ := Blk.sets r (o + 1) (w.setCell ⟨g, o, none⟩ v) _ (h.set o v)
    refine ⟨cur', h1, by rw [h2]; simp, fun j hj => ?_, fun j hj hs => ?_⟩
    · rw [List.length_cons] at hj
      rw [h3 j (by omega), Array.getElem?_setIfInBounds_ne (by omega)]
    · cases j with
      | zero =>
        rw [h3 (o + 0) (by omega), Nat.add_zero, Array.getElem?_setIfInBounds_self_of_lt (by omega)]; rfl
      | succ j =>
        rw [List.length_cons] at hj
        rw [show o + (j + 1) = o + 1 + j from by omega, h4 j (by omega) (by simp; omega)]; rfl
theorem grown_sets (g : Nat) : ∀ (vs : List Value) (o : Nat) (w : World), w.grownBy (w.setCells g o vs) (some g)
  | [], _, w => World.grownBy.refl w _
  | v :: r, o, w => by
    have h := grown_sets g r (o + 1) (w.setCell ⟨g, o, none⟩ v)
    have k := Within.cell w ⟨g, o, none⟩ v
    exact ⟨h.os.trans k.os, h.tape.trans k.tape, h.output.trans k.output, Nat.le_trans k.size h.size, fun i hi hn => (h.block i (Nat.lt_of_lt_of_le hi k.size) hn).trans (k.block i hi (by simp only; have : i ≠ g := fun e => hn (by rw [e]); omega))⟩
theorem delL_cells (xs : List Edg) (k : Nat) : ecells (delL xs k) = (ecells xs).take (k * 4) ++ (ecells xs).drop ((k + 1) * 4) := by
  unfold delL
  rw [ecells_append, ecells_take, ecells_drop]
theorem delL_length (xs : List Edg) (k p : Nat) (hk : k < xs.length) (hp : p + 1 = xs.length) : (delL xs k).length = p := by unfold delL; simp; omega
theorem delL_in {xs : List Edg} (h : ∀ x ∈ xs, x.In) (k : Nat) : ∀ x ∈ delL xs k, x.In := by
  intro x hx
  unfold delL at hx
  rcases List.mem_append.1 hx with h1 | h1
  · exact h x (List.mem_of_mem_take h1)
  · exact h x (List.mem_of_mem_drop h1)

end Go.Proofs.Ytmaagihfjldgeaa

/- slices.DeleteFunc over the steps of a graph: what its two closures keep. -/
namespace Go.Proofs.Ytmaagihfjldgeaa
set_option maxRecDepth 100000
open Go.ChangeShapes Go.WideShapes Go.ChangeAt Go.RowKit
set_option linter.unusedVariables false
set_option linter.unusedSimpArgs false

/-- All of the first k are kept. -/
def allTo (p : Trv → Bool) (xs : List Trv) (k : Nat) : Prop := ∀ j (_ : j < k) (h : j < xs.length), p xs[j] = true
theorem allTo_zero (p : Trv → Bool) (xs : List Trv) : allTo p xs 0 := fun j hj => by omega
theorem allTo_step {p : Trv → Bool} {xs : List Trv} {k : Nat} (hk : k < xs.length) (h : allTo p xs k) (hx : p xs[k] = true) : allTo p xs (k + 1) := by
  intro j hj hl
  by_cases e : j = k
  · subst e; exact hx
  · exact h j (by omega) hl
/-- The place of the first that is not kept, or -1. -/
def idxP (p : Trv → Bool) (xs : List Trv) : Int := match xs.findIdx? (fun t => !p t) with | some k => (k : Int) | none => -1
theorem idxP_at {p : Trv → Bool} {xs : List Trv} {k : Nat} (hk : k < xs.length) (h : allTo p xs k) (hx : p xs[k] = false) : idxP p xs = k := by
  unfold idxP
  rw [List.findIdx?_eq_some_iff_getElem.2 ⟨hk, by simpa using hx, fun j hj => by simpa using h j hj (by omega)⟩]
theorem idxP_none {p : Trv → Bool} {xs : List Trv} (h : allTo p xs xs.length) : idxP p xs = -1 := by
  unfold idxP
  rw [List.findIdx?_eq_none_iff.2 (fun x hx => by obtain ⟨j, hj, rfl⟩ := List.getElem_of_mem hx; simpa using h j hj hj)]
theorem idxP_cases (p : Trv → Bool) (xs : List Trv) : (idxP p xs = -1 ∧ ∀ x ∈ xs, p x = true) ∨ ∃ k : Nat, ∃ hk : k < xs.length, idxP p xs = k ∧ allTo p xs k ∧ p xs[k] = false := by
  cases e : xs.findIdx? (fun t => !p t) with
  | none =>
    refine .inl ⟨by unfold idxP; rw [e], fun x hx => ?_⟩
    have := List.findIdx?_eq_none_iff.1 e x hx
    simpa using this
  | some k =>
    obtain ⟨hk, h1, h2⟩ := List.findIdx?_eq_some_iff_getElem.1 e
    exact .inr ⟨k, hk, by unfold idxP; rw [e], fun j hj hl => by simpa using h2 j hj, by simpa using h1⟩
/-- The row ys while DeleteFunc goes over xs: the first i are what is kept of the first j; from j on it is as it was. -/
def delAt (p : Trv → Bool) (xs : List Trv) (i j : Nat) (ys : List Trv) : Prop := ys.length = xs.length ∧ ys.take i = (xs.take j).filter p ∧ ys.drop j = xs.drop j
theorem delAt_zero {p : Trv → Bool} {xs : List Trv} {k : Nat} (hk : k < xs.length) (h : allTo p xs k) (hx : p xs[k] = false) : delAt p xs k (k + 1) xs := by
  refine ⟨rfl, ?_, rfl⟩
  rw [List.take_succ_eq_append_getElem hk, List.filter_append, List.filter_cons_of_neg (by simpa using hx), List.filter_nil, List.append_nil]
  refine (List.filter_eq_self.2 fun x hx => ?_).symm
  obtain ⟨j, hj, rfl⟩ := List.getElem_of_mem hx
  rw [List.length_take] at hj
  rw [List.getElem_take]
  exact h j (by omega) (by omega)
theorem delAt_get {p : Trv → Bool} {xs ys : List Trv} {i j : Nat} (h : delAt p xs i j ys) (hj : j < ys.length) (hjx : j < xs.length) : ys[j] = xs[j] := by
  have := h.2.2
  rw [List.drop_eq_getElem_cons hj, List.drop_eq_getElem_cons hjx] at this
  injection this
theorem delAt_keep {p : Trv → Bool} {xs ys : List Trv} {i j : Nat} (h : delAt p xs i j ys) (hij : i < j) (hjx : j < xs.length) (hp : p xs[j] = true) : delAt p xs (i + 1) (j + 1) (ys.set i xs[j]) := by
  obtain ⟨h1, h2, h3⟩ := h
  refine ⟨by simp [h1], ?_, ?_⟩
  · rw [List.take_succ_eq_append_getElem hjx, List.filter_append, List.filter_cons_of_pos hp, List.filter_nil, ← h2]
    rw [List.take_succ_eq_append_getElem (by simp; omega), List.getElem_set_self, List.take_set_of_le (Nat.le_refl _)]
  · rw [List.drop_set_of_lt (by omega)]
    have := congrArg (List.drop 1) h3
    rw [List.drop_drop, List.drop_drop] at this
    exact this
theorem delAt_drop {p : Trv → Bool} {xs ys : List Trv} {i j : Nat} (h : delAt p xs i j ys) (hij : i < j) (hjx : j < xs.length) (hp : p xs[j] = false) : delAt p xs i (j + 1) ys := by
  obtain ⟨h1, h2, h3⟩ := h
  refine ⟨h1, ?_, ?_⟩
  · rw [List.take_succ_eq_append_getElem hjx, List.filter_append, List.filter_cons_of_neg (by simpa using hp), List.filter_nil, List.append_nil, ← h2]
  · have := congrArg (List.drop 1) h3
    rw [List.drop_drop, List.drop_drop] at this
    exact this
theorem delAt_end {p : Trv → Bool} {xs ys : List Trv} {i j : Nat} (h : delAt p xs i j ys) (hj : j = xs.length) : ys.take i = xs.filter p := by
  rw [h.2.1, List.take_of_length_le (by omega)]
theorem zeros_length (n : Nat) : (Builtin.zeroCells (tv zeroT).cells n).toList.length = n * 5 := by
  simp [Builtin.zeroCells, Value.cells]
theorem zeros_one (n : Nat) : ∀ u ∈ (Builtin.zeroCells (tv zeroT).cells n).toList, u.oneCell' = true := by
  intro u hu
  have e : (tv zeroT).cells = #[.int .i64 0, .bool false, .int .i64 0, .int .i64 0, .int .i64 0] := rfl
  rw [e] at hu
  simp [Builtin.zeroCells] at hu
  obtain ⟨i, _, rfl⟩ := hu
  have hi : i % 5 = 0 ∨ i % 5 = 1 ∨ i % 5 = 2 ∨ i % 5 = 3 ∨ i % 5 = 4 := by omega
  rcases hi with h | h | h | h | h <;> rw [h] <;> rfl
theorem travG_len (g : Grf) (h2 : g.es.length ≤ 1048577) : (travG g).length ≤ 2097154 := by
  unfold travG; split
  · rw [travL_length]; omega
  · simp

/-- What traversalsFrom keeps. -/
def kpF (x : Int) (t : Trv) : Bool := t.fr == x
/-- What traversalsWith keeps. -/
def kpW (x : Int) (t : Trv) : Bool := t.le == x
end Go.Proofs.Ytmaagihfjldgeaa

/- The program's stepsOf; what it reads of traversals. -/
namespace Go.Proofs.Ytmaagihfjldgeaa
set_option maxRecDepth 100000
open Go.ChangeShapes Go.WideShapes Go.ChangeAt Go.RowKit
set_option linter.unusedVariables false
set_option linter.unusedSimpArgs false

theorem filledS_get (xs : List Stp) (k i : Nat) (hk : k ≤ xs.length) (hi : i < xs.length) : i < (filled xs zeroS k).length := by rw [filled_length xs zeroS k hk]; exact hi
def fromS (g : Grf) (x : Int) : List Stp := ((travG g).filter (kpF x)).map Trv.st
def withS (g : Grf) (x y : Int) : List Stp := (((travG g).filter (kpF x)).filter (kpW y)).map Trv.st
theorem fromS_len (g : Grf) (x : Int) (h2 : g.es.length ≤ 1048577) : (fromS g x).length ≤ 2097154 := by
  unfold fromS; rw [List.length_map]
  exact Nat.le_trans (List.length_filter_le _ _) (travG_len g h2)
theorem withS_len (g : Grf) (x y : Int) (h2 : g.es.length ≤ 1048577) : (withS g x y).length ≤ 2097154 := by
  unfold withS; rw [List.length_map]
  exact Nat.le_trans (List.length_filter_le _ _) (Nat.le_trans (List.length_filter_le _ _) (travG_len g h2))
end Go.Proofs.Ytmaagihfjldgeaa

/- Steps of the model: l4Edge, StepFrom, StepTo, StepLetter. -/
namespace Go.Proofs.Ytmaagihfjldgeaa
set_option maxRecDepth 100000
open Go.ChangeShapes Go.WideShapes Go.ChangeAt Go.RowKit
set_option linter.unusedVariables false
set_option linter.unusedSimpArgs false

def pickT (e : Edg) (b : Bool) : Trv := bif b then invT e else fwdT e
theorem tOf_cons (e : Edg) (es : List Edg) (s : Stp) : tOf (travL (e :: es)) s = if e.id = s.id then pickT e s.inv else tOf (travL es) s := by
  obtain ⟨i, b⟩ := s
  have h : travL (e :: es) = fwdT e :: invT e :: travL es := rfl
  rw [h]
  by_cases hi : e.id = i
  · rw [if_pos hi]
    cases b
    · unfold tOf
      rw [List.find?_cons_of_pos (by simp [Trv.st, fwdT, hi])]; rfl
    · unfold tOf
      rw [List.find?_cons_of_neg (by simp [Trv.st, fwdT]), List.find?_cons_of_pos (by simp [Trv.st, invT, hi])]; rfl
  · rw [if_neg hi]
    unfold tOf
    rw [List.find?_cons_of_neg (by simp [Trv.st, fwdT, hi]), List.find?_cons_of_neg (by simp [Trv.st, invT, hi])]
theorem tOf_travL (es : List Edg) (s : Stp) (k : Nat) (hk : k < es.length) (h : (es[k]).id = s.id) (hlt : ∀ j (hj : j < k), (es[j]'(by omega)).id ≠ s.id) : tOf (travL es) s = pickT es[k] s.inv := by
  induction es generalizing k with
  | nil => simp at hk
  | cons e es ih =>
    rw [tOf_cons]
    cases k with
    | zero =>
      have h0 : e.id = s.id := h
      rw [if_pos h0]; rfl
    | succ k =>
      have h0 : e.id ≠ s.id := hlt 0 (by omega)
      rw [if_neg h0]
      exact ih k (by simpa using hk) h (fun j hj => hlt (j + 1) (by omega))
theorem tOf_travL_none (es : List Edg) (s : Stp) (h : ∀ j (hj : j < es.length), (es[j]).id ≠ s.id) : tOf (travL es) s = noTrv := by
  induction es with
  | nil => rfl
  | cons e es ih =>
    have h0 : e.id ≠ s.id := h 0 (by simp)
    rw [tOf_cons, if_neg h0]
    exact ih (fun j hj => h (j + 1) (by simp; omega))
theorem tOf_some (g : Grf) (s : Stp) (k : Nat) (hk : k < g.es.length) (hv : validB g = true) (hi : idxE g.es s.id = k) (hlt : ∀ j (hj : j < k), (g.es[j]'(by omega)).id ≠ s.id) : tOf (travG g) s = pickT g.es[k] s.inv := by
  rcases idxE_cases g.es s.id with ⟨k', hk', hi', hid', _⟩ | ⟨hi', _⟩
  · obtain rfl : k' = k := by omega
    unfold travG
    rw [if_pos hv]
    exact tOf_travL _ _ _ hk hid' hlt
  · omega
theorem tOf_noedge (g : Grf) (s : Stp) (hni : ∀ j (hj : j < g.es.length), (g.es[j]).id ≠ s.id) : tOf (travG g) s = noTrv := by
  unfold travG
  split
  · exact tOf_travL_none _ _ hni
  · rfl
theorem tOf_inval (g : Grf) (s : Stp) (hv : validB g = false) : tOf (travG g) s = noTrv := by
  unfold travG
  rw [if_neg (by rw [hv]; decide)]; rfl
theorem tOf_turn (g : Grf) (s : Stp) : (tOf (travG g) ⟨s.id, !s.inv⟩).fr = (tOf (travG g) s).dst := by
  rcases Bool.eq_false_or_eq_true (validB g) with hv | hv
  · rcases idxE_cases g.es s.id with ⟨k, hk, hi, hid, hlt⟩ | ⟨hi, hni⟩
    · rw [tOf_some g s k hk hv hi hlt, tOf_some g ⟨s.id, !s.inv⟩ k hk hv hi hlt]
      cases s.inv <;> rfl
    · rw [tOf_noedge g s hni, tOf_noedge g ⟨s.id, !s.inv⟩ hni]; rfl
  · rw [tOf_inval g s hv, tOf_inval g _ hv]; rfl

end Go.Proofs.Ytmaagihfjldgeaa

/- Lists of steps of the model: l4From, StepsFrom, StepsWith. -/
namespace Go.Proofs.Ytmaagihfjldgeaa
set_option maxRecDepth 100000
open Go.ChangeShapes Go.WideShapes Go.ChangeAt Go.RowKit
set_option linter.unusedVariables false
set_option linter.unusedSimpArgs false

def pieceL (x : Int) (e : Edg) : List Stp := (if e.fr = x then [⟨e.id, false⟩] else []) ++ (if e.to = x then [⟨e.id, true⟩] else [])
def fromL (x : Int) (es : List Edg) : List Stp := es.flatMap (pieceL x)
theorem fromL_take (x : Int) (es : List Edg) (k : Nat) (hk : k < es.length) : fromL x (es.take (k + 1)) = fromL x (es.take k) ++ pieceL x es[k] := by
  unfold fromL; rw [List.take_succ_eq_append_getElem hk, List.flatMap_append, List.flatMap_cons, List.flatMap_nil, List.append_nil]
theorem fromL_len (x : Int) (es : List Edg) : (fromL x es).length ≤ es.length * 2 := by
  induction es with
  | nil => simp [fromL]
  | cons e es ih =>
    have h : fromL x (e :: es) = pieceL x e ++ fromL x es := rfl
    rw [h, List.length_append, List.length_cons]
    have : (pieceL x e).length ≤ 2 := by unfold pieceL; split <;> split <;> simp
    omega
theorem fromT_cons (x : Int) (e : Edg) (es : List Edg) : ((travL (e :: es)).filter (kpF x)).map Trv.st = pieceL x e ++ ((travL es).filter (kpF x)).map Trv.st := by
  have h : travL (e :: es) = fwdT e :: invT e :: travL es := rfl
  rw [h]
  unfold pieceL
  by_cases h1 : e.fr = x <;> by_cases h2 : e.to = x
  · rw [List.filter_cons_of_pos (by simp [kpF, fwdT, h1]), List.filter_cons_of_pos (by simp [kpF, invT, h2]), if_pos h1, if_pos h2]; rfl
  · rw [List.filter_cons_of_pos (by simp [kpF, fwdT, h1]), List.filter_cons_of_neg (by simp [kpF, invT, h2]), if_pos h1, if_neg h2]; rfl
  · rw [List.filter_cons_of_neg (by simp [kpF, fwdT, h1]), List.filter_cons_of_pos (by simp [kpF, invT, h2]), if_neg h1, if_pos h2]; rfl
  · rw [List.filter_cons_of_neg (by simp [kpF, fwdT, h1]), List.filter_cons_of_neg (by simp [kpF, invT, h2]), if_neg h1, if_neg h2]; rfl
theorem fromL_eq (x : Int) (es : List Edg) : ((travL es).filter (kpF x)).map Trv.st = fromL x es := by
  induction es with
  | nil => rfl
  | cons e es ih => rw [fromT_cons, ih]; rfl
theorem fromS_valid (g : Grf) (x : Int) (hv : validB g = true) : fromS g x = fromL x g.es := by
  unfold fromS travG; rw [if_pos hv]; exact fromL_eq x g.es
theorem fromS_inval (g : Grf) (x : Int) (hv : validB g = false) : fromS g x = [] := by
  unfold fromS travG; rw [if_neg (by rw [hv]; decide)]; rfl
theorem travL_mem {es : List Edg} {t : Trv} (h : t ∈ travL es) : ∃ e ∈ es, t = fwdT e ∨ t = invT e := by
  unfold travL at h
  obtain ⟨e, he, ht⟩ := List.mem_flatMap.1 h
  refine ⟨e, he, ?_⟩
  simpa [both] using ht
theorem tOf_self {es : List Edg} (hs : es.Pairwise idLt) {t : Trv} (h : t ∈ travL es) : tOf (travL es) t.st = t := by
  induction es with
  | nil => simp [travL] at h
  | cons e es ih =>
    rw [tOf_cons]
    have h2 : t = fwdT e ∨ t = invT e ∨ t ∈ travL es := by
      have : travL (e :: es) = fwdT e :: invT e :: travL es := rfl
      rw [this] at h
      simpa using h
    rcases h2 with rfl | rfl | h2
    · rw [if_pos (by rfl)]; rfl
    · rw [if_pos (by rfl)]; rfl
    · obtain ⟨e', he', ht⟩ := travL_mem h2
      have hlt := List.rel_of_pairwise_cons hs he'
      unfold idLt at hlt
      have hid : t.st.id = e'.id := by rcases ht with rfl | rfl <;> rfl
      rw [if_neg (by rw [hid]; omega)]
      exact ih (List.Pairwise.of_cons hs) h2
theorem withS_eq (g : Grf) (x y : Int) : withS g x y = (fromS g x).filter (fun s => (tOf (travG g) s).le == y) := by
  unfold withS fromS
  rw [List.filter_map]
  congr 1
  apply List.filter_congr
  intro t ht
  have ht' := (List.mem_filter.1 ht).1
  show kpW y t = ((tOf (travG g) t.st).le == y)
  rcases Bool.eq_false_or_eq_true (validB g) with hv | hv
  · have hp := ((validB_iff g).1 hv).2.2.2
    unfold travG at ht' ⊢
    rw [if_pos hv] at ht' ⊢
    rw [tOf_self hp ht']; rfl
  · unfold travG at ht'
    rw [if_neg (by rw [hv]; decide)] at ht'
    simp at ht'
theorem fil_take (p : Stp → Bool) (xs : List Stp) (k : Nat) (hk : k < xs.length) : (xs.take (k + 1)).filter p = (xs.take k).filter p ++ (if p xs[k] = true then [xs[k]] else []) := by
  rw [List.take_succ_eq_append_getElem hk, List.filter_append]
  congr 1
  split
  · rename_i h; rw [List.filter_cons_of_pos h]; rfl
  · rename_i h; rw [List.filter_cons_of_neg h]; rfl
end Go.Proofs.Ytmaagihfjldgeaa

/- append of one int onto ints of the call's own. -/
namespace Go.Proofs.Ytmaagihfjldgeaa
set_option maxRecDepth 100000
open Go.ChangeShapes Go.WideShapes Go.ChangeAt Go.RowKit
set_option linter.unusedVariables false
set_option linter.unusedSimpArgs false

/-- append of one int onto ints of the call's own. -/
theorem wpList_append_int {w wr : World} {ops : Array Oper} {rest : List Oper} {o : Oper} {a : Act} {Q : Exit → Act → World → Prop} (hgd : o.guard = none) (s x : Operand)
    (ho : o.op = .call { callee := .builtin .append, args := #[s, x], argTypes := #[24, 24] }) (v : Value) (xs : List Int) (hs : a.eval s = v) (hown : Own w.heap.size wr v xs)
    (z : Int) (hx : a.eval x = .slice (some ⟨wr.heap.size, 0, none⟩) 1 1) (hz : InI z) (hlen : xs.length ≤ 4194304) (hsin : Since w wr)
    (h : ∀ v' w', Own w.heap.size w' v' (xs ++ [z]) → Since w w' → wpList Try.prog ops Q rest (a.put o.dst v') w') : wpList Try.prog ops Q (o :: rest) a (wr.alloc (.cells #[.int .i64 z] 3)) := by
  obtain ⟨i0, hi, hz0, hz1, hz2⟩ := info_parts info_int
  have hown' : Own w.heap.size (wr.alloc (.cells #[.int .i64 z] 3)) v xs := hown.since ((Since.refl wr).alloc _)
  have hB : Blk (wr.alloc (.cells #[.int .i64 z] 3)) wr.heap.size 3 #[.int .i64 z] := Blk.new rfl _ _
  refine wpList_append_own _ hgd s x 24 ho w.heap.size 3 i0 (.int .i64 0) 1 8 Try.underlying24 hi hz0 hz1 hz2 rfl (by decide) v xs.length (xs.map icell) hs hown'.2 ⟨wr.heap.size, 0, none⟩ 1 1 [icell z] hx rfl ?_ (by intro u hu; simp at hu; subst hu; rfl) (by unfold maxLen; omega) (by omega) (hsin.alloc _).size ?_
  · intro j u hj
    rw [add_plain, Nat.zero_add, hB.cell, ← hj, ← Array.getElem?_toList]; rfl
  · intro v' w' h1 h2 _
    refine h v' w' ⟨fun y hy => ?_, ?_⟩ ((hsin.alloc _).grown h2 fun k hk => (hown'.2.lt k hk).1)
    · rcases List.mem_append.1 hy with hy | hy
      · exact hown.1 y hy
      · simp at hy; subst hy; exact hz
    · rw [List.length_append, List.map_append]
      exact h1
theorem map_take {α β : Type} (f : α → β) (xs : List α) (k : Nat) (hk : k < xs.length) : (xs.take (k + 1)).map f = (xs.take k).map f ++ [f xs[k]] := by
  rw [List.take_succ_eq_append_getElem hk, List.map_append]; rfl
theorem own_one (w w1 : World) (h : Since w w1) (z : Int) (hz : InI z) (b : Nat) (hb : b = w1.heap.size) : Own w.heap.size (w1.alloc (.cells #[.int .i64 z] 3)) (.slice (some ⟨b, 0, none⟩) 1 1) [z] := by
  subst hb; exact ⟨fun x hx => by simp at hx; subst hx; exact hz, World.ownsRow_lit w1 #[.int .i64 z] 1 h.size (by unfold maxLen; omega) rfl⟩
end Go.Proofs.Ytmaagihfjldgeaa
