/- Words: which lists are words, the reversed word. -/
import Derived.Test.YtcokggjekleabaaK0
namespace Go.Proofs.Ytcokggjekleabaa
set_option maxRecDepth 100000
open Go.ChangeShapes Go.WideShapes Go.ChangeAt Go.RowKit
set_option linter.unusedVariables false

def letB (x : Int) : Bool := inB x 0 8
def isWordB (xs : List Int) : Bool := decide (xs.length ≤ 8) && xs.all letB
theorem all_take_snoc {xs : List Int} (k : Nat) (h : k < xs.length) (h1 : (xs.take k).all letB = true) (h2 : inB xs[k] 0 8 = true) : (xs.take (k + 1)).all letB = true := by
  rw [List.take_succ_eq_append_getElem h, List.all_append, h1]; simp [letB, h2]
theorem all_bad {xs : List Int} (k : Nat) (h : k < xs.length) (h2 : inB xs[k] 0 8 = false) : isWordB xs = false := by
  unfold isWordB
  rw [Bool.and_eq_false_iff]; right
  rw [List.all_eq_false]
  exact ⟨xs[k], List.getElem_mem h, by simp [letB, h2]⟩
theorem all_good {xs : List Int} (h : xs.all letB = true) : isWordB xs = decide (xs.length ≤ 8) := by simp [isWordB, h]

def revW (xs : List Int) : List Int := (xs.map invL).reverse
theorem revW_length (xs : List Int) : (revW xs).length = xs.length := by simp [revW]
theorem bits_in (a b : Int) : InI (bits .xor .i64 a b) := by
  show InI (IntKind.i64.wrap _)
  rw [IntKind.wrap_i64]; unfold InI; omega
theorem invL_in (x : Int) (h : InI x) : InI (invL x) := by
  unfold invL
  cases inB x 0 5
  · exact h
  · exact bits_in _ _
theorem revW_in (xs : List Int) (h : ∀ x ∈ xs, InI x) : ∀ x ∈ revW xs, InI x := by
  intro x hx
  simp [revW] at hx
  obtain ⟨y, hy, rfl⟩ := hx
  exact invL_in y (h y hy)
/-- What the model has appended when k elements are still to come. -/
theorem rev_drop_step (xs : List Int) (k : Nat) (h : k < xs.length) : ((xs.drop k).map invL).reverse = ((xs.drop (k + 1)).map invL).reverse ++ [invL xs[k]] := by
  rw [List.drop_eq_getElem_cons h, List.map_cons, List.reverse_cons]

/-- What the program's row holds when k elements have been turned: the last k are written. -/
def revFill (xs : List Int) (k : Nat) : List Value := List.replicate (xs.length - k) (icell 0) ++ (revW (xs.take k)).map icell
theorem revFill_zero (xs : List Int) : revFill xs 0 = List.replicate xs.length (icell 0) := by simp [revFill, revW]
theorem revFill_all (xs : List Int) : revFill xs xs.length = (revW xs).map icell := by simp [revFill]
theorem revFill_at (xs : List Int) (k j : Nat) (h : j + k + 1 = xs.length) : (revFill xs k)[j]? = some (icell 0) := by
  unfold revFill
  rw [List.getElem?_append_left (by simp; omega), List.getElem?_replicate, if_pos (by omega)]
theorem revFill_set (xs : List Int) (k j : Nat) (hk : k < xs.length) (h : j + k + 1 = xs.length) : (revFill xs k).set j (.int .i64 (invL xs[k])) = revFill xs (k + 1) := by
  unfold revFill
  rw [show xs.length - k = (xs.length - (k + 1)) + 1 from by omega, List.replicate_succ', List.append_assoc]
  rw [List.set_append_right _ _ (by simp; omega)]
  rw [show j - (List.replicate (xs.length - (k + 1)) (icell 0)).length = 0 from by simp; omega]
  have e : revW (xs.take k ++ [xs[k]]) = invL xs[k] :: revW (xs.take k) := by
    simp only [revW, List.map_append, List.map_cons, List.map_nil, List.reverse_append, List.reverse_cons, List.reverse_nil, List.nil_append, List.cons_append]
  rw [List.take_succ_eq_append_getElem hk, e]
  rfl

end Go.Proofs.Ytcokggjekleabaa
