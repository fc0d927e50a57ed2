/- The laws over one or two lists of ints, walked: IsWord, CompareWords. -/
import Derived.Test.YtcokggjekleabaaK0
import Derived.Test.YtcokggjekleabaaWord
import Derived.Deep.DeepCutAuto
namespace Go.Proofs.Ytcokggjekleabaa
set_option maxRecDepth 100000
open Go.ChangeShapes Go.WideShapes Go.ChangeAt Go.RowKit
set_option linter.unusedVariables false

theorem Own.grown {base : Nat} {w w' : World} {v : Value} {xs : List Int} {row : Option Nat} (h : Own base w v xs) (k : w.grownBy w' row) (hr : ∀ b, row = some b → b < base) : Own base w' v xs := by
  obtain ⟨h1, h2, h3⟩ := h
  refine ⟨h1, h2, ?_⟩
  rcases h3 with h3 | ⟨g, cap, cur, a, b, c, d⟩
  · exact .inl h3
  · exact .inr ⟨g, cap, cur, a, b, (k.block g (heap_lt c) (fun e => by have := hr g e.symm; omega)).trans c, d⟩
theorem Own.lt {base : Nat} {w : World} {v : Value} {xs : List Int} (h : Own base w v xs) : ∀ k, v.ownBlock = some k → base ≤ k ∧ k < w.heap.size := h.2.lt
theorem ownBlock_or (v : Value) (row : Option Nat) (h : ∀ k, v.ownBlock = some k → row ≠ some k) : v.ownBlock = none ∨ v.ownBlock ≠ row := by
  cases e : v.ownBlock with
  | none => exact .inl rfl
  | some k => exact .inr (fun e2 => h k e e2.symm)
theorem count_neg (k : Int) (n : Nat) : count k n = count k n := rfl

end Go.Proofs.Ytcokggjekleabaa
