/- The laws' marks on graphs, and their checks. -/
import Derived.Test.YtmaagihfjldgeaaK1
namespace Go.Proofs.Ytmaagihfjldgeaa
set_option maxRecDepth 100000
open Go.ChangeShapes Go.WideShapes Go.ChangeAt Go.RowKit
set_option linter.unusedVariables false

/-- What markEdgeS writes: k, k + 1, .. -/
def edgAt (k : Int) (i : Nat) : Edg := ⟨k + 4 * (i : Int), k + 4 * (i : Int) + 1, k + 4 * (i : Int) + 1 + 1, k + 4 * (i : Int) + 1 + 1 + 1⟩
def countE (k : Int) (n : Nat) : List Edg := (List.range n).map (edgAt k)
theorem countE_length (k : Int) (n : Nat) : (countE k n).length = n := by simp [countE]
theorem countE_at (k : Int) (n i : Nat) (h : i < n) : (countE k n)[i]'(by rw [countE_length]; exact h) = edgAt k i := by simp [countE]
theorem countE_in (k : Int) (n : Nat) (h0 : 0 ≤ k) (h9 : k ≤ 1152921504606846976) (hn : n ≤ 288230376151711744) : ∀ x ∈ countE k n, x.In := by
  intro x hx
  simp [countE] at hx
  obtain ⟨i, hi, rfl⟩ := hx
  unfold Edg.In InI edgAt; simp; omega
/-- A row xs of which the first j are written. -/
def markedE (xs : List Edg) (k : Int) (j : Nat) : List Edg := countE k j ++ xs.drop j
theorem markedE_zero (xs : List Edg) (k : Int) : markedE xs k 0 = xs := by simp [markedE, countE]
theorem markedE_all (xs : List Edg) (k : Int) : markedE xs k xs.length = countE k xs.length := by simp [markedE]
theorem markedE_length (xs : List Edg) (k : Int) (j : Nat) (h : j ≤ xs.length) : (markedE xs k j).length = xs.length := by simp [markedE, countE_length]; omega
theorem markedE_set (xs : List Edg) (k : Int) (j : Nat) (h : j < xs.length) : (markedE xs k j).set j (edgAt k j) = markedE xs k (j + 1) := by
  unfold markedE
  rw [List.set_append_right _ _ (by simp [countE]), countE_length, Nat.sub_self, List.drop_eq_getElem_cons h, List.set_cons_zero]
  have : countE k (j + 1) = countE k j ++ [edgAt k j] := by simp [countE, List.range_succ]
  rw [this, List.append_assoc]; rfl

/-- What markGraph writes. -/
def cntG (k : Int) (g : Grf) : Grf := ⟨count k g.vs.length, countE (k + g.vs.length) g.es.length⟩
theorem cntG_vs (k : Int) (g : Grf) : (cntG k g).vs.length = g.vs.length := count_length _ _
theorem cntG_es (k : Int) (g : Grf) : (cntG k g).es.length = g.es.length := countE_length _ _
def szOf (g : Grf) : Int := (g.vs.length : Int) + 4 * (g.es.length : Int)
end Go.Proofs.Ytmaagihfjldgeaa
