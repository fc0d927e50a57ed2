/- A walk that a call gave, and the box of the variable that holds it. -/
import Derived.Test.YtilkheclimammaaWlkL
import Derived.Test.YtilkheclimammaaK1
namespace Go.Proofs.Ytilkheclimammaa
set_option maxRecDepth 100000
open Go.ChangeShapes Go.WideShapes Go.ChangeAt Go.RowKit
set_option linter.unusedVariables false

def BoxW (w1 wx : World) (p : Value) (R : Wlk) : Prop :=
  ∃ lo hi B so sc, p = .pointer (some ⟨B, 0, none⟩) ∧ w1.heap.size ≤ lo ∧ w1.heap.size ≤ B ∧ hi ≤ wx.heap.size ∧ (B < lo ∨ hi ≤ B) ∧
    OwnW lo hi wx (.agg #[.int .i64 R.st, .slice so R.ss.length sc]) R ∧ Blk wx B 53 #[.int .i64 R.st, .slice so R.ss.length sc] ∧ Since w1 wx
theorem OwnW.far2 {lo hi B : Nat} {w : World} {v : Value} {x : Wlk} (h : OwnW lo hi w v x) (hB : B < lo ∨ hi ≤ B) {i j : Nat} {u u' : Value} : OwnW lo hi ((w.setCell ⟨B, i, none⟩ u).setCell ⟨B, j, none⟩ u') v x := by
  have k : ∀ (w0 : World) (i : Nat) (u : Value), Within B (B + 1) w0 (w0.setCell ⟨B, i, none⟩ u) := fun w0 i u => Within.cell w0 ⟨B, i, none⟩ u
  exact (h.within (k _ i u) (by omega)).within (k _ j u') (by omega)
theorem boxW_mk {w1 wx : World} {lo hi : Nat} {so : Option Addr} {sc : Nat} {R : Wlk} (B : Nat) (hB : w1.heap.size ≤ B) (h0 : w1.heap.size ≤ lo) (h1 : hi ≤ wx.heap.size ∧ (B < lo ∨ hi ≤ B))
    (hO : OwnW lo hi wx (.agg #[.int .i64 R.st, .slice so R.ss.length sc]) R) (hK : Blk wx B 53 #[.int .i64 R.st, .slice so R.ss.length sc]) (hS : Since w1 wx) :
    BoxW w1 wx (.pointer (some ⟨B, 0, none⟩)) R := ⟨lo, hi, B, so, sc, rfl, h0, hB, h1.1, h1.2, hO, hK, hS⟩
end Go.Proofs.Ytilkheclimammaa
