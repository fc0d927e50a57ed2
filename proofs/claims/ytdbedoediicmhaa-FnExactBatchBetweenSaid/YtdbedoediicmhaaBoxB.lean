/- A batch that a call gave, and the box of the variable that holds it. -/
import Derived.Test.YtdbedoediicmhaaChgL
import Derived.Test.YtdbedoediicmhaaK1
import Derived.Test.YtdbedoediicmhaaBchM
namespace Go.Proofs.Ytdbedoediicmhaa
set_option maxRecDepth 100000
open Go.ChangeShapes Go.WideShapes Go.ChangeAt Go.RowKit
set_option linter.unusedVariables false

def BoxB (w1 wx : World) (p : Value) (R : List Chg) : Prop :=
  ∃ lo hi B so sc, p = .pointer (some ⟨B, 0, none⟩) ∧ w1.heap.size ≤ lo ∧ w1.heap.size ≤ B ∧ hi ≤ wx.heap.size ∧ (B < lo ∨ hi ≤ B) ∧
    OwnB lo hi wx (.agg #[.slice so R.length sc]) R ∧ Blk wx B 39 #[.slice so R.length sc] ∧ Since w1 wx
theorem OwnB.far1 {lo hi B : Nat} {w : World} {v : Value} {x : List Chg} (h : OwnB lo hi w v x) (hB : B < lo ∨ hi ≤ B) {i : Nat} {u : Value} : OwnB lo hi (w.setCell ⟨B, i, none⟩ u) v x := by
  have k : ∀ (w0 : World) (i : Nat) (u : Value), Within B (B + 1) w0 (w0.setCell ⟨B, i, none⟩ u) := fun w0 i u => Within.cell w0 ⟨B, i, none⟩ u
  exact h.within (k _ i u) (by omega)
theorem boxB_mk {w1 wx : World} {lo hi : Nat} {so : Option Addr} {sc : Nat} {R : List Chg} (B : Nat) (hB : w1.heap.size ≤ B) (h0 : w1.heap.size ≤ lo) (h1 : hi ≤ wx.heap.size ∧ (B < lo ∨ hi ≤ B))
    (hO : OwnB lo hi wx (.agg #[.slice so R.length sc]) R) (hK : Blk wx B 39 #[.slice so R.length sc]) (hS : Since w1 wx) :
    BoxB w1 wx (.pointer (some ⟨B, 0, none⟩)) R := ⟨lo, hi, B, so, sc, rfl, h0, hB, h1.1, h1.2, hO, hK, hS⟩
theorem betB_len (g h : Grf) : (betB g h).length ≤ 6 := by
  unfold betB
  by_cases hc : betC g h = true
  · rw [if_pos hc]
    unfold betC at hc
    simp only [Bool.and_eq_true, decide_eq_true_eq] at hc
    exact hc.2
  · rw [if_neg hc]; simp
end Go.Proofs.Ytdbedoediicmhaa
