/- A graph that a call gave, and the box of the variable that holds it. -/
import Derived.Test.YtpmkpeclfhmhlaaK1
namespace Go.Proofs.Ytpmkpeclfhmhlaa
set_option maxRecDepth 100000
open Go.ChangeShapes Go.WideShapes Go.ChangeAt Go.RowKit
set_option linter.unusedVariables false

def BoxIn (w1 wx : World) (p : Value) (R : Grf) : Prop :=
  ∃ lo hi B ao ac bo bc, p = .pointer (some ⟨B, 0, none⟩) ∧ w1.heap.size ≤ lo ∧ w1.heap.size ≤ B ∧ hi ≤ wx.heap.size ∧ (B < lo ∨ hi ≤ B) ∧
    OwnG lo hi wx (.agg #[.slice ao R.vs.length ac, .slice bo R.es.length bc]) R ∧ Blk wx B 30 #[.slice ao R.vs.length ac, .slice bo R.es.length bc] ∧ Since w1 wx
theorem OwnG.intro {lo hi : Nat} {w : World} {a b : Value} {g : Grf} (h1 : Own lo w a g.vs) (r1 : InR lo hi a) (h2 : OwnE lo w b g.es) (r2 : InR lo hi b) : OwnG lo hi w (.agg #[a, b]) g := ⟨_, _, rfl, h1, r1, h2, r2⟩
theorem OwnG.far2 {lo hi B : Nat} {w : World} {v : Value} {g : Grf} (h : OwnG lo hi w v g) (hB : B < lo ∨ hi ≤ B) {i j : Nat} {u u' : Value} : OwnG lo hi ((w.setCell ⟨B, i, none⟩ u).setCell ⟨B, j, none⟩ u') v g := by
  have k : ∀ (w0 : World) (i : Nat) (u : Value), Within B (B + 1) w0 (w0.setCell ⟨B, i, none⟩ u) := fun w0 i u => Within.cell w0 ⟨B, i, none⟩ u
  exact (h.within (k _ i u) (by omega)).within (k _ j u') (by omega)
theorem boxIn_mk {w1 wx : World} {lo hi : Nat} {ao bo : Option Addr} {ac bc : Nat} {R : Grf} (B : Nat) (hB : w1.heap.size ≤ B) (h0 : w1.heap.size ≤ lo) (h1 : hi ≤ wx.heap.size ∧ (B < lo ∨ hi ≤ B))
    (hO : OwnG lo hi wx (.agg #[.slice ao R.vs.length ac, .slice bo R.es.length bc]) R) (hK : Blk wx B 30 #[.slice ao R.vs.length ac, .slice bo R.es.length bc]) (hS : Since w1 wx) :
    BoxIn w1 wx (.pointer (some ⟨B, 0, none⟩)) R := ⟨lo, hi, B, ao, ac, bo, bc, rfl, h0, hB, h1.1, h1.2, hO, hK, hS⟩
end Go.Proofs.Ytpmkpeclfhmhlaa
