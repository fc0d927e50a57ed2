/- Letters as text: the table of formats; FormatLetter. -/
import Derived.Test.YtilkheclimammaaDoorK0
import Derived.Test.YtilkheclimammaaDoorBytes
import Derived.Lib.LaidTab
namespace Go.Proofs.YtilkheclimammaaDoor
set_option maxRecDepth 100000
set_option linter.unusedVariables false
open Go.ChangeShapes Go.WideShapes Go.ChangeAt Go.RowKit

/-- The format of a letter. -/
def fmtB : Nat → ByteArray
  | 0 => ⟨#[97]⟩
  | 1 => ⟨#[97, 45]⟩
  | 2 => ⟨#[98]⟩
  | 3 => ⟨#[98, 45]⟩
  | 4 => ⟨#[99]⟩
  | 5 => ⟨#[99, 45]⟩
  | 6 => ⟨#[48]⟩
  | 7 => ⟨#[49]⟩
  | _ => ⟨#[50]⟩
def fmtL (x : Int) : ByteArray := bif inB x 0 8 then fmtB x.toNat else ⟨#[]⟩
theorem fmtL_in {k : Nat} (h : k ≤ 8) : fmtL (k : Int) = fmtB k := by
  unfold fmtL; rw [inB_true (by omega) (by omega)]; simp
theorem fmtL_out {x : Int} (h : inB x 0 8 = false) : fmtL x = ⟨#[]⟩ := by
  unfold fmtL; rw [h]; rfl
/-- The cells of the program's table. -/
def fbs : List Int := [97, 0, 97, 45, 98, 0, 98, 45, 99, 0, 99, 45, 48, 0, 49, 0, 50, 0]
def Fmts (w : World) : Prop := 0 < w.heap.size ∧ ∀ i, i < 18 → w.cell? ⟨0, i, none⟩ = some (.int .u8 (fbs.getD i 0))
theorem Fmts.since {w w' : World} (h : Fmts w) (k : Since w w') : Fmts w' :=
  ⟨Nat.lt_of_lt_of_le h.1 k.size, fun i hi => (Below.cell k (p := ⟨0, i, none⟩) h.1).trans (h.2 i hi)⟩
theorem nine {k : Nat} (h : k ≤ 8) : k = 0 ∨ k = 1 ∨ k = 2 ∨ k = 3 ∨ k = 4 ∨ k = 5 ∨ k = 6 ∨ k = 7 ∨ k = 8 := by omega
theorem inB_nat {x : Int} (h : inB x 0 8 = true) : ∃ k : Nat, k ≤ 8 ∧ x = (k : Int) := by
  have := of_decide_eq_true h
  exact ⟨x.toNat, by omega, by omega⟩

end Go.Proofs.YtilkheclimammaaDoor
