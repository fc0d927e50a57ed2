/- FormatWord, the program's; its law. -/
import Derived.Test.YtblmiocjhbpklaaDoorWf
import Derived.Test.YtblmiocjhbpklaaDoorK0
namespace Go.Proofs.YtblmiocjhbpklaaDoor
set_option maxRecDepth 100000
set_option linter.unusedVariables false
open Go.ChangeShapes Go.WideShapes Go.ChangeAt Go.RowKit

theorem info_str : (Tryd.prog.info? 9).map (fun i => (i.zero, i.size, i.bytes)) = some (some (.string ByteArray.empty), 1, 16) := by kernel_rfl
theorem made_strs (n : Nat) : (madeCells (Value.string ByteArray.empty).cells (n * 1)).toList = List.replicate n (.string ByteArray.empty) := by
  rw [Nat.mul_one]; exact toList_madeCells_one _ n
def scell (s : ByteArray) : Value := .string s
/-- The row of the formats of a list's first k letters. -/
def fmtFill (xs : List Int) (k : Nat) : List Value := filled ((xs.map fmtL).map scell) (.string ByteArray.empty) k

theorem own_cells {base n : Nat} {w : World} {g cap : Nat} {ss : List ByteArray} (h : w.ownsRow base 9 1 (.slice (some ⟨g, 0, none⟩) n cap) n (ss.map scell)) :
    g < w.heap.size ∧ n ≤ cap ∧ ∀ (j : Nat) x, ss[j]? = some x → w.cell? ⟨g, 0 + j, none⟩ = some (.string x) := by
  have h' := h
  rcases h.2 with ⟨hv, hn⟩ | ⟨g', cap', cur, hv, hb, hg, hnc, _⟩
  · cases hv
  · cases hv
    refine ⟨heap_lt hg, hnc, fun j x hx => ?_⟩
    have hl := h.1
    rw [List.length_map] at hl
    have hj : j < ss.length := (List.getElem?_eq_some_iff.1 hx).1
    rw [Nat.zero_add, h'.cellAt j (by omega), List.getElem?_map, hx]
    rfl

end Go.Proofs.YtblmiocjhbpklaaDoor
