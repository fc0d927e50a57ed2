/- What the great law of the constructors asks. No program in it. -/
import Derived.Test.YtiojgahjfndmdaaDoorWuM
namespace Go.Proofs.YtiojgahjfndmdaaDoor
set_option maxRecDepth 100000
open Go.ChangeShapes Go.WideShapes Go.ChangeAt Go.RowKit
set_option linter.unusedVariables false
set_option linter.unusedSimpArgs false

theorem nul_of {xs : List Tok} (h : isP xs) : nulX xs = true ↔ LgX xs [] := nulX_lg (isP_iff.2 h)
theorem nul_cat {xs ys : List Tok} (hx : isP xs) (hy : isP ys) : nulX (catX xs ys) = (nulX xs && nulX ys) := by
  rw [Bool.eq_iff_iff, Bool.and_eq_true, nul_of (isP_cat hx hy), nul_of hx, nul_of hy, lg_cat hx hy, catP_nil]
theorem nul_uni {xs ys : List Tok} (hx : isP xs) (hy : isP ys) : nulX (uniX xs ys) = (nulX xs || nulX ys) := by
  rw [Bool.eq_iff_iff, Bool.or_eq_true, nul_of (isP_uni hx hy), nul_of hx, nul_of hy, lg_uni hx hy]
theorem nul_star {xs : List Tok} (hx : isP xs) : nulX (starX xs) = true := by
  rw [nul_of (isP_star hx), lg_star hx]
  exact ⟨0, rfl⟩
/-- Whether an expression takes a word, by the table. -/
def matX (xs : List Tok) (w : List Int) : Bool := match treeO xs with
  | some T => gT w T 0 w.length
  | none => false
theorem mat_lg {xs : List Tok} (h : isP xs) (w : List Int) : matX xs w = true ↔ LgX xs w := by
  obtain ⟨T, hT, rfl⟩ := h
  unfold matX
  rw [treeO_post hT, LgX_post hT]
  exact gT_word w hT
theorem mat_uni {xs ys : List Tok} (hx : isP xs) (hy : isP ys) (w : List Int) : matX (uniX xs ys) w = (matX xs w || matX ys w) := by
  rw [Bool.eq_iff_iff, Bool.or_eq_true, mat_lg (isP_uni hx hy), mat_lg hx, mat_lg hy, lg_uni hx hy]
theorem mat_der {xs : List Tok} {w : List Int} (hx : isP xs) (h : (derW xs w).2 = true) : nulX (derW xs w).1 = matX xs w := by
  rw [Bool.eq_iff_iff, derW_nul h, mat_lg hx]
end Go.Proofs.YtiojgahjfndmdaaDoor
