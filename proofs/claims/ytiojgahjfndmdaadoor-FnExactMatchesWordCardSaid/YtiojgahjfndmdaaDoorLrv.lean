/- ReverseExpr, the model's and the program's. -/
import Derived.Test.YtiojgahjfndmdaaDoorSpl
namespace Go.Proofs.YtiojgahjfndmdaaDoor
set_option maxRecDepth 100000
open Go.ChangeShapes Go.WideShapes Go.ChangeAt Go.RowKit
set_option linter.unusedVariables false
set_option linter.unusedSimpArgs false

theorem toks_blk {w : World} {L : Nat} {t : Tok} (h : Blk w L 65 #[.int .i64 t.kd, .int .i64 t.lr, .int .i64 t.lo, .int .i64 t.hi]) (ht : t.In) : ToksAt w (.slice (some ⟨L, 0, none⟩) 1 1) [t] := by
  refine ⟨fun x hx => by simp at hx; subst hx; exact ht, .inr ⟨L, 0, 1, rfl, h.lt, fun i hi => ?_⟩⟩
  obtain rfl : i = 0 := by simp at hi; omega
  obtain ⟨a, b, c, d, _⟩ := h.four
  exact ⟨a, b, c, d⟩
theorem post_pos {T : Tr} (h : T.ok) : 0 < T.post.length := by
  rw [post_len]
  cases T with
  | nil => exact h.elim
  | node t l r => simp [Tr.len]
end Go.Proofs.YtiojgahjfndmdaaDoor
