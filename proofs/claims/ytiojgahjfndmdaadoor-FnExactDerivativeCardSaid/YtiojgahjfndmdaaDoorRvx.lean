/- ReverseExpr, the model's and the program's. -/
import Derived.Test.YtiojgahjfndmdaaDoorLrv
namespace Go.Proofs.YtiojgahjfndmdaaDoor
set_option maxRecDepth 100000
open Go.ChangeShapes Go.WideShapes Go.ChangeAt Go.RowKit
set_option linter.unusedVariables false
set_option linter.unusedSimpArgs false

theorem xbOut_mk {w w' : World} {b : Value} {xs : List Tok} {c : Bool} (h : OwnK w.heap.size w' b xs) (hs : Since w w') : XBOut w xs c (.returned (.tuple #[.agg #[b], .bool c])) w' := ⟨_, rfl, OwnX.mk h, hs⟩
theorem xbOut_nil {w w' : World} (hs : Since w w') : XBOut w [] false (.returned (.tuple #[.agg #[.slice none 0 0], .bool false])) w' :=
  xbOut_mk ⟨fun x hx => by simp at hx, World.ownsRow_nil _ _ _ _⟩ hs
theorem xbOut_box {w w2 : World} {b : Value} {xs : List Tok} {c : Bool} {X i : Nat} {t : TypeId} {cs : Array Value} (h : OwnK w.heap.size w2 b xs) (hs : Since w w2) (hb : Blk w2 X t cs) (ht : t ≠ 65) (hX : w.heap.size ≤ X) (u : Value) : XBOut w xs c (.returned (.tuple #[.agg #[b], .bool c])) (w2.setCell ⟨X, i, none⟩ u) :=
  xbOut_mk (h.farT hb ht i u) (hs.setCell hX u)
end Go.Proofs.YtiojgahjfndmdaaDoor
