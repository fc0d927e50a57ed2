/- Numbers and a truth value, as an answer. -/
import Derived.Test.YtmaagihfjldgeaaLwD
namespace Go.Proofs.Ytmaagihfjldgeaa
set_option maxRecDepth 100000
open Go.ChangeShapes Go.WideShapes Go.ChangeAt Go.RowKit Go.Maps

/-- Numbers, and a truth value. -/
def IBOut (w : World) (xs : List Int) (c : Bool) (e : Ending) (w' : World) : Prop := ∃ v, e = .returned (.tuple #[v, .bool c]) ∧ Own w.heap.size w' v xs ∧ Since w w'
end Go.Proofs.Ytmaagihfjldgeaa
