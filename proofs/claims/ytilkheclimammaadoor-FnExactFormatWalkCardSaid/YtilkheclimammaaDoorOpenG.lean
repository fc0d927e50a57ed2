/- Arguments opened: an edge, a graph. -/
import Derived.Test.YtilkheclimammaaDoorOpenI
import Derived.Test.YtilkheclimammaaDoorK0
import Derived.Lib.SmallJoins
import Derived.Deep.Slices
namespace Go.Proofs.YtilkheclimammaaDoor
set_option maxRecDepth 100000
open Go.ChangeShapes Go.WideShapes Go.ChangeAt Go.RowKit Go.Joins Go.Deep
set_option linter.unusedVariables false
instance : Inhabited Edg := ⟨zeroE⟩
end Go.Proofs.YtilkheclimammaaDoor
