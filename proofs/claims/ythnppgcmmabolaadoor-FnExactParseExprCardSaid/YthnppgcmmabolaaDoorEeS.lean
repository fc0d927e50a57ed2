/- EqualExprs, the model's and the program's. -/
import Derived.Test.YthnppgcmmabolaaDoorTokL
namespace Go.Proofs.YthnppgcmmabolaaDoor
set_option maxRecDepth 100000
open Go.ChangeShapes Go.WideShapes Go.ChangeAt Go.RowKit
set_option linter.unusedVariables false
set_option linter.unusedSimpArgs false
end Go.Proofs.YthnppgcmmabolaaDoor
