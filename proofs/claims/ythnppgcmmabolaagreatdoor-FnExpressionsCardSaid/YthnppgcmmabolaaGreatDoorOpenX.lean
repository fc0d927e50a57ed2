/- Arguments opened: a list of tokens, an expression. -/
import Derived.Test.YthnppgcmmabolaaGreatDoorOpenI
import Derived.Test.YthnppgcmmabolaaGreatDoorTok
import Derived.Lib.SmallJoins
import Derived.Deep.Slices
namespace Go.Proofs.YthnppgcmmabolaaGreatDoor
set_option maxRecDepth 100000
open Go.ChangeShapes Go.WideShapes Go.ChangeAt Go.RowKit Go.Joins Go.Deep
set_option linter.unusedVariables false
set_option linter.unusedSimpArgs false
instance : Inhabited Tok := ⟨zeroK⟩
theorem array1X {α : Type} {cs : Array α} (h : cs.size = 1) : ∃ c0, cs = #[c0] := by
  obtain ⟨l⟩ := cs
  match l, h with
  | [c0], _ => exact ⟨c0, rfl⟩
end Go.Proofs.YthnppgcmmabolaaGreatDoor
