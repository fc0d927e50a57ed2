/-
  No cell of these rows narrows 'for every input' (looked for: loops, veiled, ifaces, maps, wideKeys, modest, calm, conditions, laid).
  DERIVED. THE GIVEN ROWS OF THIS SEAT. 11 by the template 'for every input the law returns true; each argument reads behind the call as it read before'; 0 by the template 'total and deterministic' (their statements: YtpmkpeclfhmhlaaTotals.lean).
  GIVEN WITH THE SEED: the statements are not yours to turn. If you find one false, say at which input.
  Laid BY PROGRAM, IN A SANDBOX (cutbox-rows.mjs): the forced cells as the released guide's own fill.sh prints them over the translation ebf1e8e082878111… (all of the seat's roots in one cut). By AI agents, Wed Nov 11 2026. No macro, syntax, notation, axiom, sorry.
-/
import Derived.Test.YtpmkpeclfhmhlaaChecked
import GoSem.Claim
import GoSem.ClaimJoined
import GoSem.ClaimMapViews
import Derived.JoinedTies
import Derived.KernelRfl
namespace Go.Proofs.Ytpmkpeclfhmhlaa
/- THE CELL 'sum', in the pinned program and in every row, IS THE sha256 OF THE DUMP (.gsa) THAT YtpmkpeclfhmhlaaProg.lean LOADS. Nothing in Lean hashes anything: it is a label: what it is worth is what the hold of that sum in a sandbox is worth. -/
noncomputable def Try.pinned : Pinned := { name := "ytpmkpeclfhmhlaa", sum := "ebf1e8e08287811140572441cc43962b369d460f8c16500e3e8aa5d99a25d1cd", checked := Try.checked }
namespace Rows
def none {H : Type} : Left H := { results := [], args := [] }

/-- 'laws.FnExactIsValidGraph': WHATEVER THE INPUT: true; the input reads as it did. -/
def fnExactIsValidGraphSpec : ChangeSpec := { name := "fnExactIsValidGraph", fn := fun _ => fun
  | [d] => { results := [.lit (.bool true)], args := [d] }
  | _ => none }
def fnExactIsValidGraphRow : OpenClaim := { program := "ytpmkpeclfhmhlaa", sum := "ebf1e8e08287811140572441cc43962b369d460f8c16500e3e8aa5d99a25d1cd", func := "loop.example/g01922/laws.FnExactIsValidGraph", spec := "fnExactIsValidGraph", apart := false }
def FnExactIsValidGraphSaid : Prop := fnExactIsValidGraphRow.holds Try.pinned (OpenSpec.ofChange fnExactIsValidGraphSpec)

/-- ITS FALSE NEIGHBOUR: 'it returns false'. Refute it at one input. -/
def fnExactIsValidGraphWrong : ChangeSpec := { name := "fnExactIsValidGraph", fn := fun _ => fun
  | [d] => { results := [.lit (.bool false)], args := [d] }
  | _ => none }
def FnExactIsValidGraphWrongFalsely : Prop := fnExactIsValidGraphRow.holds Try.pinned (OpenSpec.ofChange fnExactIsValidGraphWrong)

/-- 'laws.FnExactInsertEdge': WHATEVER THE INPUT: true; the input reads as it did. -/
def fnExactInsertEdgeSpec : ChangeSpec := { name := "fnExactInsertEdge", fn := fun _ => fun
  | [d1, d2] => { results := [.lit (.bool true)], args := [d1, d2] }
  | _ => none }
def fnExactInsertEdgeRow : OpenClaim := { program := "ytpmkpeclfhmhlaa", sum := "ebf1e8e08287811140572441cc43962b369d460f8c16500e3e8aa5d99a25d1cd", func := "loop.example/g01922/laws.FnExactInsertEdge", spec := "fnExactInsertEdge", inPlace := ["slices.overlaps[loop.example/g01922/impl.Edge]"], unfollowed := true, recurses := true, apart := false }
def FnExactInsertEdgeSaid : Prop := fnExactInsertEdgeRow.holds Try.pinned (OpenSpec.ofChange fnExactInsertEdgeSpec)

/-- ITS FALSE NEIGHBOUR: 'it returns false'. Refute it at one input. -/
def fnExactInsertEdgeWrong : ChangeSpec := { name := "fnExactInsertEdge", fn := fun _ => fun
  | [d1, d2] => { results := [.lit (.bool false)], args := [d1, d2] }
  | _ => none }
def FnExactInsertEdgeWrongFalsely : Prop := fnExactInsertEdgeRow.holds Try.pinned (OpenSpec.ofChange fnExactInsertEdgeWrong)

/-- 'laws.FnExactDeleteEdge': WHATEVER THE INPUT: true; the input reads as it did. -/
def fnExactDeleteEdgeSpec : ChangeSpec := { name := "fnExactDeleteEdge", fn := fun _ => fun
  | [d1, d2] => { results := [.lit (.bool true)], args := [d1, d2] }
  | _ => none }
def fnExactDeleteEdgeRow : OpenClaim := { program := "ytpmkpeclfhmhlaa", sum := "ebf1e8e08287811140572441cc43962b369d460f8c16500e3e8aa5d99a25d1cd", func := "loop.example/g01922/laws.FnExactDeleteEdge", spec := "fnExactDeleteEdge", unfollowed := true, recurses := true, apart := false }
def FnExactDeleteEdgeSaid : Prop := fnExactDeleteEdgeRow.holds Try.pinned (OpenSpec.ofChange fnExactDeleteEdgeSpec)

/-- ITS FALSE NEIGHBOUR: 'it returns false'. Refute it at one input. -/
def fnExactDeleteEdgeWrong : ChangeSpec := { name := "fnExactDeleteEdge", fn := fun _ => fun
  | [d1, d2] => { results := [.lit (.bool false)], args := [d1, d2] }
  | _ => none }
def FnExactDeleteEdgeWrongFalsely : Prop := fnExactDeleteEdgeRow.holds Try.pinned (OpenSpec.ofChange fnExactDeleteEdgeWrong)

/-- 'laws.FnExactSetValue': WHATEVER THE INPUT: true; the input reads as it did. -/
def fnExactSetValueSpec : ChangeSpec := { name := "fnExactSetValue", fn := fun _ => fun
  | [d1, d2, d3] => { results := [.lit (.bool true)], args := [d1, d2, d3] }
  | _ => none }
def fnExactSetValueRow : OpenClaim := { program := "ytpmkpeclfhmhlaa", sum := "ebf1e8e08287811140572441cc43962b369d460f8c16500e3e8aa5d99a25d1cd", func := "loop.example/g01922/laws.FnExactSetValue", spec := "fnExactSetValue", apart := false }
def FnExactSetValueSaid : Prop := fnExactSetValueRow.holds Try.pinned (OpenSpec.ofChange fnExactSetValueSpec)

/-- ITS FALSE NEIGHBOUR: 'it returns false'. Refute it at one input. -/
def fnExactSetValueWrong : ChangeSpec := { name := "fnExactSetValue", fn := fun _ => fun
  | [d1, d2, d3] => { results := [.lit (.bool false)], args := [d1, d2, d3] }
  | _ => none }
def FnExactSetValueWrongFalsely : Prop := fnExactSetValueRow.holds Try.pinned (OpenSpec.ofChange fnExactSetValueWrong)

/-- 'laws.FnExactStepFrom': WHATEVER THE INPUT: true; the input reads as it did. -/
def fnExactStepFromSpec : ChangeSpec := { name := "fnExactStepFrom", fn := fun _ => fun
  | [d1, d2] => { results := [.lit (.bool true)], args := [d1, d2] }
  | _ => none }
def fnExactStepFromRow : OpenClaim := { program := "ytpmkpeclfhmhlaa", sum := "ebf1e8e08287811140572441cc43962b369d460f8c16500e3e8aa5d99a25d1cd", func := "loop.example/g01922/laws.FnExactStepFrom", spec := "fnExactStepFrom", apart := false }
def FnExactStepFromSaid : Prop := fnExactStepFromRow.holds Try.pinned (OpenSpec.ofChange fnExactStepFromSpec)

/-- ITS FALSE NEIGHBOUR: 'it returns false'. Refute it at one input. -/
def fnExactStepFromWrong : ChangeSpec := { name := "fnExactStepFrom", fn := fun _ => fun
  | [d1, d2] => { results := [.lit (.bool false)], args := [d1, d2] }
  | _ => none }
def FnExactStepFromWrongFalsely : Prop := fnExactStepFromRow.holds Try.pinned (OpenSpec.ofChange fnExactStepFromWrong)

/-- 'laws.FnExactStepTo': WHATEVER THE INPUT: true; the input reads as it did. -/
def fnExactStepToSpec : ChangeSpec := { name := "fnExactStepTo", fn := fun _ => fun
  | [d1, d2] => { results := [.lit (.bool true)], args := [d1, d2] }
  | _ => none }
def fnExactStepToRow : OpenClaim := { program := "ytpmkpeclfhmhlaa", sum := "ebf1e8e08287811140572441cc43962b369d460f8c16500e3e8aa5d99a25d1cd", func := "loop.example/g01922/laws.FnExactStepTo", spec := "fnExactStepTo", apart := false }
def FnExactStepToSaid : Prop := fnExactStepToRow.holds Try.pinned (OpenSpec.ofChange fnExactStepToSpec)

/-- ITS FALSE NEIGHBOUR: 'it returns false'. Refute it at one input. -/
def fnExactStepToWrong : ChangeSpec := { name := "fnExactStepTo", fn := fun _ => fun
  | [d1, d2] => { results := [.lit (.bool false)], args := [d1, d2] }
  | _ => none }
def FnExactStepToWrongFalsely : Prop := fnExactStepToRow.holds Try.pinned (OpenSpec.ofChange fnExactStepToWrong)

/-- 'laws.FnExactStepLetter': WHATEVER THE INPUT: true; the input reads as it did. -/
def fnExactStepLetterSpec : ChangeSpec := { name := "fnExactStepLetter", fn := fun _ => fun
  | [d1, d2] => { results := [.lit (.bool true)], args := [d1, d2] }
  | _ => none }
def fnExactStepLetterRow : OpenClaim := { program := "ytpmkpeclfhmhlaa", sum := "ebf1e8e08287811140572441cc43962b369d460f8c16500e3e8aa5d99a25d1cd", func := "loop.example/g01922/laws.FnExactStepLetter", spec := "fnExactStepLetter", apart := false }
def FnExactStepLetterSaid : Prop := fnExactStepLetterRow.holds Try.pinned (OpenSpec.ofChange fnExactStepLetterSpec)

/-- ITS FALSE NEIGHBOUR: 'it returns false'. Refute it at one input. -/
def fnExactStepLetterWrong : ChangeSpec := { name := "fnExactStepLetter", fn := fun _ => fun
  | [d1, d2] => { results := [.lit (.bool false)], args := [d1, d2] }
  | _ => none }
def FnExactStepLetterWrongFalsely : Prop := fnExactStepLetterRow.holds Try.pinned (OpenSpec.ofChange fnExactStepLetterWrong)

/-- 'laws.FnExactStepsFrom': WHATEVER THE INPUT: true; the input reads as it did. -/
def fnExactStepsFromSpec : ChangeSpec := { name := "fnExactStepsFrom", fn := fun _ => fun
  | [d1, d2] => { results := [.lit (.bool true)], args := [d1, d2] }
  | _ => none }
def fnExactStepsFromRow : OpenClaim := { program := "ytpmkpeclfhmhlaa", sum := "ebf1e8e08287811140572441cc43962b369d460f8c16500e3e8aa5d99a25d1cd", func := "loop.example/g01922/laws.FnExactStepsFrom", spec := "fnExactStepsFrom", unfollowed := true, recurses := true, apart := false }
def FnExactStepsFromSaid : Prop := fnExactStepsFromRow.holds Try.pinned (OpenSpec.ofChange fnExactStepsFromSpec)

/-- ITS FALSE NEIGHBOUR: 'it returns false'. Refute it at one input. -/
def fnExactStepsFromWrong : ChangeSpec := { name := "fnExactStepsFrom", fn := fun _ => fun
  | [d1, d2] => { results := [.lit (.bool false)], args := [d1, d2] }
  | _ => none }
def FnExactStepsFromWrongFalsely : Prop := fnExactStepsFromRow.holds Try.pinned (OpenSpec.ofChange fnExactStepsFromWrong)

/-- 'laws.FnExactStepsWith': WHATEVER THE INPUT: true; the input reads as it did. -/
def fnExactStepsWithSpec : ChangeSpec := { name := "fnExactStepsWith", fn := fun _ => fun
  | [d1, d2, d3] => { results := [.lit (.bool true)], args := [d1, d2, d3] }
  | _ => none }
def fnExactStepsWithRow : OpenClaim := { program := "ytpmkpeclfhmhlaa", sum := "ebf1e8e08287811140572441cc43962b369d460f8c16500e3e8aa5d99a25d1cd", func := "loop.example/g01922/laws.FnExactStepsWith", spec := "fnExactStepsWith", unfollowed := true, recurses := true, apart := false }
def FnExactStepsWithSaid : Prop := fnExactStepsWithRow.holds Try.pinned (OpenSpec.ofChange fnExactStepsWithSpec)

/-- ITS FALSE NEIGHBOUR: 'it returns false'. Refute it at one input. -/
def fnExactStepsWithWrong : ChangeSpec := { name := "fnExactStepsWith", fn := fun _ => fun
  | [d1, d2, d3] => { results := [.lit (.bool false)], args := [d1, d2, d3] }
  | _ => none }
def FnExactStepsWithWrongFalsely : Prop := fnExactStepsWithRow.holds Try.pinned (OpenSpec.ofChange fnExactStepsWithWrong)

/-- 'laws.FnExactNodesAfter': WHATEVER THE INPUT: true; the input reads as it did. -/
def fnExactNodesAfterSpec : ChangeSpec := { name := "fnExactNodesAfter", fn := fun _ => fun
  | [d1, d2, d3] => { results := [.lit (.bool true)], args := [d1, d2, d3] }
  | _ => none }
def fnExactNodesAfterRow : OpenClaim := { program := "ytpmkpeclfhmhlaa", sum := "ebf1e8e08287811140572441cc43962b369d460f8c16500e3e8aa5d99a25d1cd", func := "loop.example/g01922/laws.FnExactNodesAfter", spec := "fnExactNodesAfter", unfollowed := true, recurses := true, apart := false }
def FnExactNodesAfterSaid : Prop := fnExactNodesAfterRow.holds Try.pinned (OpenSpec.ofChange fnExactNodesAfterSpec)

/-- ITS FALSE NEIGHBOUR: 'it returns false'. Refute it at one input. -/
def fnExactNodesAfterWrong : ChangeSpec := { name := "fnExactNodesAfter", fn := fun _ => fun
  | [d1, d2, d3] => { results := [.lit (.bool false)], args := [d1, d2, d3] }
  | _ => none }
def FnExactNodesAfterWrongFalsely : Prop := fnExactNodesAfterRow.holds Try.pinned (OpenSpec.ofChange fnExactNodesAfterWrong)

/-- 'laws.FnExactHoldsAt': WHATEVER THE INPUT: true; the input reads as it did. -/
def fnExactHoldsAtSpec : ChangeSpec := { name := "fnExactHoldsAt", fn := fun _ => fun
  | [d1, d2, d3] => { results := [.lit (.bool true)], args := [d1, d2, d3] }
  | _ => none }
def fnExactHoldsAtRow : OpenClaim := { program := "ytpmkpeclfhmhlaa", sum := "ebf1e8e08287811140572441cc43962b369d460f8c16500e3e8aa5d99a25d1cd", func := "loop.example/g01922/laws.FnExactHoldsAt", spec := "fnExactHoldsAt", apart := false }
def FnExactHoldsAtSaid : Prop := fnExactHoldsAtRow.holds Try.pinned (OpenSpec.ofChange fnExactHoldsAtSpec)

/-- ITS FALSE NEIGHBOUR: 'it returns false'. Refute it at one input. -/
def fnExactHoldsAtWrong : ChangeSpec := { name := "fnExactHoldsAt", fn := fun _ => fun
  | [d1, d2, d3] => { results := [.lit (.bool false)], args := [d1, d2, d3] }
  | _ => none }
def FnExactHoldsAtWrongFalsely : Prop := fnExactHoldsAtRow.holds Try.pinned (OpenSpec.ofChange fnExactHoldsAtWrong)

/- THE SECOND FORM. 'bulk': how many values and letters a reading holds, each counted each time it is reached (what is shared counts as often as it is met; a slice's spare places count too). A statement '..UptoSaid' is the law's where the arguments, and the package variables that the reading takes, are together of bulk at most 1048576: NARROWER than '..Said'. Prove '..Said' where nothing that the law and all that it calls make is longer than what came in: it says more and counts as full. Else prove '..UptoSaid'. A law counts once. -/
mutual
def uptoBulk {H : Type} : DataW H → Nat
  | .lit (.string bytes) => bytes.length + 1
  | .lit _ => 1
  | .nil => 1
  | .ptr d => uptoBulk d + 1
  | .slice elems spare => uptoBulkAll elems + uptoBulkAll spare + 1
  | .agg parts => uptoBulkAll parts + 1
  | .iface _ d => uptoBulk d + 1
  | .map entries => uptoBulkEntries entries + 1
  | .held _ => 1
def uptoBulkAll {H : Type} : List (DataW H) → Nat
  | [] => 0
  | d :: r => uptoBulk d + uptoBulkAll r
def uptoBulkEntries {H : Type} : List (Lit × DataW H) → Nat
  | [] => 0
  | x :: r => uptoBulkEntry x + uptoBulkEntries r
def uptoBulkEntry {H : Type} : Lit × DataW H → Nat
  | (.string bytes, d) => bytes.length + uptoBulk d + 1
  | (_, d) => uptoBulk d + 1
 end
def uptoSmall : (H : Type) → List (DataW H) → Bool := fun _ ds => decide (uptoBulkAll ds ≤ 1048576)
def OpenSpec.upto (s : _root_.Go.ChangeSpec) : _root_.Go.OpenSpec := { _root_.Go.OpenSpec.ofChange s with cond := some uptoSmall }

/-- 'laws.FnExactIsValidGraph', WHERE WHAT IT READS IS OF BULK AT MOST 1048576: true; the input reads as it did. -/
def fnExactIsValidGraphUptoRow : OpenClaim := { program := "ytpmkpeclfhmhlaa", sum := "ebf1e8e08287811140572441cc43962b369d460f8c16500e3e8aa5d99a25d1cd", func := "loop.example/g01922/laws.FnExactIsValidGraph", spec := "fnExactIsValidGraph", apart := false, narrowed := true }
def FnExactIsValidGraphUptoSaid : Prop := fnExactIsValidGraphUptoRow.holds Try.pinned (OpenSpec.upto fnExactIsValidGraphSpec)

/-- 'laws.FnExactInsertEdge', WHERE WHAT IT READS IS OF BULK AT MOST 1048576: true; the input reads as it did. -/
def fnExactInsertEdgeUptoRow : OpenClaim := { program := "ytpmkpeclfhmhlaa", sum := "ebf1e8e08287811140572441cc43962b369d460f8c16500e3e8aa5d99a25d1cd", func := "loop.example/g01922/laws.FnExactInsertEdge", spec := "fnExactInsertEdge", inPlace := ["slices.overlaps[loop.example/g01922/impl.Edge]"], unfollowed := true, recurses := true, apart := false, narrowed := true }
def FnExactInsertEdgeUptoSaid : Prop := fnExactInsertEdgeUptoRow.holds Try.pinned (OpenSpec.upto fnExactInsertEdgeSpec)

/-- 'laws.FnExactDeleteEdge', WHERE WHAT IT READS IS OF BULK AT MOST 1048576: true; the input reads as it did. -/
def fnExactDeleteEdgeUptoRow : OpenClaim := { program := "ytpmkpeclfhmhlaa", sum := "ebf1e8e08287811140572441cc43962b369d460f8c16500e3e8aa5d99a25d1cd", func := "loop.example/g01922/laws.FnExactDeleteEdge", spec := "fnExactDeleteEdge", unfollowed := true, recurses := true, apart := false, narrowed := true }
def FnExactDeleteEdgeUptoSaid : Prop := fnExactDeleteEdgeUptoRow.holds Try.pinned (OpenSpec.upto fnExactDeleteEdgeSpec)

/-- 'laws.FnExactSetValue', WHERE WHAT IT READS IS OF BULK AT MOST 1048576: true; the input reads as it did. -/
def fnExactSetValueUptoRow : OpenClaim := { program := "ytpmkpeclfhmhlaa", sum := "ebf1e8e08287811140572441cc43962b369d460f8c16500e3e8aa5d99a25d1cd", func := "loop.example/g01922/laws.FnExactSetValue", spec := "fnExactSetValue", apart := false, narrowed := true }
def FnExactSetValueUptoSaid : Prop := fnExactSetValueUptoRow.holds Try.pinned (OpenSpec.upto fnExactSetValueSpec)

/-- 'laws.FnExactStepFrom', WHERE WHAT IT READS IS OF BULK AT MOST 1048576: true; the input reads as it did. -/
def fnExactStepFromUptoRow : OpenClaim := { program := "ytpmkpeclfhmhlaa", sum := "ebf1e8e08287811140572441cc43962b369d460f8c16500e3e8aa5d99a25d1cd", func := "loop.example/g01922/laws.FnExactStepFrom", spec := "fnExactStepFrom", apart := false, narrowed := true }
def FnExactStepFromUptoSaid : Prop := fnExactStepFromUptoRow.holds Try.pinned (OpenSpec.upto fnExactStepFromSpec)

/-- 'laws.FnExactStepTo', WHERE WHAT IT READS IS OF BULK AT MOST 1048576: true; the input reads as it did. -/
def fnExactStepToUptoRow : OpenClaim := { program := "ytpmkpeclfhmhlaa", sum := "ebf1e8e08287811140572441cc43962b369d460f8c16500e3e8aa5d99a25d1cd", func := "loop.example/g01922/laws.FnExactStepTo", spec := "fnExactStepTo", apart := false, narrowed := true }
def FnExactStepToUptoSaid : Prop := fnExactStepToUptoRow.holds Try.pinned (OpenSpec.upto fnExactStepToSpec)

/-- 'laws.FnExactStepLetter', WHERE WHAT IT READS IS OF BULK AT MOST 1048576: true; the input reads as it did. -/
def fnExactStepLetterUptoRow : OpenClaim := { program := "ytpmkpeclfhmhlaa", sum := "ebf1e8e08287811140572441cc43962b369d460f8c16500e3e8aa5d99a25d1cd", func := "loop.example/g01922/laws.FnExactStepLetter", spec := "fnExactStepLetter", apart := false, narrowed := true }
def FnExactStepLetterUptoSaid : Prop := fnExactStepLetterUptoRow.holds Try.pinned (OpenSpec.upto fnExactStepLetterSpec)

/-- 'laws.FnExactStepsFrom', WHERE WHAT IT READS IS OF BULK AT MOST 1048576: true; the input reads as it did. -/
def fnExactStepsFromUptoRow : OpenClaim := { program := "ytpmkpeclfhmhlaa", sum := "ebf1e8e08287811140572441cc43962b369d460f8c16500e3e8aa5d99a25d1cd", func := "loop.example/g01922/laws.FnExactStepsFrom", spec := "fnExactStepsFrom", unfollowed := true, recurses := true, apart := false, narrowed := true }
def FnExactStepsFromUptoSaid : Prop := fnExactStepsFromUptoRow.holds Try.pinned (OpenSpec.upto fnExactStepsFromSpec)

/-- 'laws.FnExactStepsWith', WHERE WHAT IT READS IS OF BULK AT MOST 1048576: true; the input reads as it did. -/
def fnExactStepsWithUptoRow : OpenClaim := { program := "ytpmkpeclfhmhlaa", sum := "ebf1e8e08287811140572441cc43962b369d460f8c16500e3e8aa5d99a25d1cd", func := "loop.example/g01922/laws.FnExactStepsWith", spec := "fnExactStepsWith", unfollowed := true, recurses := true, apart := false, narrowed := true }
def FnExactStepsWithUptoSaid : Prop := fnExactStepsWithUptoRow.holds Try.pinned (OpenSpec.upto fnExactStepsWithSpec)

/-- 'laws.FnExactNodesAfter', WHERE WHAT IT READS IS OF BULK AT MOST 1048576: true; the input reads as it did. -/
def fnExactNodesAfterUptoRow : OpenClaim := { program := "ytpmkpeclfhmhlaa", sum := "ebf1e8e08287811140572441cc43962b369d460f8c16500e3e8aa5d99a25d1cd", func := "loop.example/g01922/laws.FnExactNodesAfter", spec := "fnExactNodesAfter", unfollowed := true, recurses := true, apart := false, narrowed := true }
def FnExactNodesAfterUptoSaid : Prop := fnExactNodesAfterUptoRow.holds Try.pinned (OpenSpec.upto fnExactNodesAfterSpec)

/-- 'laws.FnExactHoldsAt', WHERE WHAT IT READS IS OF BULK AT MOST 1048576: true; the input reads as it did. -/
def fnExactHoldsAtUptoRow : OpenClaim := { program := "ytpmkpeclfhmhlaa", sum := "ebf1e8e08287811140572441cc43962b369d460f8c16500e3e8aa5d99a25d1cd", func := "loop.example/g01922/laws.FnExactHoldsAt", spec := "fnExactHoldsAt", apart := false, narrowed := true }
def FnExactHoldsAtUptoSaid : Prop := fnExactHoldsAtUptoRow.holds Try.pinned (OpenSpec.upto fnExactHoldsAtSpec)

end Rows
end Go.Proofs.Ytpmkpeclfhmhlaa
