/-
  No cell of these rows narrows 'for every input' (looked for: loops, veiled, ifaces, maps, wideKeys, modest, calm, conditions, laid).
  DERIVED. THE GIVEN ROWS OF THIS SEAT. 8 by the template 'for every input the law returns true; each argument reads behind the call as it read before'; 0 by the template 'total and deterministic' (their statements: YtgnjgfifgfbmcaaTotals.lean).
  GIVEN WITH THE SEED: the statements are not yours to turn. If you find one false, say at which input.
  Laid BY PROGRAM, IN A SANDBOX (cutbox-rows.mjs): the forced cells as the released guide's own fill.sh prints them over the translation 621fae3473dbb6b0… (all of the seat's roots in one cut). By AI agents, Wed Nov 11 2026. No macro, syntax, notation, axiom, sorry.
-/
import Derived.Test.YtgnjgfifgfbmcaaChecked
import GoSem.Claim
import GoSem.ClaimJoined
import GoSem.ClaimMapViews
import Derived.JoinedTies
import Derived.KernelRfl
namespace Go.Proofs.Ytgnjgfifgfbmcaa
/- THE CELL 'sum', in the pinned program and in every row, IS THE sha256 OF THE DUMP (.gsa) THAT YtgnjgfifgfbmcaaProg.lean LOADS. Nothing in Lean hashes anything: it is a label: what it is worth is what the hold of that sum in a sandbox is worth. -/
noncomputable def Try.pinned : Pinned := { name := "ytgnjgfifgfbmcaa", sum := "621fae3473dbb6b019c90ad2f85c8b5be5d0900a4985eece34f392e72b961005", checked := Try.checked }
namespace Rows
def none {H : Type} : Left H := { results := [], args := [] }

/-- 'laws.FnAmbiguity': WHATEVER THE INPUT: true; the input reads as it did. -/
def fnAmbiguitySpec : ChangeSpec := { name := "fnAmbiguity", fn := fun _ => fun
  | [d] => { results := [.lit (.bool true)], args := [d] }
  | _ => none }
def fnAmbiguityRow : OpenClaim := { program := "ytgnjgfifgfbmcaa", sum := "621fae3473dbb6b019c90ad2f85c8b5be5d0900a4985eece34f392e72b961005", func := "loop.example/g01922/laws.FnAmbiguity", spec := "fnAmbiguity", recurses := true, apart := false }
def FnAmbiguitySaid : Prop := fnAmbiguityRow.holds Try.pinned (OpenSpec.ofChange fnAmbiguitySpec)

/-- ITS FALSE NEIGHBOUR: 'it returns false'. Refute it at one input. -/
def fnAmbiguityWrong : ChangeSpec := { name := "fnAmbiguity", fn := fun _ => fun
  | [d] => { results := [.lit (.bool false)], args := [d] }
  | _ => none }
def FnAmbiguityWrongFalsely : Prop := fnAmbiguityRow.holds Try.pinned (OpenSpec.ofChange fnAmbiguityWrong)

/-- 'laws.FnExactIsValidPositions': WHATEVER THE INPUT: true; the input reads as it did. -/
def fnExactIsValidPositionsSpec : ChangeSpec := { name := "fnExactIsValidPositions", fn := fun _ => fun
  | [d] => { results := [.lit (.bool true)], args := [d] }
  | _ => none }
def fnExactIsValidPositionsRow : OpenClaim := { program := "ytgnjgfifgfbmcaa", sum := "621fae3473dbb6b019c90ad2f85c8b5be5d0900a4985eece34f392e72b961005", func := "loop.example/g01922/laws.FnExactIsValidPositions", spec := "fnExactIsValidPositions", apart := false }
def FnExactIsValidPositionsSaid : Prop := fnExactIsValidPositionsRow.holds Try.pinned (OpenSpec.ofChange fnExactIsValidPositionsSpec)

/-- ITS FALSE NEIGHBOUR: 'it returns false'. Refute it at one input. -/
def fnExactIsValidPositionsWrong : ChangeSpec := { name := "fnExactIsValidPositions", fn := fun _ => fun
  | [d] => { results := [.lit (.bool false)], args := [d] }
  | _ => none }
def FnExactIsValidPositionsWrongFalsely : Prop := fnExactIsValidPositionsRow.holds Try.pinned (OpenSpec.ofChange fnExactIsValidPositionsWrong)

/-- 'laws.FnExactPositionsAfter': WHATEVER THE INPUT: true; the input reads as it did. -/
def fnExactPositionsAfterSpec : ChangeSpec := { name := "fnExactPositionsAfter", fn := fun _ => fun
  | [d1, d2, d3] => { results := [.lit (.bool true)], args := [d1, d2, d3] }
  | _ => none }
def fnExactPositionsAfterRow : OpenClaim := { program := "ytgnjgfifgfbmcaa", sum := "621fae3473dbb6b019c90ad2f85c8b5be5d0900a4985eece34f392e72b961005", func := "loop.example/g01922/laws.FnExactPositionsAfter", spec := "fnExactPositionsAfter", apart := false }
def FnExactPositionsAfterSaid : Prop := fnExactPositionsAfterRow.holds Try.pinned (OpenSpec.ofChange fnExactPositionsAfterSpec)

/-- ITS FALSE NEIGHBOUR: 'it returns false'. Refute it at one input. -/
def fnExactPositionsAfterWrong : ChangeSpec := { name := "fnExactPositionsAfter", fn := fun _ => fun
  | [d1, d2, d3] => { results := [.lit (.bool false)], args := [d1, d2, d3] }
  | _ => none }
def FnExactPositionsAfterWrongFalsely : Prop := fnExactPositionsAfterRow.holds Try.pinned (OpenSpec.ofChange fnExactPositionsAfterWrong)

/-- 'laws.FnExactAcceptsSet': WHATEVER THE INPUT: true; the input reads as it did. -/
def fnExactAcceptsSetSpec : ChangeSpec := { name := "fnExactAcceptsSet", fn := fun _ => fun
  | [d1, d2] => { results := [.lit (.bool true)], args := [d1, d2] }
  | _ => none }
def fnExactAcceptsSetRow : OpenClaim := { program := "ytgnjgfifgfbmcaa", sum := "621fae3473dbb6b019c90ad2f85c8b5be5d0900a4985eece34f392e72b961005", func := "loop.example/g01922/laws.FnExactAcceptsSet", spec := "fnExactAcceptsSet", apart := false }
def FnExactAcceptsSetSaid : Prop := fnExactAcceptsSetRow.holds Try.pinned (OpenSpec.ofChange fnExactAcceptsSetSpec)

/-- ITS FALSE NEIGHBOUR: 'it returns false'. Refute it at one input. -/
def fnExactAcceptsSetWrong : ChangeSpec := { name := "fnExactAcceptsSet", fn := fun _ => fun
  | [d1, d2] => { results := [.lit (.bool false)], args := [d1, d2] }
  | _ => none }
def FnExactAcceptsSetWrongFalsely : Prop := fnExactAcceptsSetRow.holds Try.pinned (OpenSpec.ofChange fnExactAcceptsSetWrong)

/-- 'laws.FnExactPositionsMatch': WHATEVER THE INPUT: true; the input reads as it did. -/
def fnExactPositionsMatchSpec : ChangeSpec := { name := "fnExactPositionsMatch", fn := fun _ => fun
  | [d1, d2] => { results := [.lit (.bool true)], args := [d1, d2] }
  | _ => none }
def fnExactPositionsMatchRow : OpenClaim := { program := "ytgnjgfifgfbmcaa", sum := "621fae3473dbb6b019c90ad2f85c8b5be5d0900a4985eece34f392e72b961005", func := "loop.example/g01922/laws.FnExactPositionsMatch", spec := "fnExactPositionsMatch", apart := false }
def FnExactPositionsMatchSaid : Prop := fnExactPositionsMatchRow.holds Try.pinned (OpenSpec.ofChange fnExactPositionsMatchSpec)

/-- ITS FALSE NEIGHBOUR: 'it returns false'. Refute it at one input. -/
def fnExactPositionsMatchWrong : ChangeSpec := { name := "fnExactPositionsMatch", fn := fun _ => fun
  | [d1, d2] => { results := [.lit (.bool false)], args := [d1, d2] }
  | _ => none }
def FnExactPositionsMatchWrongFalsely : Prop := fnExactPositionsMatchRow.holds Try.pinned (OpenSpec.ofChange fnExactPositionsMatchWrong)

/-- 'laws.FnExactCountRuns': WHATEVER THE INPUT: true; the input reads as it did. -/
def fnExactCountRunsSpec : ChangeSpec := { name := "fnExactCountRuns", fn := fun _ => fun
  | [d1, d2] => { results := [.lit (.bool true)], args := [d1, d2] }
  | _ => none }
def fnExactCountRunsRow : OpenClaim := { program := "ytgnjgfifgfbmcaa", sum := "621fae3473dbb6b019c90ad2f85c8b5be5d0900a4985eece34f392e72b961005", func := "loop.example/g01922/laws.FnExactCountRuns", spec := "fnExactCountRuns", apart := false }
def FnExactCountRunsSaid : Prop := fnExactCountRunsRow.holds Try.pinned (OpenSpec.ofChange fnExactCountRunsSpec)

/-- ITS FALSE NEIGHBOUR: 'it returns false'. Refute it at one input. -/
def fnExactCountRunsWrong : ChangeSpec := { name := "fnExactCountRuns", fn := fun _ => fun
  | [d1, d2] => { results := [.lit (.bool false)], args := [d1, d2] }
  | _ => none }
def FnExactCountRunsWrongFalsely : Prop := fnExactCountRunsRow.holds Try.pinned (OpenSpec.ofChange fnExactCountRunsWrong)

/-- 'laws.FnExactAmbiguousWord': WHATEVER THE INPUT: true; the input reads as it did. -/
def fnExactAmbiguousWordSpec : ChangeSpec := { name := "fnExactAmbiguousWord", fn := fun _ => fun
  | [d] => { results := [.lit (.bool true)], args := [d] }
  | _ => none }
def fnExactAmbiguousWordRow : OpenClaim := { program := "ytgnjgfifgfbmcaa", sum := "621fae3473dbb6b019c90ad2f85c8b5be5d0900a4985eece34f392e72b961005", func := "loop.example/g01922/laws.FnExactAmbiguousWord", spec := "fnExactAmbiguousWord", apart := false }
def FnExactAmbiguousWordSaid : Prop := fnExactAmbiguousWordRow.holds Try.pinned (OpenSpec.ofChange fnExactAmbiguousWordSpec)

/-- ITS FALSE NEIGHBOUR: 'it returns false'. Refute it at one input. -/
def fnExactAmbiguousWordWrong : ChangeSpec := { name := "fnExactAmbiguousWord", fn := fun _ => fun
  | [d] => { results := [.lit (.bool false)], args := [d] }
  | _ => none }
def FnExactAmbiguousWordWrongFalsely : Prop := fnExactAmbiguousWordRow.holds Try.pinned (OpenSpec.ofChange fnExactAmbiguousWordWrong)

/-- 'laws.FnExactIsUnambiguous': WHATEVER THE INPUT: true; the input reads as it did. -/
def fnExactIsUnambiguousSpec : ChangeSpec := { name := "fnExactIsUnambiguous", fn := fun _ => fun
  | [d] => { results := [.lit (.bool true)], args := [d] }
  | _ => none }
def fnExactIsUnambiguousRow : OpenClaim := { program := "ytgnjgfifgfbmcaa", sum := "621fae3473dbb6b019c90ad2f85c8b5be5d0900a4985eece34f392e72b961005", func := "loop.example/g01922/laws.FnExactIsUnambiguous", spec := "fnExactIsUnambiguous", apart := false }
def FnExactIsUnambiguousSaid : Prop := fnExactIsUnambiguousRow.holds Try.pinned (OpenSpec.ofChange fnExactIsUnambiguousSpec)

/-- ITS FALSE NEIGHBOUR: 'it returns false'. Refute it at one input. -/
def fnExactIsUnambiguousWrong : ChangeSpec := { name := "fnExactIsUnambiguous", fn := fun _ => fun
  | [d] => { results := [.lit (.bool false)], args := [d] }
  | _ => none }
def FnExactIsUnambiguousWrongFalsely : Prop := fnExactIsUnambiguousRow.holds Try.pinned (OpenSpec.ofChange fnExactIsUnambiguousWrong)

/- THE SECOND FORM. 'bulk': how many values and letters a reading holds, each counted each time it is reached (what is shared counts as often as it is met; a slice's spare places count too). A statement '..UptoSaid' is the law's where the arguments, and the package variables that the reading takes, are together of bulk at most 1048576: NARROWER than '..Said'. Prove '..Said' where nothing that the law and all that it calls make is longer than what came in: it says more and counts as full. Else prove '..UptoSaid'. A law counts once. -/
mutual
def uptoBulk {H : Type} : DataW H → Nat
  | .lit (.string bytes) => bytes.length + 1
  | .lit _ => 1
  | .nil => 1
  | .ptr d => uptoBulk d + 1
  | .slice elems spare => uptoBulkAll elems + uptoBulkAll spare + 1
  | .agg parts => uptoBulkAll parts + 1
  | .iface _ d => uptoBulk d + 1
  | .map entries => uptoBulkEntries entries + 1
  | .held _ => 1
def uptoBulkAll {H : Type} : List (DataW H) → Nat
  | [] => 0
  | d :: r => uptoBulk d + uptoBulkAll r
def uptoBulkEntries {H : Type} : List (Lit × DataW H) → Nat
  | [] => 0
  | x :: r => uptoBulkEntry x + uptoBulkEntries r
def uptoBulkEntry {H : Type} : Lit × DataW H → Nat
  | (.string bytes, d) => bytes.length + uptoBulk d + 1
  | (_, d) => uptoBulk d + 1
 end
def uptoSmall : (H : Type) → List (DataW H) → Bool := fun _ ds => decide (uptoBulkAll ds ≤ 1048576)
def OpenSpec.upto (s : _root_.Go.ChangeSpec) : _root_.Go.OpenSpec := { _root_.Go.OpenSpec.ofChange s with cond := some uptoSmall }

/-- 'laws.FnAmbiguity', WHERE WHAT IT READS IS OF BULK AT MOST 1048576: true; the input reads as it did. -/
def fnAmbiguityUptoRow : OpenClaim := { program := "ytgnjgfifgfbmcaa", sum := "621fae3473dbb6b019c90ad2f85c8b5be5d0900a4985eece34f392e72b961005", func := "loop.example/g01922/laws.FnAmbiguity", spec := "fnAmbiguity", recurses := true, apart := false, narrowed := true }
def FnAmbiguityUptoSaid : Prop := fnAmbiguityUptoRow.holds Try.pinned (OpenSpec.upto fnAmbiguitySpec)

/-- 'laws.FnExactIsValidPositions', WHERE WHAT IT READS IS OF BULK AT MOST 1048576: true; the input reads as it did. -/
def fnExactIsValidPositionsUptoRow : OpenClaim := { program := "ytgnjgfifgfbmcaa", sum := "621fae3473dbb6b019c90ad2f85c8b5be5d0900a4985eece34f392e72b961005", func := "loop.example/g01922/laws.FnExactIsValidPositions", spec := "fnExactIsValidPositions", apart := false, narrowed := true }
def FnExactIsValidPositionsUptoSaid : Prop := fnExactIsValidPositionsUptoRow.holds Try.pinned (OpenSpec.upto fnExactIsValidPositionsSpec)

/-- 'laws.FnExactPositionsAfter', WHERE WHAT IT READS IS OF BULK AT MOST 1048576: true; the input reads as it did. -/
def fnExactPositionsAfterUptoRow : OpenClaim := { program := "ytgnjgfifgfbmcaa", sum := "621fae3473dbb6b019c90ad2f85c8b5be5d0900a4985eece34f392e72b961005", func := "loop.example/g01922/laws.FnExactPositionsAfter", spec := "fnExactPositionsAfter", apart := false, narrowed := true }
def FnExactPositionsAfterUptoSaid : Prop := fnExactPositionsAfterUptoRow.holds Try.pinned (OpenSpec.upto fnExactPositionsAfterSpec)

/-- 'laws.FnExactAcceptsSet', WHERE WHAT IT READS IS OF BULK AT MOST 1048576: true; the input reads as it did. -/
def fnExactAcceptsSetUptoRow : OpenClaim := { program := "ytgnjgfifgfbmcaa", sum := "621fae3473dbb6b019c90ad2f85c8b5be5d0900a4985eece34f392e72b961005", func := "loop.example/g01922/laws.FnExactAcceptsSet", spec := "fnExactAcceptsSet", apart := false, narrowed := true }
def FnExactAcceptsSetUptoSaid : Prop := fnExactAcceptsSetUptoRow.holds Try.pinned (OpenSpec.upto fnExactAcceptsSetSpec)

/-- 'laws.FnExactPositionsMatch', WHERE WHAT IT READS IS OF BULK AT MOST 1048576: true; the input reads as it did. -/
def fnExactPositionsMatchUptoRow : OpenClaim := { program := "ytgnjgfifgfbmcaa", sum := "621fae3473dbb6b019c90ad2f85c8b5be5d0900a4985eece34f392e72b961005", func := "loop.example/g01922/laws.FnExactPositionsMatch", spec := "fnExactPositionsMatch", apart := false, narrowed := true }
def FnExactPositionsMatchUptoSaid : Prop := fnExactPositionsMatchUptoRow.holds Try.pinned (OpenSpec.upto fnExactPositionsMatchSpec)

/-- 'laws.FnExactCountRuns', WHERE WHAT IT READS IS OF BULK AT MOST 1048576: true; the input reads as it did. -/
def fnExactCountRunsUptoRow : OpenClaim := { program := "ytgnjgfifgfbmcaa", sum := "621fae3473dbb6b019c90ad2f85c8b5be5d0900a4985eece34f392e72b961005", func := "loop.example/g01922/laws.FnExactCountRuns", spec := "fnExactCountRuns", apart := false, narrowed := true }
def FnExactCountRunsUptoSaid : Prop := fnExactCountRunsUptoRow.holds Try.pinned (OpenSpec.upto fnExactCountRunsSpec)

/-- 'laws.FnExactAmbiguousWord', WHERE WHAT IT READS IS OF BULK AT MOST 1048576: true; the input reads as it did. -/
def fnExactAmbiguousWordUptoRow : OpenClaim := { program := "ytgnjgfifgfbmcaa", sum := "621fae3473dbb6b019c90ad2f85c8b5be5d0900a4985eece34f392e72b961005", func := "loop.example/g01922/laws.FnExactAmbiguousWord", spec := "fnExactAmbiguousWord", apart := false, narrowed := true }
def FnExactAmbiguousWordUptoSaid : Prop := fnExactAmbiguousWordUptoRow.holds Try.pinned (OpenSpec.upto fnExactAmbiguousWordSpec)

/-- 'laws.FnExactIsUnambiguous', WHERE WHAT IT READS IS OF BULK AT MOST 1048576: true; the input reads as it did. -/
def fnExactIsUnambiguousUptoRow : OpenClaim := { program := "ytgnjgfifgfbmcaa", sum := "621fae3473dbb6b019c90ad2f85c8b5be5d0900a4985eece34f392e72b961005", func := "loop.example/g01922/laws.FnExactIsUnambiguous", spec := "fnExactIsUnambiguous", apart := false, narrowed := true }
def FnExactIsUnambiguousUptoSaid : Prop := fnExactIsUnambiguousUptoRow.holds Try.pinned (OpenSpec.upto fnExactIsUnambiguousSpec)

end Rows
end Go.Proofs.Ytgnjgfifgfbmcaa
