/-
  No cell of these rows narrows 'for every input' (looked for: loops, veiled, ifaces, maps, wideKeys, modest, calm, conditions, laid).
  DERIVED. THE GIVEN ROWS OF THIS SEAT. 10 by the template 'for every input the law returns true; each argument reads behind the call as it read before'; 0 by the template 'total and deterministic' (their statements: YtblmiocjhbpklaaTotals.lean).
  GIVEN WITH THE SEED: the statements are not yours to turn. If you find one false, say at which input.
  Laid BY PROGRAM, IN A SANDBOX (cutbox-rows.mjs): the forced cells as the released guide's own fill.sh prints them over the translation 587b9c4c1f790413… (all of the seat's roots in one cut). By AI agents, Wed Nov 11 2026. No macro, syntax, notation, axiom, sorry.
-/
import Derived.Test.YtblmiocjhbpklaaChecked
import GoSem.Claim
import GoSem.ClaimJoined
import GoSem.ClaimMapViews
import Derived.JoinedTies
import Derived.KernelRfl
namespace Go.Proofs.Ytblmiocjhbpklaa
/- THE CELL 'sum', in the pinned program and in every row, IS THE sha256 OF THE DUMP (.gsa) THAT YtblmiocjhbpklaaProg.lean LOADS. Nothing in Lean hashes anything: it is a label: what it is worth is what the hold of that sum in a sandbox is worth. -/
noncomputable def Try.pinned : Pinned := { name := "ytblmiocjhbpklaa", sum := "587b9c4c1f790413dd888dd55e78f025070458d2b02da3f3f8fec6dce1eb8467", checked := Try.checked }
namespace Rows
def none {H : Type} : Left H := { results := [], args := [] }

/-- 'laws.FnAmbiguity': WHATEVER THE INPUT: true; the input reads as it did. -/
def fnAmbiguitySpec : ChangeSpec := { name := "fnAmbiguity", fn := fun _ => fun
  | [d] => { results := [.lit (.bool true)], args := [d] }
  | _ => none }
def fnAmbiguityRow : OpenClaim := { program := "ytblmiocjhbpklaa", sum := "587b9c4c1f790413dd888dd55e78f025070458d2b02da3f3f8fec6dce1eb8467", func := "loop.example/g01922/laws.FnAmbiguity", spec := "fnAmbiguity", recurses := true, apart := false }
def FnAmbiguitySaid : Prop := fnAmbiguityRow.holds Try.pinned (OpenSpec.ofChange fnAmbiguitySpec)

/-- ITS FALSE NEIGHBOUR: 'it returns false'. Refute it at one input. -/
def fnAmbiguityWrong : ChangeSpec := { name := "fnAmbiguity", fn := fun _ => fun
  | [d] => { results := [.lit (.bool false)], args := [d] }
  | _ => none }
def FnAmbiguityWrongFalsely : Prop := fnAmbiguityRow.holds Try.pinned (OpenSpec.ofChange fnAmbiguityWrong)

/-- 'laws.FnExactAmbiguousWord': WHATEVER THE INPUT: true; the input reads as it did. -/
def fnExactAmbiguousWordSpec : ChangeSpec := { name := "fnExactAmbiguousWord", fn := fun _ => fun
  | [d] => { results := [.lit (.bool true)], args := [d] }
  | _ => none }
def fnExactAmbiguousWordRow : OpenClaim := { program := "ytblmiocjhbpklaa", sum := "587b9c4c1f790413dd888dd55e78f025070458d2b02da3f3f8fec6dce1eb8467", func := "loop.example/g01922/laws.FnExactAmbiguousWord", spec := "fnExactAmbiguousWord", apart := false }
def FnExactAmbiguousWordSaid : Prop := fnExactAmbiguousWordRow.holds Try.pinned (OpenSpec.ofChange fnExactAmbiguousWordSpec)

/-- ITS FALSE NEIGHBOUR: 'it returns false'. Refute it at one input. -/
def fnExactAmbiguousWordWrong : ChangeSpec := { name := "fnExactAmbiguousWord", fn := fun _ => fun
  | [d] => { results := [.lit (.bool false)], args := [d] }
  | _ => none }
def FnExactAmbiguousWordWrongFalsely : Prop := fnExactAmbiguousWordRow.holds Try.pinned (OpenSpec.ofChange fnExactAmbiguousWordWrong)

/-- 'laws.FnExactIsUnambiguous': WHATEVER THE INPUT: true; the input reads as it did. -/
def fnExactIsUnambiguousSpec : ChangeSpec := { name := "fnExactIsUnambiguous", fn := fun _ => fun
  | [d] => { results := [.lit (.bool true)], args := [d] }
  | _ => none }
def fnExactIsUnambiguousRow : OpenClaim := { program := "ytblmiocjhbpklaa", sum := "587b9c4c1f790413dd888dd55e78f025070458d2b02da3f3f8fec6dce1eb8467", func := "loop.example/g01922/laws.FnExactIsUnambiguous", spec := "fnExactIsUnambiguous", apart := false }
def FnExactIsUnambiguousSaid : Prop := fnExactIsUnambiguousRow.holds Try.pinned (OpenSpec.ofChange fnExactIsUnambiguousSpec)

/-- ITS FALSE NEIGHBOUR: 'it returns false'. Refute it at one input. -/
def fnExactIsUnambiguousWrong : ChangeSpec := { name := "fnExactIsUnambiguous", fn := fun _ => fun
  | [d] => { results := [.lit (.bool false)], args := [d] }
  | _ => none }
def FnExactIsUnambiguousWrongFalsely : Prop := fnExactIsUnambiguousRow.holds Try.pinned (OpenSpec.ofChange fnExactIsUnambiguousWrong)

/-- 'laws.FnExactIsValidAutomaton': WHATEVER THE INPUT: true; the input reads as it did. -/
def fnExactIsValidAutomatonSpec : ChangeSpec := { name := "fnExactIsValidAutomaton", fn := fun _ => fun
  | [d] => { results := [.lit (.bool true)], args := [d] }
  | _ => none }
def fnExactIsValidAutomatonRow : OpenClaim := { program := "ytblmiocjhbpklaa", sum := "587b9c4c1f790413dd888dd55e78f025070458d2b02da3f3f8fec6dce1eb8467", func := "loop.example/g01922/laws.FnExactIsValidAutomaton", spec := "fnExactIsValidAutomaton", apart := false }
def FnExactIsValidAutomatonSaid : Prop := fnExactIsValidAutomatonRow.holds Try.pinned (OpenSpec.ofChange fnExactIsValidAutomatonSpec)

/-- ITS FALSE NEIGHBOUR: 'it returns false'. Refute it at one input. -/
def fnExactIsValidAutomatonWrong : ChangeSpec := { name := "fnExactIsValidAutomaton", fn := fun _ => fun
  | [d] => { results := [.lit (.bool false)], args := [d] }
  | _ => none }
def FnExactIsValidAutomatonWrongFalsely : Prop := fnExactIsValidAutomatonRow.holds Try.pinned (OpenSpec.ofChange fnExactIsValidAutomatonWrong)

/-- 'laws.FnExactDeterminize': WHATEVER THE INPUT: true; the input reads as it did. -/
def fnExactDeterminizeSpec : ChangeSpec := { name := "fnExactDeterminize", fn := fun _ => fun
  | [d] => { results := [.lit (.bool true)], args := [d] }
  | _ => none }
def fnExactDeterminizeRow : OpenClaim := { program := "ytblmiocjhbpklaa", sum := "587b9c4c1f790413dd888dd55e78f025070458d2b02da3f3f8fec6dce1eb8467", func := "loop.example/g01922/laws.FnExactDeterminize", spec := "fnExactDeterminize", unfollowed := true, recurses := true, apart := false }
def FnExactDeterminizeSaid : Prop := fnExactDeterminizeRow.holds Try.pinned (OpenSpec.ofChange fnExactDeterminizeSpec)

/-- ITS FALSE NEIGHBOUR: 'it returns false'. Refute it at one input. -/
def fnExactDeterminizeWrong : ChangeSpec := { name := "fnExactDeterminize", fn := fun _ => fun
  | [d] => { results := [.lit (.bool false)], args := [d] }
  | _ => none }
def FnExactDeterminizeWrongFalsely : Prop := fnExactDeterminizeRow.holds Try.pinned (OpenSpec.ofChange fnExactDeterminizeWrong)

/-- 'laws.FnExactRunWord': WHATEVER THE INPUT: true; the input reads as it did. -/
def fnExactRunWordSpec : ChangeSpec := { name := "fnExactRunWord", fn := fun _ => fun
  | [d1, d2] => { results := [.lit (.bool true)], args := [d1, d2] }
  | _ => none }
def fnExactRunWordRow : OpenClaim := { program := "ytblmiocjhbpklaa", sum := "587b9c4c1f790413dd888dd55e78f025070458d2b02da3f3f8fec6dce1eb8467", func := "loop.example/g01922/laws.FnExactRunWord", spec := "fnExactRunWord", apart := false }
def FnExactRunWordSaid : Prop := fnExactRunWordRow.holds Try.pinned (OpenSpec.ofChange fnExactRunWordSpec)

/-- ITS FALSE NEIGHBOUR: 'it returns false'. Refute it at one input. -/
def fnExactRunWordWrong : ChangeSpec := { name := "fnExactRunWord", fn := fun _ => fun
  | [d1, d2] => { results := [.lit (.bool false)], args := [d1, d2] }
  | _ => none }
def FnExactRunWordWrongFalsely : Prop := fnExactRunWordRow.holds Try.pinned (OpenSpec.ofChange fnExactRunWordWrong)

/-- 'laws.FnExactAcceptsWord': WHATEVER THE INPUT: true; the input reads as it did. -/
def fnExactAcceptsWordSpec : ChangeSpec := { name := "fnExactAcceptsWord", fn := fun _ => fun
  | [d1, d2] => { results := [.lit (.bool true)], args := [d1, d2] }
  | _ => none }
def fnExactAcceptsWordRow : OpenClaim := { program := "ytblmiocjhbpklaa", sum := "587b9c4c1f790413dd888dd55e78f025070458d2b02da3f3f8fec6dce1eb8467", func := "loop.example/g01922/laws.FnExactAcceptsWord", spec := "fnExactAcceptsWord", apart := false }
def FnExactAcceptsWordSaid : Prop := fnExactAcceptsWordRow.holds Try.pinned (OpenSpec.ofChange fnExactAcceptsWordSpec)

/-- ITS FALSE NEIGHBOUR: 'it returns false'. Refute it at one input. -/
def fnExactAcceptsWordWrong : ChangeSpec := { name := "fnExactAcceptsWord", fn := fun _ => fun
  | [d1, d2] => { results := [.lit (.bool false)], args := [d1, d2] }
  | _ => none }
def FnExactAcceptsWordWrongFalsely : Prop := fnExactAcceptsWordRow.holds Try.pinned (OpenSpec.ofChange fnExactAcceptsWordWrong)

/-- 'laws.FnExactUsefulStates': WHATEVER THE INPUT: true; the input reads as it did. -/
def fnExactUsefulStatesSpec : ChangeSpec := { name := "fnExactUsefulStates", fn := fun _ => fun
  | [d] => { results := [.lit (.bool true)], args := [d] }
  | _ => none }
def fnExactUsefulStatesRow : OpenClaim := { program := "ytblmiocjhbpklaa", sum := "587b9c4c1f790413dd888dd55e78f025070458d2b02da3f3f8fec6dce1eb8467", func := "loop.example/g01922/laws.FnExactUsefulStates", spec := "fnExactUsefulStates", unfollowed := true, recurses := true, apart := false }
def FnExactUsefulStatesSaid : Prop := fnExactUsefulStatesRow.holds Try.pinned (OpenSpec.ofChange fnExactUsefulStatesSpec)

/-- ITS FALSE NEIGHBOUR: 'it returns false'. Refute it at one input. -/
def fnExactUsefulStatesWrong : ChangeSpec := { name := "fnExactUsefulStates", fn := fun _ => fun
  | [d] => { results := [.lit (.bool false)], args := [d] }
  | _ => none }
def FnExactUsefulStatesWrongFalsely : Prop := fnExactUsefulStatesRow.holds Try.pinned (OpenSpec.ofChange fnExactUsefulStatesWrong)

/-- 'laws.FnExactTrimAutomaton': WHATEVER THE INPUT: true; the input reads as it did. -/
def fnExactTrimAutomatonSpec : ChangeSpec := { name := "fnExactTrimAutomaton", fn := fun _ => fun
  | [d] => { results := [.lit (.bool true)], args := [d] }
  | _ => none }
def fnExactTrimAutomatonRow : OpenClaim := { program := "ytblmiocjhbpklaa", sum := "587b9c4c1f790413dd888dd55e78f025070458d2b02da3f3f8fec6dce1eb8467", func := "loop.example/g01922/laws.FnExactTrimAutomaton", spec := "fnExactTrimAutomaton", unfollowed := true, recurses := true, apart := false }
def FnExactTrimAutomatonSaid : Prop := fnExactTrimAutomatonRow.holds Try.pinned (OpenSpec.ofChange fnExactTrimAutomatonSpec)

/-- ITS FALSE NEIGHBOUR: 'it returns false'. Refute it at one input. -/
def fnExactTrimAutomatonWrong : ChangeSpec := { name := "fnExactTrimAutomaton", fn := fun _ => fun
  | [d] => { results := [.lit (.bool false)], args := [d] }
  | _ => none }
def FnExactTrimAutomatonWrongFalsely : Prop := fnExactTrimAutomatonRow.holds Try.pinned (OpenSpec.ofChange fnExactTrimAutomatonWrong)

/-- 'laws.FnExactEqualAutomata': WHATEVER THE INPUT: true; the input reads as it did. -/
def fnExactEqualAutomataSpec : ChangeSpec := { name := "fnExactEqualAutomata", fn := fun _ => fun
  | [d1, d2] => { results := [.lit (.bool true)], args := [d1, d2] }
  | _ => none }
def fnExactEqualAutomataRow : OpenClaim := { program := "ytblmiocjhbpklaa", sum := "587b9c4c1f790413dd888dd55e78f025070458d2b02da3f3f8fec6dce1eb8467", func := "loop.example/g01922/laws.FnExactEqualAutomata", spec := "fnExactEqualAutomata", unfollowed := true, recurses := true, apart := false }
def FnExactEqualAutomataSaid : Prop := fnExactEqualAutomataRow.holds Try.pinned (OpenSpec.ofChange fnExactEqualAutomataSpec)

/-- ITS FALSE NEIGHBOUR: 'it returns false'. Refute it at one input. -/
def fnExactEqualAutomataWrong : ChangeSpec := { name := "fnExactEqualAutomata", fn := fun _ => fun
  | [d1, d2] => { results := [.lit (.bool false)], args := [d1, d2] }
  | _ => none }
def FnExactEqualAutomataWrongFalsely : Prop := fnExactEqualAutomataRow.holds Try.pinned (OpenSpec.ofChange fnExactEqualAutomataWrong)

/- THE SECOND FORM. 'bulk': how many values and letters a reading holds, each counted each time it is reached (what is shared counts as often as it is met; a slice's spare places count too). A statement '..UptoSaid' is the law's where the arguments, and the package variables that the reading takes, are together of bulk at most 1048576: NARROWER than '..Said'. Prove '..Said' where nothing that the law and all that it calls make is longer than what came in: it says more and counts as full. Else prove '..UptoSaid'. A law counts once. -/
mutual
def uptoBulk {H : Type} : DataW H → Nat
  | .lit (.string bytes) => bytes.length + 1
  | .lit _ => 1
  | .nil => 1
  | .ptr d => uptoBulk d + 1
  | .slice elems spare => uptoBulkAll elems + uptoBulkAll spare + 1
  | .agg parts => uptoBulkAll parts + 1
  | .iface _ d => uptoBulk d + 1
  | .map entries => uptoBulkEntries entries + 1
  | .held _ => 1
def uptoBulkAll {H : Type} : List (DataW H) → Nat
  | [] => 0
  | d :: r => uptoBulk d + uptoBulkAll r
def uptoBulkEntries {H : Type} : List (Lit × DataW H) → Nat
  | [] => 0
  | x :: r => uptoBulkEntry x + uptoBulkEntries r
def uptoBulkEntry {H : Type} : Lit × DataW H → Nat
  | (.string bytes, d) => bytes.length + uptoBulk d + 1
  | (_, d) => uptoBulk d + 1
 end
def uptoSmall : (H : Type) → List (DataW H) → Bool := fun _ ds => decide (uptoBulkAll ds ≤ 1048576)
def OpenSpec.upto (s : _root_.Go.ChangeSpec) : _root_.Go.OpenSpec := { _root_.Go.OpenSpec.ofChange s with cond := some uptoSmall }

/-- 'laws.FnAmbiguity', WHERE WHAT IT READS IS OF BULK AT MOST 1048576: true; the input reads as it did. -/
def fnAmbiguityUptoRow : OpenClaim := { program := "ytblmiocjhbpklaa", sum := "587b9c4c1f790413dd888dd55e78f025070458d2b02da3f3f8fec6dce1eb8467", func := "loop.example/g01922/laws.FnAmbiguity", spec := "fnAmbiguity", recurses := true, apart := false, narrowed := true }
def FnAmbiguityUptoSaid : Prop := fnAmbiguityUptoRow.holds Try.pinned (OpenSpec.upto fnAmbiguitySpec)

/-- 'laws.FnExactAmbiguousWord', WHERE WHAT IT READS IS OF BULK AT MOST 1048576: true; the input reads as it did. -/
def fnExactAmbiguousWordUptoRow : OpenClaim := { program := "ytblmiocjhbpklaa", sum := "587b9c4c1f790413dd888dd55e78f025070458d2b02da3f3f8fec6dce1eb8467", func := "loop.example/g01922/laws.FnExactAmbiguousWord", spec := "fnExactAmbiguousWord", apart := false, narrowed := true }
def FnExactAmbiguousWordUptoSaid : Prop := fnExactAmbiguousWordUptoRow.holds Try.pinned (OpenSpec.upto fnExactAmbiguousWordSpec)

/-- 'laws.FnExactIsUnambiguous', WHERE WHAT IT READS IS OF BULK AT MOST 1048576: true; the input reads as it did. -/
def fnExactIsUnambiguousUptoRow : OpenClaim := { program := "ytblmiocjhbpklaa", sum := "587b9c4c1f790413dd888dd55e78f025070458d2b02da3f3f8fec6dce1eb8467", func := "loop.example/g01922/laws.FnExactIsUnambiguous", spec := "fnExactIsUnambiguous", apart := false, narrowed := true }
def FnExactIsUnambiguousUptoSaid : Prop := fnExactIsUnambiguousUptoRow.holds Try.pinned (OpenSpec.upto fnExactIsUnambiguousSpec)

/-- 'laws.FnExactIsValidAutomaton', WHERE WHAT IT READS IS OF BULK AT MOST 1048576: true; the input reads as it did. -/
def fnExactIsValidAutomatonUptoRow : OpenClaim := { program := "ytblmiocjhbpklaa", sum := "587b9c4c1f790413dd888dd55e78f025070458d2b02da3f3f8fec6dce1eb8467", func := "loop.example/g01922/laws.FnExactIsValidAutomaton", spec := "fnExactIsValidAutomaton", apart := false, narrowed := true }
def FnExactIsValidAutomatonUptoSaid : Prop := fnExactIsValidAutomatonUptoRow.holds Try.pinned (OpenSpec.upto fnExactIsValidAutomatonSpec)

/-- 'laws.FnExactDeterminize', WHERE WHAT IT READS IS OF BULK AT MOST 1048576: true; the input reads as it did. -/
def fnExactDeterminizeUptoRow : OpenClaim := { program := "ytblmiocjhbpklaa", sum := "587b9c4c1f790413dd888dd55e78f025070458d2b02da3f3f8fec6dce1eb8467", func := "loop.example/g01922/laws.FnExactDeterminize", spec := "fnExactDeterminize", unfollowed := true, recurses := true, apart := false, narrowed := true }
def FnExactDeterminizeUptoSaid : Prop := fnExactDeterminizeUptoRow.holds Try.pinned (OpenSpec.upto fnExactDeterminizeSpec)

/-- 'laws.FnExactRunWord', WHERE WHAT IT READS IS OF BULK AT MOST 1048576: true; the input reads as it did. -/
def fnExactRunWordUptoRow : OpenClaim := { program := "ytblmiocjhbpklaa", sum := "587b9c4c1f790413dd888dd55e78f025070458d2b02da3f3f8fec6dce1eb8467", func := "loop.example/g01922/laws.FnExactRunWord", spec := "fnExactRunWord", apart := false, narrowed := true }
def FnExactRunWordUptoSaid : Prop := fnExactRunWordUptoRow.holds Try.pinned (OpenSpec.upto fnExactRunWordSpec)

/-- 'laws.FnExactAcceptsWord', WHERE WHAT IT READS IS OF BULK AT MOST 1048576: true; the input reads as it did. -/
def fnExactAcceptsWordUptoRow : OpenClaim := { program := "ytblmiocjhbpklaa", sum := "587b9c4c1f790413dd888dd55e78f025070458d2b02da3f3f8fec6dce1eb8467", func := "loop.example/g01922/laws.FnExactAcceptsWord", spec := "fnExactAcceptsWord", apart := false, narrowed := true }
def FnExactAcceptsWordUptoSaid : Prop := fnExactAcceptsWordUptoRow.holds Try.pinned (OpenSpec.upto fnExactAcceptsWordSpec)

/-- 'laws.FnExactUsefulStates', WHERE WHAT IT READS IS OF BULK AT MOST 1048576: true; the input reads as it did. -/
def fnExactUsefulStatesUptoRow : OpenClaim := { program := "ytblmiocjhbpklaa", sum := "587b9c4c1f790413dd888dd55e78f025070458d2b02da3f3f8fec6dce1eb8467", func := "loop.example/g01922/laws.FnExactUsefulStates", spec := "fnExactUsefulStates", unfollowed := true, recurses := true, apart := false, narrowed := true }
def FnExactUsefulStatesUptoSaid : Prop := fnExactUsefulStatesUptoRow.holds Try.pinned (OpenSpec.upto fnExactUsefulStatesSpec)

/-- 'laws.FnExactTrimAutomaton', WHERE WHAT IT READS IS OF BULK AT MOST 1048576: true; the input reads as it did. -/
def fnExactTrimAutomatonUptoRow : OpenClaim := { program := "ytblmiocjhbpklaa", sum := "587b9c4c1f790413dd888dd55e78f025070458d2b02da3f3f8fec6dce1eb8467", func := "loop.example/g01922/laws.FnExactTrimAutomaton", spec := "fnExactTrimAutomaton", unfollowed := true, recurses := true, apart := false, narrowed := true }
def FnExactTrimAutomatonUptoSaid : Prop := fnExactTrimAutomatonUptoRow.holds Try.pinned (OpenSpec.upto fnExactTrimAutomatonSpec)

/-- 'laws.FnExactEqualAutomata', WHERE WHAT IT READS IS OF BULK AT MOST 1048576: true; the input reads as it did. -/
def fnExactEqualAutomataUptoRow : OpenClaim := { program := "ytblmiocjhbpklaa", sum := "587b9c4c1f790413dd888dd55e78f025070458d2b02da3f3f8fec6dce1eb8467", func := "loop.example/g01922/laws.FnExactEqualAutomata", spec := "fnExactEqualAutomata", unfollowed := true, recurses := true, apart := false, narrowed := true }
def FnExactEqualAutomataUptoSaid : Prop := fnExactEqualAutomataUptoRow.holds Try.pinned (OpenSpec.upto fnExactEqualAutomataSpec)

end Rows
end Go.Proofs.Ytblmiocjhbpklaa
