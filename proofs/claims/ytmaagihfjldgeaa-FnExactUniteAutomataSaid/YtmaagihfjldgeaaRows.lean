/-
  No cell of these rows narrows 'for every input' (looked for: loops, veiled, ifaces, maps, wideKeys, modest, calm, conditions, laid).
  DERIVED. THE GIVEN ROWS OF THIS SEAT. 16 by the template 'for every input the law returns true; each argument reads behind the call as it read before'; 0 by the template 'total and deterministic' (their statements: YtmaagihfjldgeaaTotals.lean).
  GIVEN WITH THE SEED: the statements are not yours to turn. If you find one false, say at which input.
  Laid BY PROGRAM, IN A SANDBOX (cutbox-rows.mjs): the forced cells as the released guide's own fill.sh prints them over the translation ec13dad8180092b6… (all of the seat's roots in one cut). By AI agents, Wed Nov 11 2026. No macro, syntax, notation, axiom, sorry.
-/
import Derived.Test.YtmaagihfjldgeaaChecked
import GoSem.Claim
import GoSem.ClaimJoined
import GoSem.ClaimMapViews
import Derived.JoinedTies
import Derived.KernelRfl
namespace Go.Proofs.Ytmaagihfjldgeaa
/- THE CELL 'sum', in the pinned program and in every row, IS THE sha256 OF THE DUMP (.gsa) THAT YtmaagihfjldgeaaProg.lean LOADS. Nothing in Lean hashes anything: it is a label: what it is worth is what the hold of that sum in a sandbox is worth. -/
noncomputable def Try.pinned : Pinned := { name := "ytmaagihfjldgeaa", sum := "ec13dad8180092b63e432816c9deda95e0d79629d3dc0c074abc44c776ce24c8", checked := Try.checked }
namespace Rows
def none {H : Type} : Left H := { results := [], args := [] }

/-- 'laws.FnAmbiguity': WHATEVER THE INPUT: true; the input reads as it did. -/
def fnAmbiguitySpec : ChangeSpec := { name := "fnAmbiguity", fn := fun _ => fun
  | [d] => { results := [.lit (.bool true)], args := [d] }
  | _ => none }
def fnAmbiguityRow : OpenClaim := { program := "ytmaagihfjldgeaa", sum := "ec13dad8180092b63e432816c9deda95e0d79629d3dc0c074abc44c776ce24c8", func := "loop.example/g01922/laws.FnAmbiguity", spec := "fnAmbiguity", recurses := true, plainKeys := false, apart := false }
def FnAmbiguitySaid : Prop := fnAmbiguityRow.holds Try.pinned (OpenSpec.ofChange fnAmbiguitySpec)

/-- ITS FALSE NEIGHBOUR: 'it returns false'. Refute it at one input. -/
def fnAmbiguityWrong : ChangeSpec := { name := "fnAmbiguity", fn := fun _ => fun
  | [d] => { results := [.lit (.bool false)], args := [d] }
  | _ => none }
def FnAmbiguityWrongFalsely : Prop := fnAmbiguityRow.holds Try.pinned (OpenSpec.ofChange fnAmbiguityWrong)

/-- 'laws.FnMinimal': WHATEVER THE INPUT: true; the input reads as it did. -/
def fnMinimalSpec : ChangeSpec := { name := "fnMinimal", fn := fun _ => fun
  | [d] => { results := [.lit (.bool true)], args := [d] }
  | _ => none }
def fnMinimalRow : OpenClaim := { program := "ytmaagihfjldgeaa", sum := "ec13dad8180092b63e432816c9deda95e0d79629d3dc0c074abc44c776ce24c8", func := "loop.example/g01922/laws.FnMinimal", spec := "fnMinimal", unfollowed := true, recurses := true, plainKeys := false, apart := false }
def FnMinimalSaid : Prop := fnMinimalRow.holds Try.pinned (OpenSpec.ofChange fnMinimalSpec)

/-- ITS FALSE NEIGHBOUR: 'it returns false'. Refute it at one input. -/
def fnMinimalWrong : ChangeSpec := { name := "fnMinimal", fn := fun _ => fun
  | [d] => { results := [.lit (.bool false)], args := [d] }
  | _ => none }
def FnMinimalWrongFalsely : Prop := fnMinimalRow.holds Try.pinned (OpenSpec.ofChange fnMinimalWrong)

/-- 'laws.FnMissingWord': WHATEVER THE INPUT: true; the input reads as it did. -/
def fnMissingWordSpec : ChangeSpec := { name := "fnMissingWord", fn := fun _ => fun
  | [d] => { results := [.lit (.bool true)], args := [d] }
  | _ => none }
def fnMissingWordRow : OpenClaim := { program := "ytmaagihfjldgeaa", sum := "ec13dad8180092b63e432816c9deda95e0d79629d3dc0c074abc44c776ce24c8", func := "loop.example/g01922/laws.FnMissingWord", spec := "fnMissingWord", unfollowed := true, recurses := true, plainKeys := false, apart := false }
def FnMissingWordSaid : Prop := fnMissingWordRow.holds Try.pinned (OpenSpec.ofChange fnMissingWordSpec)

/-- ITS FALSE NEIGHBOUR: 'it returns false'. Refute it at one input. -/
def fnMissingWordWrong : ChangeSpec := { name := "fnMissingWord", fn := fun _ => fun
  | [d] => { results := [.lit (.bool false)], args := [d] }
  | _ => none }
def FnMissingWordWrongFalsely : Prop := fnMissingWordRow.holds Try.pinned (OpenSpec.ofChange fnMissingWordWrong)

/-- 'laws.FnExactAmbiguousWord': WHATEVER THE INPUT: true; the input reads as it did. -/
def fnExactAmbiguousWordSpec : ChangeSpec := { name := "fnExactAmbiguousWord", fn := fun _ => fun
  | [d] => { results := [.lit (.bool true)], args := [d] }
  | _ => none }
def fnExactAmbiguousWordRow : OpenClaim := { program := "ytmaagihfjldgeaa", sum := "ec13dad8180092b63e432816c9deda95e0d79629d3dc0c074abc44c776ce24c8", func := "loop.example/g01922/laws.FnExactAmbiguousWord", spec := "fnExactAmbiguousWord", plainKeys := false, apart := false }
def FnExactAmbiguousWordSaid : Prop := fnExactAmbiguousWordRow.holds Try.pinned (OpenSpec.ofChange fnExactAmbiguousWordSpec)

/-- ITS FALSE NEIGHBOUR: 'it returns false'. Refute it at one input. -/
def fnExactAmbiguousWordWrong : ChangeSpec := { name := "fnExactAmbiguousWord", fn := fun _ => fun
  | [d] => { results := [.lit (.bool false)], args := [d] }
  | _ => none }
def FnExactAmbiguousWordWrongFalsely : Prop := fnExactAmbiguousWordRow.holds Try.pinned (OpenSpec.ofChange fnExactAmbiguousWordWrong)

/-- 'laws.FnExactIsUnambiguous': WHATEVER THE INPUT: true; the input reads as it did. -/
def fnExactIsUnambiguousSpec : ChangeSpec := { name := "fnExactIsUnambiguous", fn := fun _ => fun
  | [d] => { results := [.lit (.bool true)], args := [d] }
  | _ => none }
def fnExactIsUnambiguousRow : OpenClaim := { program := "ytmaagihfjldgeaa", sum := "ec13dad8180092b63e432816c9deda95e0d79629d3dc0c074abc44c776ce24c8", func := "loop.example/g01922/laws.FnExactIsUnambiguous", spec := "fnExactIsUnambiguous", plainKeys := false, apart := false }
def FnExactIsUnambiguousSaid : Prop := fnExactIsUnambiguousRow.holds Try.pinned (OpenSpec.ofChange fnExactIsUnambiguousSpec)

/-- ITS FALSE NEIGHBOUR: 'it returns false'. Refute it at one input. -/
def fnExactIsUnambiguousWrong : ChangeSpec := { name := "fnExactIsUnambiguous", fn := fun _ => fun
  | [d] => { results := [.lit (.bool false)], args := [d] }
  | _ => none }
def FnExactIsUnambiguousWrongFalsely : Prop := fnExactIsUnambiguousRow.holds Try.pinned (OpenSpec.ofChange fnExactIsUnambiguousWrong)

/-- 'laws.FnExactDistinguishingWord': WHATEVER THE INPUT: true; the input reads as it did. -/
def fnExactDistinguishingWordSpec : ChangeSpec := { name := "fnExactDistinguishingWord", fn := fun _ => fun
  | [d1, d2, d3] => { results := [.lit (.bool true)], args := [d1, d2, d3] }
  | _ => none }
def fnExactDistinguishingWordRow : OpenClaim := { program := "ytmaagihfjldgeaa", sum := "ec13dad8180092b63e432816c9deda95e0d79629d3dc0c074abc44c776ce24c8", func := "loop.example/g01922/laws.FnExactDistinguishingWord", spec := "fnExactDistinguishingWord", unfollowed := true, recurses := true, plainKeys := false, apart := false }
def FnExactDistinguishingWordSaid : Prop := fnExactDistinguishingWordRow.holds Try.pinned (OpenSpec.ofChange fnExactDistinguishingWordSpec)

/-- ITS FALSE NEIGHBOUR: 'it returns false'. Refute it at one input. -/
def fnExactDistinguishingWordWrong : ChangeSpec := { name := "fnExactDistinguishingWord", fn := fun _ => fun
  | [d1, d2, d3] => { results := [.lit (.bool false)], args := [d1, d2, d3] }
  | _ => none }
def FnExactDistinguishingWordWrongFalsely : Prop := fnExactDistinguishingWordRow.holds Try.pinned (OpenSpec.ofChange fnExactDistinguishingWordWrong)

/-- 'laws.FnExactComplementAutomaton': WHATEVER THE INPUT: true; the input reads as it did. -/
def fnExactComplementAutomatonSpec : ChangeSpec := { name := "fnExactComplementAutomaton", fn := fun _ => fun
  | [d] => { results := [.lit (.bool true)], args := [d] }
  | _ => none }
def fnExactComplementAutomatonRow : OpenClaim := { program := "ytmaagihfjldgeaa", sum := "ec13dad8180092b63e432816c9deda95e0d79629d3dc0c074abc44c776ce24c8", func := "loop.example/g01922/laws.FnExactComplementAutomaton", spec := "fnExactComplementAutomaton", unfollowed := true, recurses := true, plainKeys := false, apart := false }
def FnExactComplementAutomatonSaid : Prop := fnExactComplementAutomatonRow.holds Try.pinned (OpenSpec.ofChange fnExactComplementAutomatonSpec)

/-- ITS FALSE NEIGHBOUR: 'it returns false'. Refute it at one input. -/
def fnExactComplementAutomatonWrong : ChangeSpec := { name := "fnExactComplementAutomaton", fn := fun _ => fun
  | [d] => { results := [.lit (.bool false)], args := [d] }
  | _ => none }
def FnExactComplementAutomatonWrongFalsely : Prop := fnExactComplementAutomatonRow.holds Try.pinned (OpenSpec.ofChange fnExactComplementAutomatonWrong)

/-- 'laws.FnExactIntersectAutomata': WHATEVER THE INPUT: true; the input reads as it did. -/
def fnExactIntersectAutomataSpec : ChangeSpec := { name := "fnExactIntersectAutomata", fn := fun _ => fun
  | [d1, d2] => { results := [.lit (.bool true)], args := [d1, d2] }
  | _ => none }
def fnExactIntersectAutomataRow : OpenClaim := { program := "ytmaagihfjldgeaa", sum := "ec13dad8180092b63e432816c9deda95e0d79629d3dc0c074abc44c776ce24c8", func := "loop.example/g01922/laws.FnExactIntersectAutomata", spec := "fnExactIntersectAutomata", unfollowed := true, recurses := true, plainKeys := false, apart := false }
def FnExactIntersectAutomataSaid : Prop := fnExactIntersectAutomataRow.holds Try.pinned (OpenSpec.ofChange fnExactIntersectAutomataSpec)

/-- ITS FALSE NEIGHBOUR: 'it returns false'. Refute it at one input. -/
def fnExactIntersectAutomataWrong : ChangeSpec := { name := "fnExactIntersectAutomata", fn := fun _ => fun
  | [d1, d2] => { results := [.lit (.bool false)], args := [d1, d2] }
  | _ => none }
def FnExactIntersectAutomataWrongFalsely : Prop := fnExactIntersectAutomataRow.holds Try.pinned (OpenSpec.ofChange fnExactIntersectAutomataWrong)

/-- 'laws.FnExactUniteAutomata': WHATEVER THE INPUT: true; the input reads as it did. -/
def fnExactUniteAutomataSpec : ChangeSpec := { name := "fnExactUniteAutomata", fn := fun _ => fun
  | [d1, d2] => { results := [.lit (.bool true)], args := [d1, d2] }
  | _ => none }
def fnExactUniteAutomataRow : OpenClaim := { program := "ytmaagihfjldgeaa", sum := "ec13dad8180092b63e432816c9deda95e0d79629d3dc0c074abc44c776ce24c8", func := "loop.example/g01922/laws.FnExactUniteAutomata", spec := "fnExactUniteAutomata", unfollowed := true, recurses := true, plainKeys := false, apart := false }
def FnExactUniteAutomataSaid : Prop := fnExactUniteAutomataRow.holds Try.pinned (OpenSpec.ofChange fnExactUniteAutomataSpec)

/-- ITS FALSE NEIGHBOUR: 'it returns false'. Refute it at one input. -/
def fnExactUniteAutomataWrong : ChangeSpec := { name := "fnExactUniteAutomata", fn := fun _ => fun
  | [d1, d2] => { results := [.lit (.bool false)], args := [d1, d2] }
  | _ => none }
def FnExactUniteAutomataWrongFalsely : Prop := fnExactUniteAutomataRow.holds Try.pinned (OpenSpec.ofChange fnExactUniteAutomataWrong)

/-- 'laws.FnExactSubtractAutomata': WHATEVER THE INPUT: true; the input reads as it did. -/
def fnExactSubtractAutomataSpec : ChangeSpec := { name := "fnExactSubtractAutomata", fn := fun _ => fun
  | [d1, d2] => { results := [.lit (.bool true)], args := [d1, d2] }
  | _ => none }
def fnExactSubtractAutomataRow : OpenClaim := { program := "ytmaagihfjldgeaa", sum := "ec13dad8180092b63e432816c9deda95e0d79629d3dc0c074abc44c776ce24c8", func := "loop.example/g01922/laws.FnExactSubtractAutomata", spec := "fnExactSubtractAutomata", unfollowed := true, recurses := true, plainKeys := false, apart := false }
def FnExactSubtractAutomataSaid : Prop := fnExactSubtractAutomataRow.holds Try.pinned (OpenSpec.ofChange fnExactSubtractAutomataSpec)

/-- ITS FALSE NEIGHBOUR: 'it returns false'. Refute it at one input. -/
def fnExactSubtractAutomataWrong : ChangeSpec := { name := "fnExactSubtractAutomata", fn := fun _ => fun
  | [d1, d2] => { results := [.lit (.bool false)], args := [d1, d2] }
  | _ => none }
def FnExactSubtractAutomataWrongFalsely : Prop := fnExactSubtractAutomataRow.holds Try.pinned (OpenSpec.ofChange fnExactSubtractAutomataWrong)

/-- 'laws.FnExactIsEmptyAutomaton': WHATEVER THE INPUT: true; the input reads as it did. -/
def fnExactIsEmptyAutomatonSpec : ChangeSpec := { name := "fnExactIsEmptyAutomaton", fn := fun _ => fun
  | [d] => { results := [.lit (.bool true)], args := [d] }
  | _ => none }
def fnExactIsEmptyAutomatonRow : OpenClaim := { program := "ytmaagihfjldgeaa", sum := "ec13dad8180092b63e432816c9deda95e0d79629d3dc0c074abc44c776ce24c8", func := "loop.example/g01922/laws.FnExactIsEmptyAutomaton", spec := "fnExactIsEmptyAutomaton", unfollowed := true, recurses := true, plainKeys := false, apart := false }
def FnExactIsEmptyAutomatonSaid : Prop := fnExactIsEmptyAutomatonRow.holds Try.pinned (OpenSpec.ofChange fnExactIsEmptyAutomatonSpec)

/-- ITS FALSE NEIGHBOUR: 'it returns false'. Refute it at one input. -/
def fnExactIsEmptyAutomatonWrong : ChangeSpec := { name := "fnExactIsEmptyAutomaton", fn := fun _ => fun
  | [d] => { results := [.lit (.bool false)], args := [d] }
  | _ => none }
def FnExactIsEmptyAutomatonWrongFalsely : Prop := fnExactIsEmptyAutomatonRow.holds Try.pinned (OpenSpec.ofChange fnExactIsEmptyAutomatonWrong)

/-- 'laws.FnExactShortestAccepted': WHATEVER THE INPUT: true; the input reads as it did. -/
def fnExactShortestAcceptedSpec : ChangeSpec := { name := "fnExactShortestAccepted", fn := fun _ => fun
  | [d] => { results := [.lit (.bool true)], args := [d] }
  | _ => none }
def fnExactShortestAcceptedRow : OpenClaim := { program := "ytmaagihfjldgeaa", sum := "ec13dad8180092b63e432816c9deda95e0d79629d3dc0c074abc44c776ce24c8", func := "loop.example/g01922/laws.FnExactShortestAccepted", spec := "fnExactShortestAccepted", unfollowed := true, recurses := true, plainKeys := false, apart := false }
def FnExactShortestAcceptedSaid : Prop := fnExactShortestAcceptedRow.holds Try.pinned (OpenSpec.ofChange fnExactShortestAcceptedSpec)

/-- ITS FALSE NEIGHBOUR: 'it returns false'. Refute it at one input. -/
def fnExactShortestAcceptedWrong : ChangeSpec := { name := "fnExactShortestAccepted", fn := fun _ => fun
  | [d] => { results := [.lit (.bool false)], args := [d] }
  | _ => none }
def FnExactShortestAcceptedWrongFalsely : Prop := fnExactShortestAcceptedRow.holds Try.pinned (OpenSpec.ofChange fnExactShortestAcceptedWrong)

/-- 'laws.FnExactMissingWord': WHATEVER THE INPUT: true; the input reads as it did. -/
def fnExactMissingWordSpec : ChangeSpec := { name := "fnExactMissingWord", fn := fun _ => fun
  | [d1, d2] => { results := [.lit (.bool true)], args := [d1, d2] }
  | _ => none }
def fnExactMissingWordRow : OpenClaim := { program := "ytmaagihfjldgeaa", sum := "ec13dad8180092b63e432816c9deda95e0d79629d3dc0c074abc44c776ce24c8", func := "loop.example/g01922/laws.FnExactMissingWord", spec := "fnExactMissingWord", unfollowed := true, recurses := true, plainKeys := false, apart := false }
def FnExactMissingWordSaid : Prop := fnExactMissingWordRow.holds Try.pinned (OpenSpec.ofChange fnExactMissingWordSpec)

/-- ITS FALSE NEIGHBOUR: 'it returns false'. Refute it at one input. -/
def fnExactMissingWordWrong : ChangeSpec := { name := "fnExactMissingWord", fn := fun _ => fun
  | [d1, d2] => { results := [.lit (.bool false)], args := [d1, d2] }
  | _ => none }
def FnExactMissingWordWrongFalsely : Prop := fnExactMissingWordRow.holds Try.pinned (OpenSpec.ofChange fnExactMissingWordWrong)

/-- 'laws.FnExactIncludesLanguage': WHATEVER THE INPUT: true; the input reads as it did. -/
def fnExactIncludesLanguageSpec : ChangeSpec := { name := "fnExactIncludesLanguage", fn := fun _ => fun
  | [d1, d2] => { results := [.lit (.bool true)], args := [d1, d2] }
  | _ => none }
def fnExactIncludesLanguageRow : OpenClaim := { program := "ytmaagihfjldgeaa", sum := "ec13dad8180092b63e432816c9deda95e0d79629d3dc0c074abc44c776ce24c8", func := "loop.example/g01922/laws.FnExactIncludesLanguage", spec := "fnExactIncludesLanguage", unfollowed := true, recurses := true, plainKeys := false, apart := false }
def FnExactIncludesLanguageSaid : Prop := fnExactIncludesLanguageRow.holds Try.pinned (OpenSpec.ofChange fnExactIncludesLanguageSpec)

/-- ITS FALSE NEIGHBOUR: 'it returns false'. Refute it at one input. -/
def fnExactIncludesLanguageWrong : ChangeSpec := { name := "fnExactIncludesLanguage", fn := fun _ => fun
  | [d1, d2] => { results := [.lit (.bool false)], args := [d1, d2] }
  | _ => none }
def FnExactIncludesLanguageWrongFalsely : Prop := fnExactIncludesLanguageRow.holds Try.pinned (OpenSpec.ofChange fnExactIncludesLanguageWrong)

/-- 'laws.FnExactAreEquivalent': WHATEVER THE INPUT: true; the input reads as it did. -/
def fnExactAreEquivalentSpec : ChangeSpec := { name := "fnExactAreEquivalent", fn := fun _ => fun
  | [d1, d2] => { results := [.lit (.bool true)], args := [d1, d2] }
  | _ => none }
def fnExactAreEquivalentRow : OpenClaim := { program := "ytmaagihfjldgeaa", sum := "ec13dad8180092b63e432816c9deda95e0d79629d3dc0c074abc44c776ce24c8", func := "loop.example/g01922/laws.FnExactAreEquivalent", spec := "fnExactAreEquivalent", unfollowed := true, recurses := true, plainKeys := false, apart := false }
def FnExactAreEquivalentSaid : Prop := fnExactAreEquivalentRow.holds Try.pinned (OpenSpec.ofChange fnExactAreEquivalentSpec)

/-- ITS FALSE NEIGHBOUR: 'it returns false'. Refute it at one input. -/
def fnExactAreEquivalentWrong : ChangeSpec := { name := "fnExactAreEquivalent", fn := fun _ => fun
  | [d1, d2] => { results := [.lit (.bool false)], args := [d1, d2] }
  | _ => none }
def FnExactAreEquivalentWrongFalsely : Prop := fnExactAreEquivalentRow.holds Try.pinned (OpenSpec.ofChange fnExactAreEquivalentWrong)

/-- 'laws.FnExactIsFiniteLanguage': WHATEVER THE INPUT: true; the input reads as it did. -/
def fnExactIsFiniteLanguageSpec : ChangeSpec := { name := "fnExactIsFiniteLanguage", fn := fun _ => fun
  | [d] => { results := [.lit (.bool true)], args := [d] }
  | _ => none }
def fnExactIsFiniteLanguageRow : OpenClaim := { program := "ytmaagihfjldgeaa", sum := "ec13dad8180092b63e432816c9deda95e0d79629d3dc0c074abc44c776ce24c8", func := "loop.example/g01922/laws.FnExactIsFiniteLanguage", spec := "fnExactIsFiniteLanguage", unfollowed := true, recurses := true, plainKeys := false, apart := false }
def FnExactIsFiniteLanguageSaid : Prop := fnExactIsFiniteLanguageRow.holds Try.pinned (OpenSpec.ofChange fnExactIsFiniteLanguageSpec)

/-- ITS FALSE NEIGHBOUR: 'it returns false'. Refute it at one input. -/
def fnExactIsFiniteLanguageWrong : ChangeSpec := { name := "fnExactIsFiniteLanguage", fn := fun _ => fun
  | [d] => { results := [.lit (.bool false)], args := [d] }
  | _ => none }
def FnExactIsFiniteLanguageWrongFalsely : Prop := fnExactIsFiniteLanguageRow.holds Try.pinned (OpenSpec.ofChange fnExactIsFiniteLanguageWrong)

/- THE SECOND FORM. 'bulk': how many values and letters a reading holds, each counted each time it is reached (what is shared counts as often as it is met; a slice's spare places count too). A statement '..UptoSaid' is the law's where the arguments, and the package variables that the reading takes, are together of bulk at most 1048576: NARROWER than '..Said'. Prove '..Said' where nothing that the law and all that it calls make is longer than what came in: it says more and counts as full. Else prove '..UptoSaid'. A law counts once. -/
mutual
def uptoBulk {H : Type} : DataW H → Nat
  | .lit (.string bytes) => bytes.length + 1
  | .lit _ => 1
  | .nil => 1
  | .ptr d => uptoBulk d + 1
  | .slice elems spare => uptoBulkAll elems + uptoBulkAll spare + 1
  | .agg parts => uptoBulkAll parts + 1
  | .iface _ d => uptoBulk d + 1
  | .map entries => uptoBulkEntries entries + 1
  | .held _ => 1
def uptoBulkAll {H : Type} : List (DataW H) → Nat
  | [] => 0
  | d :: r => uptoBulk d + uptoBulkAll r
def uptoBulkEntries {H : Type} : List (Lit × DataW H) → Nat
  | [] => 0
  | x :: r => uptoBulkEntry x + uptoBulkEntries r
def uptoBulkEntry {H : Type} : Lit × DataW H → Nat
  | (.string bytes, d) => bytes.length + uptoBulk d + 1
  | (_, d) => uptoBulk d + 1
 end
def uptoSmall : (H : Type) → List (DataW H) → Bool := fun _ ds => decide (uptoBulkAll ds ≤ 1048576)
def OpenSpec.upto (s : _root_.Go.ChangeSpec) : _root_.Go.OpenSpec := { _root_.Go.OpenSpec.ofChange s with cond := some uptoSmall }

/-- 'laws.FnAmbiguity', WHERE WHAT IT READS IS OF BULK AT MOST 1048576: true; the input reads as it did. -/
def fnAmbiguityUptoRow : OpenClaim := { program := "ytmaagihfjldgeaa", sum := "ec13dad8180092b63e432816c9deda95e0d79629d3dc0c074abc44c776ce24c8", func := "loop.example/g01922/laws.FnAmbiguity", spec := "fnAmbiguity", recurses := true, plainKeys := false, apart := false, narrowed := true }
def FnAmbiguityUptoSaid : Prop := fnAmbiguityUptoRow.holds Try.pinned (OpenSpec.upto fnAmbiguitySpec)

/-- 'laws.FnMinimal', WHERE WHAT IT READS IS OF BULK AT MOST 1048576: true; the input reads as it did. -/
def fnMinimalUptoRow : OpenClaim := { program := "ytmaagihfjldgeaa", sum := "ec13dad8180092b63e432816c9deda95e0d79629d3dc0c074abc44c776ce24c8", func := "loop.example/g01922/laws.FnMinimal", spec := "fnMinimal", unfollowed := true, recurses := true, plainKeys := false, apart := false, narrowed := true }
def FnMinimalUptoSaid : Prop := fnMinimalUptoRow.holds Try.pinned (OpenSpec.upto fnMinimalSpec)

/-- 'laws.FnMissingWord', WHERE WHAT IT READS IS OF BULK AT MOST 1048576: true; the input reads as it did. -/
def fnMissingWordUptoRow : OpenClaim := { program := "ytmaagihfjldgeaa", sum := "ec13dad8180092b63e432816c9deda95e0d79629d3dc0c074abc44c776ce24c8", func := "loop.example/g01922/laws.FnMissingWord", spec := "fnMissingWord", unfollowed := true, recurses := true, plainKeys := false, apart := false, narrowed := true }
def FnMissingWordUptoSaid : Prop := fnMissingWordUptoRow.holds Try.pinned (OpenSpec.upto fnMissingWordSpec)

/-- 'laws.FnExactAmbiguousWord', WHERE WHAT IT READS IS OF BULK AT MOST 1048576: true; the input reads as it did. -/
def fnExactAmbiguousWordUptoRow : OpenClaim := { program := "ytmaagihfjldgeaa", sum := "ec13dad8180092b63e432816c9deda95e0d79629d3dc0c074abc44c776ce24c8", func := "loop.example/g01922/laws.FnExactAmbiguousWord", spec := "fnExactAmbiguousWord", plainKeys := false, apart := false, narrowed := true }
def FnExactAmbiguousWordUptoSaid : Prop := fnExactAmbiguousWordUptoRow.holds Try.pinned (OpenSpec.upto fnExactAmbiguousWordSpec)

/-- 'laws.FnExactIsUnambiguous', WHERE WHAT IT READS IS OF BULK AT MOST 1048576: true; the input reads as it did. -/
def fnExactIsUnambiguousUptoRow : OpenClaim := { program := "ytmaagihfjldgeaa", sum := "ec13dad8180092b63e432816c9deda95e0d79629d3dc0c074abc44c776ce24c8", func := "loop.example/g01922/laws.FnExactIsUnambiguous", spec := "fnExactIsUnambiguous", plainKeys := false, apart := false, narrowed := true }
def FnExactIsUnambiguousUptoSaid : Prop := fnExactIsUnambiguousUptoRow.holds Try.pinned (OpenSpec.upto fnExactIsUnambiguousSpec)

/-- 'laws.FnExactDistinguishingWord', WHERE WHAT IT READS IS OF BULK AT MOST 1048576: true; the input reads as it did. -/
def fnExactDistinguishingWordUptoRow : OpenClaim := { program := "ytmaagihfjldgeaa", sum := "ec13dad8180092b63e432816c9deda95e0d79629d3dc0c074abc44c776ce24c8", func := "loop.example/g01922/laws.FnExactDistinguishingWord", spec := "fnExactDistinguishingWord", unfollowed := true, recurses := true, plainKeys := false, apart := false, narrowed := true }
def FnExactDistinguishingWordUptoSaid : Prop := fnExactDistinguishingWordUptoRow.holds Try.pinned (OpenSpec.upto fnExactDistinguishingWordSpec)

/-- 'laws.FnExactComplementAutomaton', WHERE WHAT IT READS IS OF BULK AT MOST 1048576: true; the input reads as it did. -/
def fnExactComplementAutomatonUptoRow : OpenClaim := { program := "ytmaagihfjldgeaa", sum := "ec13dad8180092b63e432816c9deda95e0d79629d3dc0c074abc44c776ce24c8", func := "loop.example/g01922/laws.FnExactComplementAutomaton", spec := "fnExactComplementAutomaton", unfollowed := true, recurses := true, plainKeys := false, apart := false, narrowed := true }
def FnExactComplementAutomatonUptoSaid : Prop := fnExactComplementAutomatonUptoRow.holds Try.pinned (OpenSpec.upto fnExactComplementAutomatonSpec)

/-- 'laws.FnExactIntersectAutomata', WHERE WHAT IT READS IS OF BULK AT MOST 1048576: true; the input reads as it did. -/
def fnExactIntersectAutomataUptoRow : OpenClaim := { program := "ytmaagihfjldgeaa", sum := "ec13dad8180092b63e432816c9deda95e0d79629d3dc0c074abc44c776ce24c8", func := "loop.example/g01922/laws.FnExactIntersectAutomata", spec := "fnExactIntersectAutomata", unfollowed := true, recurses := true, plainKeys := false, apart := false, narrowed := true }
def FnExactIntersectAutomataUptoSaid : Prop := fnExactIntersectAutomataUptoRow.holds Try.pinned (OpenSpec.upto fnExactIntersectAutomataSpec)

/-- 'laws.FnExactUniteAutomata', WHERE WHAT IT READS IS OF BULK AT MOST 1048576: true; the input reads as it did. -/
def fnExactUniteAutomataUptoRow : OpenClaim := { program := "ytmaagihfjldgeaa", sum := "ec13dad8180092b63e432816c9deda95e0d79629d3dc0c074abc44c776ce24c8", func := "loop.example/g01922/laws.FnExactUniteAutomata", spec := "fnExactUniteAutomata", unfollowed := true, recurses := true, plainKeys := false, apart := false, narrowed := true }
def FnExactUniteAutomataUptoSaid : Prop := fnExactUniteAutomataUptoRow.holds Try.pinned (OpenSpec.upto fnExactUniteAutomataSpec)

/-- 'laws.FnExactSubtractAutomata', WHERE WHAT IT READS IS OF BULK AT MOST 1048576: true; the input reads as it did. -/
def fnExactSubtractAutomataUptoRow : OpenClaim := { program := "ytmaagihfjldgeaa", sum := "ec13dad8180092b63e432816c9deda95e0d79629d3dc0c074abc44c776ce24c8", func := "loop.example/g01922/laws.FnExactSubtractAutomata", spec := "fnExactSubtractAutomata", unfollowed := true, recurses := true, plainKeys := false, apart := false, narrowed := true }
def FnExactSubtractAutomataUptoSaid : Prop := fnExactSubtractAutomataUptoRow.holds Try.pinned (OpenSpec.upto fnExactSubtractAutomataSpec)

/-- 'laws.FnExactIsEmptyAutomaton', WHERE WHAT IT READS IS OF BULK AT MOST 1048576: true; the input reads as it did. -/
def fnExactIsEmptyAutomatonUptoRow : OpenClaim := { program := "ytmaagihfjldgeaa", sum := "ec13dad8180092b63e432816c9deda95e0d79629d3dc0c074abc44c776ce24c8", func := "loop.example/g01922/laws.FnExactIsEmptyAutomaton", spec := "fnExactIsEmptyAutomaton", unfollowed := true, recurses := true, plainKeys := false, apart := false, narrowed := true }
def FnExactIsEmptyAutomatonUptoSaid : Prop := fnExactIsEmptyAutomatonUptoRow.holds Try.pinned (OpenSpec.upto fnExactIsEmptyAutomatonSpec)

/-- 'laws.FnExactShortestAccepted', WHERE WHAT IT READS IS OF BULK AT MOST 1048576: true; the input reads as it did. -/
def fnExactShortestAcceptedUptoRow : OpenClaim := { program := "ytmaagihfjldgeaa", sum := "ec13dad8180092b63e432816c9deda95e0d79629d3dc0c074abc44c776ce24c8", func := "loop.example/g01922/laws.FnExactShortestAccepted", spec := "fnExactShortestAccepted", unfollowed := true, recurses := true, plainKeys := false, apart := false, narrowed := true }
def FnExactShortestAcceptedUptoSaid : Prop := fnExactShortestAcceptedUptoRow.holds Try.pinned (OpenSpec.upto fnExactShortestAcceptedSpec)

/-- 'laws.FnExactMissingWord', WHERE WHAT IT READS IS OF BULK AT MOST 1048576: true; the input reads as it did. -/
def fnExactMissingWordUptoRow : OpenClaim := { program := "ytmaagihfjldgeaa", sum := "ec13dad8180092b63e432816c9deda95e0d79629d3dc0c074abc44c776ce24c8", func := "loop.example/g01922/laws.FnExactMissingWord", spec := "fnExactMissingWord", unfollowed := true, recurses := true, plainKeys := false, apart := false, narrowed := true }
def FnExactMissingWordUptoSaid : Prop := fnExactMissingWordUptoRow.holds Try.pinned (OpenSpec.upto fnExactMissingWordSpec)

/-- 'laws.FnExactIncludesLanguage', WHERE WHAT IT READS IS OF BULK AT MOST 1048576: true; the input reads as it did. -/
def fnExactIncludesLanguageUptoRow : OpenClaim := { program := "ytmaagihfjldgeaa", sum := "ec13dad8180092b63e432816c9deda95e0d79629d3dc0c074abc44c776ce24c8", func := "loop.example/g01922/laws.FnExactIncludesLanguage", spec := "fnExactIncludesLanguage", unfollowed := true, recurses := true, plainKeys := false, apart := false, narrowed := true }
def FnExactIncludesLanguageUptoSaid : Prop := fnExactIncludesLanguageUptoRow.holds Try.pinned (OpenSpec.upto fnExactIncludesLanguageSpec)

/-- 'laws.FnExactAreEquivalent', WHERE WHAT IT READS IS OF BULK AT MOST 1048576: true; the input reads as it did. -/
def fnExactAreEquivalentUptoRow : OpenClaim := { program := "ytmaagihfjldgeaa", sum := "ec13dad8180092b63e432816c9deda95e0d79629d3dc0c074abc44c776ce24c8", func := "loop.example/g01922/laws.FnExactAreEquivalent", spec := "fnExactAreEquivalent", unfollowed := true, recurses := true, plainKeys := false, apart := false, narrowed := true }
def FnExactAreEquivalentUptoSaid : Prop := fnExactAreEquivalentUptoRow.holds Try.pinned (OpenSpec.upto fnExactAreEquivalentSpec)

/-- 'laws.FnExactIsFiniteLanguage', WHERE WHAT IT READS IS OF BULK AT MOST 1048576: true; the input reads as it did. -/
def fnExactIsFiniteLanguageUptoRow : OpenClaim := { program := "ytmaagihfjldgeaa", sum := "ec13dad8180092b63e432816c9deda95e0d79629d3dc0c074abc44c776ce24c8", func := "loop.example/g01922/laws.FnExactIsFiniteLanguage", spec := "fnExactIsFiniteLanguage", unfollowed := true, recurses := true, plainKeys := false, apart := false, narrowed := true }
def FnExactIsFiniteLanguageUptoSaid : Prop := fnExactIsFiniteLanguageUptoRow.holds Try.pinned (OpenSpec.upto fnExactIsFiniteLanguageSpec)

end Rows
end Go.Proofs.Ytmaagihfjldgeaa
