/-
  No cell of these rows narrows 'for every input' (looked for: loops, veiled, ifaces, maps, wideKeys, modest, calm, conditions, laid).
  DERIVED. THE GIVEN ROWS OF THIS SEAT. 7 by the template 'for every input the law returns true; each argument reads behind the call as it read before'; 0 by the template 'total and deterministic' (their statements: YtikbobinkojnfaaTotals.lean).
  GIVEN WITH THE SEED: the statements are not yours to turn. If you find one false, say at which input.
  Laid BY PROGRAM, IN A SANDBOX (cutbox-rows.mjs): the forced cells as the released guide's own fill.sh prints them over the translation c2c371089aee3ce6… (all of the seat's roots in one cut). By AI agents, Wed Nov 11 2026. No macro, syntax, notation, axiom, sorry.
-/
import Derived.Test.YtikbobinkojnfaaChecked
import GoSem.Claim
import GoSem.ClaimJoined
import GoSem.ClaimMapViews
import Derived.JoinedTies
import Derived.KernelRfl
namespace Go.Proofs.Ytikbobinkojnfaa
/- THE CELL 'sum', in the pinned program and in every row, IS THE sha256 OF THE DUMP (.gsa) THAT YtikbobinkojnfaaProg.lean LOADS. Nothing in Lean hashes anything: it is a label: what it is worth is what the hold of that sum in a sandbox is worth. -/
noncomputable def Try.pinned : Pinned := { name := "ytikbobinkojnfaa", sum := "c2c371089aee3ce6cc8478ed3eaf518368b30112cc4cd47a78dbce201d1c0f0b", checked := Try.checked }
namespace Rows
def none {H : Type} : Left H := { results := [], args := [] }

/-- 'laws.FnExactIsValidGraph': WHATEVER THE INPUT: true; the input reads as it did. -/
def fnExactIsValidGraphSpec : ChangeSpec := { name := "fnExactIsValidGraph", fn := fun _ => fun
  | [d] => { results := [.lit (.bool true)], args := [d] }
  | _ => none }
def fnExactIsValidGraphRow : OpenClaim := { program := "ytikbobinkojnfaa", sum := "c2c371089aee3ce6cc8478ed3eaf518368b30112cc4cd47a78dbce201d1c0f0b", func := "loop.example/g01922/laws.FnExactIsValidGraph", spec := "fnExactIsValidGraph", apart := false }
def FnExactIsValidGraphSaid : Prop := fnExactIsValidGraphRow.holds Try.pinned (OpenSpec.ofChange fnExactIsValidGraphSpec)

/-- ITS FALSE NEIGHBOUR: 'it returns false'. Refute it at one input. -/
def fnExactIsValidGraphWrong : ChangeSpec := { name := "fnExactIsValidGraph", fn := fun _ => fun
  | [d] => { results := [.lit (.bool false)], args := [d] }
  | _ => none }
def FnExactIsValidGraphWrongFalsely : Prop := fnExactIsValidGraphRow.holds Try.pinned (OpenSpec.ofChange fnExactIsValidGraphWrong)

/-- 'laws.FnExactEdgeIndex': WHATEVER THE INPUT: true; the input reads as it did. -/
def fnExactEdgeIndexSpec : ChangeSpec := { name := "fnExactEdgeIndex", fn := fun _ => fun
  | [d1, d2] => { results := [.lit (.bool true)], args := [d1, d2] }
  | _ => none }
def fnExactEdgeIndexRow : OpenClaim := { program := "ytikbobinkojnfaa", sum := "c2c371089aee3ce6cc8478ed3eaf518368b30112cc4cd47a78dbce201d1c0f0b", func := "loop.example/g01922/laws.FnExactEdgeIndex", spec := "fnExactEdgeIndex", unfollowed := true, recurses := true, apart := false }
def FnExactEdgeIndexSaid : Prop := fnExactEdgeIndexRow.holds Try.pinned (OpenSpec.ofChange fnExactEdgeIndexSpec)

/-- ITS FALSE NEIGHBOUR: 'it returns false'. Refute it at one input. -/
def fnExactEdgeIndexWrong : ChangeSpec := { name := "fnExactEdgeIndex", fn := fun _ => fun
  | [d1, d2] => { results := [.lit (.bool false)], args := [d1, d2] }
  | _ => none }
def FnExactEdgeIndexWrongFalsely : Prop := fnExactEdgeIndexRow.holds Try.pinned (OpenSpec.ofChange fnExactEdgeIndexWrong)

/-- 'laws.FnExactInsertEdge': WHATEVER THE INPUT: true; the input reads as it did. -/
def fnExactInsertEdgeSpec : ChangeSpec := { name := "fnExactInsertEdge", fn := fun _ => fun
  | [d1, d2] => { results := [.lit (.bool true)], args := [d1, d2] }
  | _ => none }
def fnExactInsertEdgeRow : OpenClaim := { program := "ytikbobinkojnfaa", sum := "c2c371089aee3ce6cc8478ed3eaf518368b30112cc4cd47a78dbce201d1c0f0b", func := "loop.example/g01922/laws.FnExactInsertEdge", spec := "fnExactInsertEdge", inPlace := ["slices.overlaps[loop.example/g01922/impl.Edge]"], unfollowed := true, recurses := true, apart := false }
def FnExactInsertEdgeSaid : Prop := fnExactInsertEdgeRow.holds Try.pinned (OpenSpec.ofChange fnExactInsertEdgeSpec)

/-- ITS FALSE NEIGHBOUR: 'it returns false'. Refute it at one input. -/
def fnExactInsertEdgeWrong : ChangeSpec := { name := "fnExactInsertEdge", fn := fun _ => fun
  | [d1, d2] => { results := [.lit (.bool false)], args := [d1, d2] }
  | _ => none }
def FnExactInsertEdgeWrongFalsely : Prop := fnExactInsertEdgeRow.holds Try.pinned (OpenSpec.ofChange fnExactInsertEdgeWrong)

/-- 'laws.FnExactDeleteEdge': WHATEVER THE INPUT: true; the input reads as it did. -/
def fnExactDeleteEdgeSpec : ChangeSpec := { name := "fnExactDeleteEdge", fn := fun _ => fun
  | [d1, d2] => { results := [.lit (.bool true)], args := [d1, d2] }
  | _ => none }
def fnExactDeleteEdgeRow : OpenClaim := { program := "ytikbobinkojnfaa", sum := "c2c371089aee3ce6cc8478ed3eaf518368b30112cc4cd47a78dbce201d1c0f0b", func := "loop.example/g01922/laws.FnExactDeleteEdge", spec := "fnExactDeleteEdge", unfollowed := true, recurses := true, apart := false }
def FnExactDeleteEdgeSaid : Prop := fnExactDeleteEdgeRow.holds Try.pinned (OpenSpec.ofChange fnExactDeleteEdgeSpec)

/-- ITS FALSE NEIGHBOUR: 'it returns false'. Refute it at one input. -/
def fnExactDeleteEdgeWrong : ChangeSpec := { name := "fnExactDeleteEdge", fn := fun _ => fun
  | [d1, d2] => { results := [.lit (.bool false)], args := [d1, d2] }
  | _ => none }
def FnExactDeleteEdgeWrongFalsely : Prop := fnExactDeleteEdgeRow.holds Try.pinned (OpenSpec.ofChange fnExactDeleteEdgeWrong)

/-- 'laws.FnExactSetValue': WHATEVER THE INPUT: true; the input reads as it did. -/
def fnExactSetValueSpec : ChangeSpec := { name := "fnExactSetValue", fn := fun _ => fun
  | [d1, d2, d3] => { results := [.lit (.bool true)], args := [d1, d2, d3] }
  | _ => none }
def fnExactSetValueRow : OpenClaim := { program := "ytikbobinkojnfaa", sum := "c2c371089aee3ce6cc8478ed3eaf518368b30112cc4cd47a78dbce201d1c0f0b", func := "loop.example/g01922/laws.FnExactSetValue", spec := "fnExactSetValue", apart := false }
def FnExactSetValueSaid : Prop := fnExactSetValueRow.holds Try.pinned (OpenSpec.ofChange fnExactSetValueSpec)

/-- ITS FALSE NEIGHBOUR: 'it returns false'. Refute it at one input. -/
def fnExactSetValueWrong : ChangeSpec := { name := "fnExactSetValue", fn := fun _ => fun
  | [d1, d2, d3] => { results := [.lit (.bool false)], args := [d1, d2, d3] }
  | _ => none }
def FnExactSetValueWrongFalsely : Prop := fnExactSetValueRow.holds Try.pinned (OpenSpec.ofChange fnExactSetValueWrong)

/-- 'laws.FnExactReverseGraph': WHATEVER THE INPUT: true; the input reads as it did. -/
def fnExactReverseGraphSpec : ChangeSpec := { name := "fnExactReverseGraph", fn := fun _ => fun
  | [d] => { results := [.lit (.bool true)], args := [d] }
  | _ => none }
def fnExactReverseGraphRow : OpenClaim := { program := "ytikbobinkojnfaa", sum := "c2c371089aee3ce6cc8478ed3eaf518368b30112cc4cd47a78dbce201d1c0f0b", func := "loop.example/g01922/laws.FnExactReverseGraph", spec := "fnExactReverseGraph", apart := false }
def FnExactReverseGraphSaid : Prop := fnExactReverseGraphRow.holds Try.pinned (OpenSpec.ofChange fnExactReverseGraphSpec)

/-- ITS FALSE NEIGHBOUR: 'it returns false'. Refute it at one input. -/
def fnExactReverseGraphWrong : ChangeSpec := { name := "fnExactReverseGraph", fn := fun _ => fun
  | [d] => { results := [.lit (.bool false)], args := [d] }
  | _ => none }
def FnExactReverseGraphWrongFalsely : Prop := fnExactReverseGraphRow.holds Try.pinned (OpenSpec.ofChange fnExactReverseGraphWrong)

/-- 'laws.FnExactEqualGraphs': WHATEVER THE INPUT: true; the input reads as it did. -/
def fnExactEqualGraphsSpec : ChangeSpec := { name := "fnExactEqualGraphs", fn := fun _ => fun
  | [d1, d2] => { results := [.lit (.bool true)], args := [d1, d2] }
  | _ => none }
def fnExactEqualGraphsRow : OpenClaim := { program := "ytikbobinkojnfaa", sum := "c2c371089aee3ce6cc8478ed3eaf518368b30112cc4cd47a78dbce201d1c0f0b", func := "loop.example/g01922/laws.FnExactEqualGraphs", spec := "fnExactEqualGraphs", apart := false }
def FnExactEqualGraphsSaid : Prop := fnExactEqualGraphsRow.holds Try.pinned (OpenSpec.ofChange fnExactEqualGraphsSpec)

/-- ITS FALSE NEIGHBOUR: 'it returns false'. Refute it at one input. -/
def fnExactEqualGraphsWrong : ChangeSpec := { name := "fnExactEqualGraphs", fn := fun _ => fun
  | [d1, d2] => { results := [.lit (.bool false)], args := [d1, d2] }
  | _ => none }
def FnExactEqualGraphsWrongFalsely : Prop := fnExactEqualGraphsRow.holds Try.pinned (OpenSpec.ofChange fnExactEqualGraphsWrong)

/- THE SECOND FORM. 'bulk': how many values and letters a reading holds, each counted each time it is reached (what is shared counts as often as it is met; a slice's spare places count too). A statement '..UptoSaid' is the law's where the arguments, and the package variables that the reading takes, are together of bulk at most 1048576: NARROWER than '..Said'. Prove '..Said' where nothing that the law and all that it calls make is longer than what came in: it says more and counts as full. Else prove '..UptoSaid'. A law counts once. -/
mutual
def uptoBulk {H : Type} : DataW H → Nat
  | .lit (.string bytes) => bytes.length + 1
  | .lit _ => 1
  | .nil => 1
  | .ptr d => uptoBulk d + 1
  | .slice elems spare => uptoBulkAll elems + uptoBulkAll spare + 1
  | .agg parts => uptoBulkAll parts + 1
  | .iface _ d => uptoBulk d + 1
  | .map entries => uptoBulkEntries entries + 1
  | .held _ => 1
def uptoBulkAll {H : Type} : List (DataW H) → Nat
  | [] => 0
  | d :: r => uptoBulk d + uptoBulkAll r
def uptoBulkEntries {H : Type} : List (Lit × DataW H) → Nat
  | [] => 0
  | x :: r => uptoBulkEntry x + uptoBulkEntries r
def uptoBulkEntry {H : Type} : Lit × DataW H → Nat
  | (.string bytes, d) => bytes.length + uptoBulk d + 1
  | (_, d) => uptoBulk d + 1
 end
def uptoSmall : (H : Type) → List (DataW H) → Bool := fun _ ds => decide (uptoBulkAll ds ≤ 1048576)
def OpenSpec.upto (s : _root_.Go.ChangeSpec) : _root_.Go.OpenSpec := { _root_.Go.OpenSpec.ofChange s with cond := some uptoSmall }

/-- 'laws.FnExactIsValidGraph', WHERE WHAT IT READS IS OF BULK AT MOST 1048576: true; the input reads as it did. -/
def fnExactIsValidGraphUptoRow : OpenClaim := { program := "ytikbobinkojnfaa", sum := "c2c371089aee3ce6cc8478ed3eaf518368b30112cc4cd47a78dbce201d1c0f0b", func := "loop.example/g01922/laws.FnExactIsValidGraph", spec := "fnExactIsValidGraph", apart := false, narrowed := true }
def FnExactIsValidGraphUptoSaid : Prop := fnExactIsValidGraphUptoRow.holds Try.pinned (OpenSpec.upto fnExactIsValidGraphSpec)

/-- 'laws.FnExactEdgeIndex', WHERE WHAT IT READS IS OF BULK AT MOST 1048576: true; the input reads as it did. -/
def fnExactEdgeIndexUptoRow : OpenClaim := { program := "ytikbobinkojnfaa", sum := "c2c371089aee3ce6cc8478ed3eaf518368b30112cc4cd47a78dbce201d1c0f0b", func := "loop.example/g01922/laws.FnExactEdgeIndex", spec := "fnExactEdgeIndex", unfollowed := true, recurses := true, apart := false, narrowed := true }
def FnExactEdgeIndexUptoSaid : Prop := fnExactEdgeIndexUptoRow.holds Try.pinned (OpenSpec.upto fnExactEdgeIndexSpec)

/-- 'laws.FnExactInsertEdge', WHERE WHAT IT READS IS OF BULK AT MOST 1048576: true; the input reads as it did. -/
def fnExactInsertEdgeUptoRow : OpenClaim := { program := "ytikbobinkojnfaa", sum := "c2c371089aee3ce6cc8478ed3eaf518368b30112cc4cd47a78dbce201d1c0f0b", func := "loop.example/g01922/laws.FnExactInsertEdge", spec := "fnExactInsertEdge", inPlace := ["slices.overlaps[loop.example/g01922/impl.Edge]"], unfollowed := true, recurses := true, apart := false, narrowed := true }
def FnExactInsertEdgeUptoSaid : Prop := fnExactInsertEdgeUptoRow.holds Try.pinned (OpenSpec.upto fnExactInsertEdgeSpec)

/-- 'laws.FnExactDeleteEdge', WHERE WHAT IT READS IS OF BULK AT MOST 1048576: true; the input reads as it did. -/
def fnExactDeleteEdgeUptoRow : OpenClaim := { program := "ytikbobinkojnfaa", sum := "c2c371089aee3ce6cc8478ed3eaf518368b30112cc4cd47a78dbce201d1c0f0b", func := "loop.example/g01922/laws.FnExactDeleteEdge", spec := "fnExactDeleteEdge", unfollowed := true, recurses := true, apart := false, narrowed := true }
def FnExactDeleteEdgeUptoSaid : Prop := fnExactDeleteEdgeUptoRow.holds Try.pinned (OpenSpec.upto fnExactDeleteEdgeSpec)

/-- 'laws.FnExactSetValue', WHERE WHAT IT READS IS OF BULK AT MOST 1048576: true; the input reads as it did. -/
def fnExactSetValueUptoRow : OpenClaim := { program := "ytikbobinkojnfaa", sum := "c2c371089aee3ce6cc8478ed3eaf518368b30112cc4cd47a78dbce201d1c0f0b", func := "loop.example/g01922/laws.FnExactSetValue", spec := "fnExactSetValue", apart := false, narrowed := true }
def FnExactSetValueUptoSaid : Prop := fnExactSetValueUptoRow.holds Try.pinned (OpenSpec.upto fnExactSetValueSpec)

/-- 'laws.FnExactReverseGraph', WHERE WHAT IT READS IS OF BULK AT MOST 1048576: true; the input reads as it did. -/
def fnExactReverseGraphUptoRow : OpenClaim := { program := "ytikbobinkojnfaa", sum := "c2c371089aee3ce6cc8478ed3eaf518368b30112cc4cd47a78dbce201d1c0f0b", func := "loop.example/g01922/laws.FnExactReverseGraph", spec := "fnExactReverseGraph", apart := false, narrowed := true }
def FnExactReverseGraphUptoSaid : Prop := fnExactReverseGraphUptoRow.holds Try.pinned (OpenSpec.upto fnExactReverseGraphSpec)

/-- 'laws.FnExactEqualGraphs', WHERE WHAT IT READS IS OF BULK AT MOST 1048576: true; the input reads as it did. -/
def fnExactEqualGraphsUptoRow : OpenClaim := { program := "ytikbobinkojnfaa", sum := "c2c371089aee3ce6cc8478ed3eaf518368b30112cc4cd47a78dbce201d1c0f0b", func := "loop.example/g01922/laws.FnExactEqualGraphs", spec := "fnExactEqualGraphs", apart := false, narrowed := true }
def FnExactEqualGraphsUptoSaid : Prop := fnExactEqualGraphsUptoRow.holds Try.pinned (OpenSpec.upto fnExactEqualGraphsSpec)

end Rows
end Go.Proofs.Ytikbobinkojnfaa
