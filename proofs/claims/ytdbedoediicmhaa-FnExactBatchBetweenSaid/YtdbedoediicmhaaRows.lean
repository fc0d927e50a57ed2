/-
  No cell of these rows narrows 'for every input' (looked for: loops, veiled, ifaces, maps, wideKeys, modest, calm, conditions, laid).
  DERIVED. THE GIVEN ROWS OF THIS SEAT. 6 by the template 'for every input the law returns true; each argument reads behind the call as it read before'; 0 by the template 'total and deterministic' (their statements: YtdbedoediicmhaaTotals.lean).
  GIVEN WITH THE SEED: the statements are not yours to turn. If you find one false, say at which input.
  Laid BY PROGRAM, IN A SANDBOX (cutbox-rows.mjs): the forced cells as the released guide's own fill.sh prints them over the translation f0e29a0c5e5299a8… (all of the seat's roots in one cut). By AI agents, Wed Nov 11 2026. No macro, syntax, notation, axiom, sorry.
-/
import Derived.Test.YtdbedoediicmhaaChecked
import GoSem.Claim
import GoSem.ClaimJoined
import GoSem.ClaimMapViews
import Derived.JoinedTies
import Derived.KernelRfl
namespace Go.Proofs.Ytdbedoediicmhaa
/- THE CELL 'sum', in the pinned program and in every row, IS THE sha256 OF THE DUMP (.gsa) THAT YtdbedoediicmhaaProg.lean LOADS. Nothing in Lean hashes anything: it is a label: what it is worth is what the hold of that sum in a sandbox is worth. -/
noncomputable def Try.pinned : Pinned := { name := "ytdbedoediicmhaa", sum := "f0e29a0c5e5299a888671518f351fd160282c623a1f7785bb5e47f449b5450c6", checked := Try.checked }
namespace Rows
def none {H : Type} : Left H := { results := [], args := [] }

/-- 'laws.FnExactApplyBatch': WHATEVER THE INPUT: true; the input reads as it did. -/
def fnExactApplyBatchSpec : ChangeSpec := { name := "fnExactApplyBatch", fn := fun _ => fun
  | [d1, d2] => { results := [.lit (.bool true)], args := [d1, d2] }
  | _ => none }
def fnExactApplyBatchRow : OpenClaim := { program := "ytdbedoediicmhaa", sum := "f0e29a0c5e5299a888671518f351fd160282c623a1f7785bb5e47f449b5450c6", func := "loop.example/g01922/laws.FnExactApplyBatch", spec := "fnExactApplyBatch", unfollowed := true, recurses := true, plainKeys := false, apart := false }
def FnExactApplyBatchSaid : Prop := fnExactApplyBatchRow.holds Try.pinned (OpenSpec.ofChange fnExactApplyBatchSpec)

/-- ITS FALSE NEIGHBOUR: 'it returns false'. Refute it at one input. -/
def fnExactApplyBatchWrong : ChangeSpec := { name := "fnExactApplyBatch", fn := fun _ => fun
  | [d1, d2] => { results := [.lit (.bool false)], args := [d1, d2] }
  | _ => none }
def FnExactApplyBatchWrongFalsely : Prop := fnExactApplyBatchRow.holds Try.pinned (OpenSpec.ofChange fnExactApplyBatchWrong)

/-- 'laws.FnExactIsApplicable': WHATEVER THE INPUT: true; the input reads as it did. -/
def fnExactIsApplicableSpec : ChangeSpec := { name := "fnExactIsApplicable", fn := fun _ => fun
  | [d1, d2] => { results := [.lit (.bool true)], args := [d1, d2] }
  | _ => none }
def fnExactIsApplicableRow : OpenClaim := { program := "ytdbedoediicmhaa", sum := "f0e29a0c5e5299a888671518f351fd160282c623a1f7785bb5e47f449b5450c6", func := "loop.example/g01922/laws.FnExactIsApplicable", spec := "fnExactIsApplicable", unfollowed := true, recurses := true, plainKeys := false, apart := false }
def FnExactIsApplicableSaid : Prop := fnExactIsApplicableRow.holds Try.pinned (OpenSpec.ofChange fnExactIsApplicableSpec)

/-- ITS FALSE NEIGHBOUR: 'it returns false'. Refute it at one input. -/
def fnExactIsApplicableWrong : ChangeSpec := { name := "fnExactIsApplicable", fn := fun _ => fun
  | [d1, d2] => { results := [.lit (.bool false)], args := [d1, d2] }
  | _ => none }
def FnExactIsApplicableWrongFalsely : Prop := fnExactIsApplicableRow.holds Try.pinned (OpenSpec.ofChange fnExactIsApplicableWrong)

/-- 'laws.FnExactInvertBatch': WHATEVER THE INPUT: true; the input reads as it did. -/
def fnExactInvertBatchSpec : ChangeSpec := { name := "fnExactInvertBatch", fn := fun _ => fun
  | [d] => { results := [.lit (.bool true)], args := [d] }
  | _ => none }
def fnExactInvertBatchRow : OpenClaim := { program := "ytdbedoediicmhaa", sum := "f0e29a0c5e5299a888671518f351fd160282c623a1f7785bb5e47f449b5450c6", func := "loop.example/g01922/laws.FnExactInvertBatch", spec := "fnExactInvertBatch", plainKeys := false, apart := false }
def FnExactInvertBatchSaid : Prop := fnExactInvertBatchRow.holds Try.pinned (OpenSpec.ofChange fnExactInvertBatchSpec)

/-- ITS FALSE NEIGHBOUR: 'it returns false'. Refute it at one input. -/
def fnExactInvertBatchWrong : ChangeSpec := { name := "fnExactInvertBatch", fn := fun _ => fun
  | [d] => { results := [.lit (.bool false)], args := [d] }
  | _ => none }
def FnExactInvertBatchWrongFalsely : Prop := fnExactInvertBatchRow.holds Try.pinned (OpenSpec.ofChange fnExactInvertBatchWrong)

/-- 'laws.FnExactNetBatch': WHATEVER THE INPUT: true; the input reads as it did. -/
def fnExactNetBatchSpec : ChangeSpec := { name := "fnExactNetBatch", fn := fun _ => fun
  | [d] => { results := [.lit (.bool true)], args := [d] }
  | _ => none }
def fnExactNetBatchRow : OpenClaim := { program := "ytdbedoediicmhaa", sum := "f0e29a0c5e5299a888671518f351fd160282c623a1f7785bb5e47f449b5450c6", func := "loop.example/g01922/laws.FnExactNetBatch", spec := "fnExactNetBatch", plainKeys := false, apart := false }
def FnExactNetBatchSaid : Prop := fnExactNetBatchRow.holds Try.pinned (OpenSpec.ofChange fnExactNetBatchSpec)

/-- ITS FALSE NEIGHBOUR: 'it returns false'. Refute it at one input. -/
def fnExactNetBatchWrong : ChangeSpec := { name := "fnExactNetBatch", fn := fun _ => fun
  | [d] => { results := [.lit (.bool false)], args := [d] }
  | _ => none }
def FnExactNetBatchWrongFalsely : Prop := fnExactNetBatchRow.holds Try.pinned (OpenSpec.ofChange fnExactNetBatchWrong)

/-- 'laws.FnExactBatchBetween': WHATEVER THE INPUT: true; the input reads as it did. -/
def fnExactBatchBetweenSpec : ChangeSpec := { name := "fnExactBatchBetween", fn := fun _ => fun
  | [d1, d2] => { results := [.lit (.bool true)], args := [d1, d2] }
  | _ => none }
def fnExactBatchBetweenRow : OpenClaim := { program := "ytdbedoediicmhaa", sum := "f0e29a0c5e5299a888671518f351fd160282c623a1f7785bb5e47f449b5450c6", func := "loop.example/g01922/laws.FnExactBatchBetween", spec := "fnExactBatchBetween", plainKeys := false, apart := false }
def FnExactBatchBetweenSaid : Prop := fnExactBatchBetweenRow.holds Try.pinned (OpenSpec.ofChange fnExactBatchBetweenSpec)

/-- ITS FALSE NEIGHBOUR: 'it returns false'. Refute it at one input. -/
def fnExactBatchBetweenWrong : ChangeSpec := { name := "fnExactBatchBetween", fn := fun _ => fun
  | [d1, d2] => { results := [.lit (.bool false)], args := [d1, d2] }
  | _ => none }
def FnExactBatchBetweenWrongFalsely : Prop := fnExactBatchBetweenRow.holds Try.pinned (OpenSpec.ofChange fnExactBatchBetweenWrong)

/-- 'laws.FnExactEqualBatches': WHATEVER THE INPUT: true; the input reads as it did. -/
def fnExactEqualBatchesSpec : ChangeSpec := { name := "fnExactEqualBatches", fn := fun _ => fun
  | [d1, d2] => { results := [.lit (.bool true)], args := [d1, d2] }
  | _ => none }
def fnExactEqualBatchesRow : OpenClaim := { program := "ytdbedoediicmhaa", sum := "f0e29a0c5e5299a888671518f351fd160282c623a1f7785bb5e47f449b5450c6", func := "loop.example/g01922/laws.FnExactEqualBatches", spec := "fnExactEqualBatches", plainKeys := false, apart := false }
def FnExactEqualBatchesSaid : Prop := fnExactEqualBatchesRow.holds Try.pinned (OpenSpec.ofChange fnExactEqualBatchesSpec)

/-- ITS FALSE NEIGHBOUR: 'it returns false'. Refute it at one input. -/
def fnExactEqualBatchesWrong : ChangeSpec := { name := "fnExactEqualBatches", fn := fun _ => fun
  | [d1, d2] => { results := [.lit (.bool false)], args := [d1, d2] }
  | _ => none }
def FnExactEqualBatchesWrongFalsely : Prop := fnExactEqualBatchesRow.holds Try.pinned (OpenSpec.ofChange fnExactEqualBatchesWrong)

/- THE SECOND FORM. 'bulk': how many values and letters a reading holds, each counted each time it is reached (what is shared counts as often as it is met; a slice's spare places count too). A statement '..UptoSaid' is the law's where the arguments, and the package variables that the reading takes, are together of bulk at most 1048576: NARROWER than '..Said'. Prove '..Said' where nothing that the law and all that it calls make is longer than what came in: it says more and counts as full. Else prove '..UptoSaid'. A law counts once. -/
mutual
def uptoBulk {H : Type} : DataW H → Nat
  | .lit (.string bytes) => bytes.length + 1
  | .lit _ => 1
  | .nil => 1
  | .ptr d => uptoBulk d + 1
  | .slice elems spare => uptoBulkAll elems + uptoBulkAll spare + 1
  | .agg parts => uptoBulkAll parts + 1
  | .iface _ d => uptoBulk d + 1
  | .map entries => uptoBulkEntries entries + 1
  | .held _ => 1
def uptoBulkAll {H : Type} : List (DataW H) → Nat
  | [] => 0
  | d :: r => uptoBulk d + uptoBulkAll r
def uptoBulkEntries {H : Type} : List (Lit × DataW H) → Nat
  | [] => 0
  | x :: r => uptoBulkEntry x + uptoBulkEntries r
def uptoBulkEntry {H : Type} : Lit × DataW H → Nat
  | (.string bytes, d) => bytes.length + uptoBulk d + 1
  | (_, d) => uptoBulk d + 1
 end
def uptoSmall : (H : Type) → List (DataW H) → Bool := fun _ ds => decide (uptoBulkAll ds ≤ 1048576)
def OpenSpec.upto (s : _root_.Go.ChangeSpec) : _root_.Go.OpenSpec := { _root_.Go.OpenSpec.ofChange s with cond := some uptoSmall }

/-- 'laws.FnExactApplyBatch', WHERE WHAT IT READS IS OF BULK AT MOST 1048576: true; the input reads as it did. -/
def fnExactApplyBatchUptoRow : OpenClaim := { program := "ytdbedoediicmhaa", sum := "f0e29a0c5e5299a888671518f351fd160282c623a1f7785bb5e47f449b5450c6", func := "loop.example/g01922/laws.FnExactApplyBatch", spec := "fnExactApplyBatch", unfollowed := true, recurses := true, plainKeys := false, apart := false, narrowed := true }
def FnExactApplyBatchUptoSaid : Prop := fnExactApplyBatchUptoRow.holds Try.pinned (OpenSpec.upto fnExactApplyBatchSpec)

/-- 'laws.FnExactIsApplicable', WHERE WHAT IT READS IS OF BULK AT MOST 1048576: true; the input reads as it did. -/
def fnExactIsApplicableUptoRow : OpenClaim := { program := "ytdbedoediicmhaa", sum := "f0e29a0c5e5299a888671518f351fd160282c623a1f7785bb5e47f449b5450c6", func := "loop.example/g01922/laws.FnExactIsApplicable", spec := "fnExactIsApplicable", unfollowed := true, recurses := true, plainKeys := false, apart := false, narrowed := true }
def FnExactIsApplicableUptoSaid : Prop := fnExactIsApplicableUptoRow.holds Try.pinned (OpenSpec.upto fnExactIsApplicableSpec)

/-- 'laws.FnExactInvertBatch', WHERE WHAT IT READS IS OF BULK AT MOST 1048576: true; the input reads as it did. -/
def fnExactInvertBatchUptoRow : OpenClaim := { program := "ytdbedoediicmhaa", sum := "f0e29a0c5e5299a888671518f351fd160282c623a1f7785bb5e47f449b5450c6", func := "loop.example/g01922/laws.FnExactInvertBatch", spec := "fnExactInvertBatch", plainKeys := false, apart := false, narrowed := true }
def FnExactInvertBatchUptoSaid : Prop := fnExactInvertBatchUptoRow.holds Try.pinned (OpenSpec.upto fnExactInvertBatchSpec)

/-- 'laws.FnExactNetBatch', WHERE WHAT IT READS IS OF BULK AT MOST 1048576: true; the input reads as it did. -/
def fnExactNetBatchUptoRow : OpenClaim := { program := "ytdbedoediicmhaa", sum := "f0e29a0c5e5299a888671518f351fd160282c623a1f7785bb5e47f449b5450c6", func := "loop.example/g01922/laws.FnExactNetBatch", spec := "fnExactNetBatch", plainKeys := false, apart := false, narrowed := true }
def FnExactNetBatchUptoSaid : Prop := fnExactNetBatchUptoRow.holds Try.pinned (OpenSpec.upto fnExactNetBatchSpec)

/-- 'laws.FnExactBatchBetween', WHERE WHAT IT READS IS OF BULK AT MOST 1048576: true; the input reads as it did. -/
def fnExactBatchBetweenUptoRow : OpenClaim := { program := "ytdbedoediicmhaa", sum := "f0e29a0c5e5299a888671518f351fd160282c623a1f7785bb5e47f449b5450c6", func := "loop.example/g01922/laws.FnExactBatchBetween", spec := "fnExactBatchBetween", plainKeys := false, apart := false, narrowed := true }
def FnExactBatchBetweenUptoSaid : Prop := fnExactBatchBetweenUptoRow.holds Try.pinned (OpenSpec.upto fnExactBatchBetweenSpec)

/-- 'laws.FnExactEqualBatches', WHERE WHAT IT READS IS OF BULK AT MOST 1048576: true; the input reads as it did. -/
def fnExactEqualBatchesUptoRow : OpenClaim := { program := "ytdbedoediicmhaa", sum := "f0e29a0c5e5299a888671518f351fd160282c623a1f7785bb5e47f449b5450c6", func := "loop.example/g01922/laws.FnExactEqualBatches", spec := "fnExactEqualBatches", plainKeys := false, apart := false, narrowed := true }
def FnExactEqualBatchesUptoSaid : Prop := fnExactEqualBatchesUptoRow.holds Try.pinned (OpenSpec.upto fnExactEqualBatchesSpec)

end Rows
end Go.Proofs.Ytdbedoediicmhaa
