/-
  No cell of these rows narrows 'for every input' (looked for: loops, veiled, ifaces, maps, wideKeys, modest, calm, conditions, laid).
  DERIVED. THE GIVEN ROWS OF THIS SEAT. 9 by the template 'for every input the law returns true; each argument reads behind the call as it read before'; 0 by the template 'total and deterministic' (their statements: YtgdeiecbkmhbeaaTotals.lean).
  GIVEN WITH THE SEED: the statements are not yours to turn. If you find one false, say at which input.
  Laid BY PROGRAM, IN A SANDBOX (cutbox-rows.mjs): the forced cells as the released guide's own fill.sh prints them over the translation f9e5d23ac7a049d3… (all of the seat's roots in one cut). By AI agents, Wed Nov 11 2026. No macro, syntax, notation, axiom, sorry.
-/
import Derived.Test.YtgdeiecbkmhbeaaChecked
import GoSem.Claim
import GoSem.ClaimJoined
import GoSem.ClaimMapViews
import Derived.JoinedTies
import Derived.KernelRfl
namespace Go.Proofs.Ytgdeiecbkmhbeaa
/- THE CELL 'sum', in the pinned program and in every row, IS THE sha256 OF THE DUMP (.gsa) THAT YtgdeiecbkmhbeaaProg.lean LOADS. Nothing in Lean hashes anything: it is a label: what it is worth is what the hold of that sum in a sandbox is worth. -/
noncomputable def Try.pinned : Pinned := { name := "ytgdeiecbkmhbeaa", sum := "f9e5d23ac7a049d35d81cc2e46ae57bcb6e33ed7405ebb9a6917ea95f169959d", checked := Try.checked }
namespace Rows
def none {H : Type} : Left H := { results := [], args := [] }

/-- 'laws.FnHistories': WHATEVER THE INPUT: true; the input reads as it did. -/
def fnHistoriesSpec : ChangeSpec := { name := "fnHistories", fn := fun _ => fun
  | [d] => { results := [.lit (.bool true)], args := [d] }
  | _ => none }
def fnHistoriesRow : OpenClaim := { program := "ytgdeiecbkmhbeaa", sum := "f9e5d23ac7a049d35d81cc2e46ae57bcb6e33ed7405ebb9a6917ea95f169959d", func := "loop.example/g01922/laws.FnHistories", spec := "fnHistories", unfollowed := true, recurses := true, plainKeys := false, apart := false }
def FnHistoriesSaid : Prop := fnHistoriesRow.holds Try.pinned (OpenSpec.ofChange fnHistoriesSpec)

/-- ITS FALSE NEIGHBOUR: 'it returns false'. Refute it at one input. -/
def fnHistoriesWrong : ChangeSpec := { name := "fnHistories", fn := fun _ => fun
  | [d] => { results := [.lit (.bool false)], args := [d] }
  | _ => none }
def FnHistoriesWrongFalsely : Prop := fnHistoriesRow.holds Try.pinned (OpenSpec.ofChange fnHistoriesWrong)

/-- 'laws.FnExactNetBatch': WHATEVER THE INPUT: true; the input reads as it did. -/
def fnExactNetBatchSpec : ChangeSpec := { name := "fnExactNetBatch", fn := fun _ => fun
  | [d] => { results := [.lit (.bool true)], args := [d] }
  | _ => none }
def fnExactNetBatchRow : OpenClaim := { program := "ytgdeiecbkmhbeaa", sum := "f9e5d23ac7a049d35d81cc2e46ae57bcb6e33ed7405ebb9a6917ea95f169959d", func := "loop.example/g01922/laws.FnExactNetBatch", spec := "fnExactNetBatch", plainKeys := false, apart := false }
def FnExactNetBatchSaid : Prop := fnExactNetBatchRow.holds Try.pinned (OpenSpec.ofChange fnExactNetBatchSpec)

/-- ITS FALSE NEIGHBOUR: 'it returns false'. Refute it at one input. -/
def fnExactNetBatchWrong : ChangeSpec := { name := "fnExactNetBatch", fn := fun _ => fun
  | [d] => { results := [.lit (.bool false)], args := [d] }
  | _ => none }
def FnExactNetBatchWrongFalsely : Prop := fnExactNetBatchRow.holds Try.pinned (OpenSpec.ofChange fnExactNetBatchWrong)

/-- 'laws.FnExactIsValidHistory': WHATEVER THE INPUT: true; the input reads as it did. -/
def fnExactIsValidHistorySpec : ChangeSpec := { name := "fnExactIsValidHistory", fn := fun _ => fun
  | [d] => { results := [.lit (.bool true)], args := [d] }
  | _ => none }
def fnExactIsValidHistoryRow : OpenClaim := { program := "ytgdeiecbkmhbeaa", sum := "f9e5d23ac7a049d35d81cc2e46ae57bcb6e33ed7405ebb9a6917ea95f169959d", func := "loop.example/g01922/laws.FnExactIsValidHistory", spec := "fnExactIsValidHistory", plainKeys := false, apart := false }
def FnExactIsValidHistorySaid : Prop := fnExactIsValidHistoryRow.holds Try.pinned (OpenSpec.ofChange fnExactIsValidHistorySpec)

/-- ITS FALSE NEIGHBOUR: 'it returns false'. Refute it at one input. -/
def fnExactIsValidHistoryWrong : ChangeSpec := { name := "fnExactIsValidHistory", fn := fun _ => fun
  | [d] => { results := [.lit (.bool false)], args := [d] }
  | _ => none }
def FnExactIsValidHistoryWrongFalsely : Prop := fnExactIsValidHistoryRow.holds Try.pinned (OpenSpec.ofChange fnExactIsValidHistoryWrong)

/-- 'laws.FnExactNewHistory': WHATEVER THE INPUT: true; the input reads as it did. -/
def fnExactNewHistorySpec : ChangeSpec := { name := "fnExactNewHistory", fn := fun _ => fun
  | [d1, d2] => { results := [.lit (.bool true)], args := [d1, d2] }
  | _ => none }
def fnExactNewHistoryRow : OpenClaim := { program := "ytgdeiecbkmhbeaa", sum := "f9e5d23ac7a049d35d81cc2e46ae57bcb6e33ed7405ebb9a6917ea95f169959d", func := "loop.example/g01922/laws.FnExactNewHistory", spec := "fnExactNewHistory", plainKeys := false, apart := false }
def FnExactNewHistorySaid : Prop := fnExactNewHistoryRow.holds Try.pinned (OpenSpec.ofChange fnExactNewHistorySpec)

/-- ITS FALSE NEIGHBOUR: 'it returns false'. Refute it at one input. -/
def fnExactNewHistoryWrong : ChangeSpec := { name := "fnExactNewHistory", fn := fun _ => fun
  | [d1, d2] => { results := [.lit (.bool false)], args := [d1, d2] }
  | _ => none }
def FnExactNewHistoryWrongFalsely : Prop := fnExactNewHistoryRow.holds Try.pinned (OpenSpec.ofChange fnExactNewHistoryWrong)

/-- 'laws.FnExactLatestVersion': WHATEVER THE INPUT: true; the input reads as it did. -/
def fnExactLatestVersionSpec : ChangeSpec := { name := "fnExactLatestVersion", fn := fun _ => fun
  | [d] => { results := [.lit (.bool true)], args := [d] }
  | _ => none }
def fnExactLatestVersionRow : OpenClaim := { program := "ytgdeiecbkmhbeaa", sum := "f9e5d23ac7a049d35d81cc2e46ae57bcb6e33ed7405ebb9a6917ea95f169959d", func := "loop.example/g01922/laws.FnExactLatestVersion", spec := "fnExactLatestVersion", plainKeys := false, apart := false }
def FnExactLatestVersionSaid : Prop := fnExactLatestVersionRow.holds Try.pinned (OpenSpec.ofChange fnExactLatestVersionSpec)

/-- ITS FALSE NEIGHBOUR: 'it returns false'. Refute it at one input. -/
def fnExactLatestVersionWrong : ChangeSpec := { name := "fnExactLatestVersion", fn := fun _ => fun
  | [d] => { results := [.lit (.bool false)], args := [d] }
  | _ => none }
def FnExactLatestVersionWrongFalsely : Prop := fnExactLatestVersionRow.holds Try.pinned (OpenSpec.ofChange fnExactLatestVersionWrong)

/-- 'laws.FnExactGraphAt': WHATEVER THE INPUT: true; the input reads as it did. -/
def fnExactGraphAtSpec : ChangeSpec := { name := "fnExactGraphAt", fn := fun _ => fun
  | [d1, d2] => { results := [.lit (.bool true)], args := [d1, d2] }
  | _ => none }
def fnExactGraphAtRow : OpenClaim := { program := "ytgdeiecbkmhbeaa", sum := "f9e5d23ac7a049d35d81cc2e46ae57bcb6e33ed7405ebb9a6917ea95f169959d", func := "loop.example/g01922/laws.FnExactGraphAt", spec := "fnExactGraphAt", plainKeys := false, apart := false }
def FnExactGraphAtSaid : Prop := fnExactGraphAtRow.holds Try.pinned (OpenSpec.ofChange fnExactGraphAtSpec)

/-- ITS FALSE NEIGHBOUR: 'it returns false'. Refute it at one input. -/
def fnExactGraphAtWrong : ChangeSpec := { name := "fnExactGraphAt", fn := fun _ => fun
  | [d1, d2] => { results := [.lit (.bool false)], args := [d1, d2] }
  | _ => none }
def FnExactGraphAtWrongFalsely : Prop := fnExactGraphAtRow.holds Try.pinned (OpenSpec.ofChange fnExactGraphAtWrong)

/-- 'laws.FnExactAppendBatch': WHATEVER THE INPUT: true; the input reads as it did. -/
def fnExactAppendBatchSpec : ChangeSpec := { name := "fnExactAppendBatch", fn := fun _ => fun
  | [d1, d2] => { results := [.lit (.bool true)], args := [d1, d2] }
  | _ => none }
def fnExactAppendBatchRow : OpenClaim := { program := "ytgdeiecbkmhbeaa", sum := "f9e5d23ac7a049d35d81cc2e46ae57bcb6e33ed7405ebb9a6917ea95f169959d", func := "loop.example/g01922/laws.FnExactAppendBatch", spec := "fnExactAppendBatch", unfollowed := true, recurses := true, plainKeys := false, apart := false }
def FnExactAppendBatchSaid : Prop := fnExactAppendBatchRow.holds Try.pinned (OpenSpec.ofChange fnExactAppendBatchSpec)

/-- ITS FALSE NEIGHBOUR: 'it returns false'. Refute it at one input. -/
def fnExactAppendBatchWrong : ChangeSpec := { name := "fnExactAppendBatch", fn := fun _ => fun
  | [d1, d2] => { results := [.lit (.bool false)], args := [d1, d2] }
  | _ => none }
def FnExactAppendBatchWrongFalsely : Prop := fnExactAppendBatchRow.holds Try.pinned (OpenSpec.ofChange fnExactAppendBatchWrong)

/-- 'laws.FnExactCompactHistory': WHATEVER THE INPUT: true; the input reads as it did. -/
def fnExactCompactHistorySpec : ChangeSpec := { name := "fnExactCompactHistory", fn := fun _ => fun
  | [d1, d2] => { results := [.lit (.bool true)], args := [d1, d2] }
  | _ => none }
def fnExactCompactHistoryRow : OpenClaim := { program := "ytgdeiecbkmhbeaa", sum := "f9e5d23ac7a049d35d81cc2e46ae57bcb6e33ed7405ebb9a6917ea95f169959d", func := "loop.example/g01922/laws.FnExactCompactHistory", spec := "fnExactCompactHistory", plainKeys := false, apart := false }
def FnExactCompactHistorySaid : Prop := fnExactCompactHistoryRow.holds Try.pinned (OpenSpec.ofChange fnExactCompactHistorySpec)

/-- ITS FALSE NEIGHBOUR: 'it returns false'. Refute it at one input. -/
def fnExactCompactHistoryWrong : ChangeSpec := { name := "fnExactCompactHistory", fn := fun _ => fun
  | [d1, d2] => { results := [.lit (.bool false)], args := [d1, d2] }
  | _ => none }
def FnExactCompactHistoryWrongFalsely : Prop := fnExactCompactHistoryRow.holds Try.pinned (OpenSpec.ofChange fnExactCompactHistoryWrong)

/-- 'laws.FnExactEqualHistories': WHATEVER THE INPUT: true; the input reads as it did. -/
def fnExactEqualHistoriesSpec : ChangeSpec := { name := "fnExactEqualHistories", fn := fun _ => fun
  | [d1, d2] => { results := [.lit (.bool true)], args := [d1, d2] }
  | _ => none }
def fnExactEqualHistoriesRow : OpenClaim := { program := "ytgdeiecbkmhbeaa", sum := "f9e5d23ac7a049d35d81cc2e46ae57bcb6e33ed7405ebb9a6917ea95f169959d", func := "loop.example/g01922/laws.FnExactEqualHistories", spec := "fnExactEqualHistories", unfollowed := true, recurses := true, plainKeys := false, apart := false }
def FnExactEqualHistoriesSaid : Prop := fnExactEqualHistoriesRow.holds Try.pinned (OpenSpec.ofChange fnExactEqualHistoriesSpec)

/-- ITS FALSE NEIGHBOUR: 'it returns false'. Refute it at one input. -/
def fnExactEqualHistoriesWrong : ChangeSpec := { name := "fnExactEqualHistories", fn := fun _ => fun
  | [d1, d2] => { results := [.lit (.bool false)], args := [d1, d2] }
  | _ => none }
def FnExactEqualHistoriesWrongFalsely : Prop := fnExactEqualHistoriesRow.holds Try.pinned (OpenSpec.ofChange fnExactEqualHistoriesWrong)

/- THE SECOND FORM. 'bulk': how many values and letters a reading holds, each counted each time it is reached (what is shared counts as often as it is met; a slice's spare places count too). A statement '..UptoSaid' is the law's where the arguments, and the package variables that the reading takes, are together of bulk at most 1048576: NARROWER than '..Said'. Prove '..Said' where nothing that the law and all that it calls make is longer than what came in: it says more and counts as full. Else prove '..UptoSaid'. A law counts once. -/
mutual
def uptoBulk {H : Type} : DataW H → Nat
  | .lit (.string bytes) => bytes.length + 1
  | .lit _ => 1
  | .nil => 1
  | .ptr d => uptoBulk d + 1
  | .slice elems spare => uptoBulkAll elems + uptoBulkAll spare + 1
  | .agg parts => uptoBulkAll parts + 1
  | .iface _ d => uptoBulk d + 1
  | .map entries => uptoBulkEntries entries + 1
  | .held _ => 1
def uptoBulkAll {H : Type} : List (DataW H) → Nat
  | [] => 0
  | d :: r => uptoBulk d + uptoBulkAll r
def uptoBulkEntries {H : Type} : List (Lit × DataW H) → Nat
  | [] => 0
  | x :: r => uptoBulkEntry x + uptoBulkEntries r
def uptoBulkEntry {H : Type} : Lit × DataW H → Nat
  | (.string bytes, d) => bytes.length + uptoBulk d + 1
  | (_, d) => uptoBulk d + 1
 end
def uptoSmall : (H : Type) → List (DataW H) → Bool := fun _ ds => decide (uptoBulkAll ds ≤ 1048576)
def OpenSpec.upto (s : _root_.Go.ChangeSpec) : _root_.Go.OpenSpec := { _root_.Go.OpenSpec.ofChange s with cond := some uptoSmall }

/-- 'laws.FnHistories', WHERE WHAT IT READS IS OF BULK AT MOST 1048576: true; the input reads as it did. -/
def fnHistoriesUptoRow : OpenClaim := { program := "ytgdeiecbkmhbeaa", sum := "f9e5d23ac7a049d35d81cc2e46ae57bcb6e33ed7405ebb9a6917ea95f169959d", func := "loop.example/g01922/laws.FnHistories", spec := "fnHistories", unfollowed := true, recurses := true, plainKeys := false, apart := false, narrowed := true }
def FnHistoriesUptoSaid : Prop := fnHistoriesUptoRow.holds Try.pinned (OpenSpec.upto fnHistoriesSpec)

/-- 'laws.FnExactNetBatch', WHERE WHAT IT READS IS OF BULK AT MOST 1048576: true; the input reads as it did. -/
def fnExactNetBatchUptoRow : OpenClaim := { program := "ytgdeiecbkmhbeaa", sum := "f9e5d23ac7a049d35d81cc2e46ae57bcb6e33ed7405ebb9a6917ea95f169959d", func := "loop.example/g01922/laws.FnExactNetBatch", spec := "fnExactNetBatch", plainKeys := false, apart := false, narrowed := true }
def FnExactNetBatchUptoSaid : Prop := fnExactNetBatchUptoRow.holds Try.pinned (OpenSpec.upto fnExactNetBatchSpec)

/-- 'laws.FnExactIsValidHistory', WHERE WHAT IT READS IS OF BULK AT MOST 1048576: true; the input reads as it did. -/
def fnExactIsValidHistoryUptoRow : OpenClaim := { program := "ytgdeiecbkmhbeaa", sum := "f9e5d23ac7a049d35d81cc2e46ae57bcb6e33ed7405ebb9a6917ea95f169959d", func := "loop.example/g01922/laws.FnExactIsValidHistory", spec := "fnExactIsValidHistory", plainKeys := false, apart := false, narrowed := true }
def FnExactIsValidHistoryUptoSaid : Prop := fnExactIsValidHistoryUptoRow.holds Try.pinned (OpenSpec.upto fnExactIsValidHistorySpec)

/-- 'laws.FnExactNewHistory', WHERE WHAT IT READS IS OF BULK AT MOST 1048576: true; the input reads as it did. -/
def fnExactNewHistoryUptoRow : OpenClaim := { program := "ytgdeiecbkmhbeaa", sum := "f9e5d23ac7a049d35d81cc2e46ae57bcb6e33ed7405ebb9a6917ea95f169959d", func := "loop.example/g01922/laws.FnExactNewHistory", spec := "fnExactNewHistory", plainKeys := false, apart := false, narrowed := true }
def FnExactNewHistoryUptoSaid : Prop := fnExactNewHistoryUptoRow.holds Try.pinned (OpenSpec.upto fnExactNewHistorySpec)

/-- 'laws.FnExactLatestVersion', WHERE WHAT IT READS IS OF BULK AT MOST 1048576: true; the input reads as it did. -/
def fnExactLatestVersionUptoRow : OpenClaim := { program := "ytgdeiecbkmhbeaa", sum := "f9e5d23ac7a049d35d81cc2e46ae57bcb6e33ed7405ebb9a6917ea95f169959d", func := "loop.example/g01922/laws.FnExactLatestVersion", spec := "fnExactLatestVersion", plainKeys := false, apart := false, narrowed := true }
def FnExactLatestVersionUptoSaid : Prop := fnExactLatestVersionUptoRow.holds Try.pinned (OpenSpec.upto fnExactLatestVersionSpec)

/-- 'laws.FnExactGraphAt', WHERE WHAT IT READS IS OF BULK AT MOST 1048576: true; the input reads as it did. -/
def fnExactGraphAtUptoRow : OpenClaim := { program := "ytgdeiecbkmhbeaa", sum := "f9e5d23ac7a049d35d81cc2e46ae57bcb6e33ed7405ebb9a6917ea95f169959d", func := "loop.example/g01922/laws.FnExactGraphAt", spec := "fnExactGraphAt", plainKeys := false, apart := false, narrowed := true }
def FnExactGraphAtUptoSaid : Prop := fnExactGraphAtUptoRow.holds Try.pinned (OpenSpec.upto fnExactGraphAtSpec)

/-- 'laws.FnExactAppendBatch', WHERE WHAT IT READS IS OF BULK AT MOST 1048576: true; the input reads as it did. -/
def fnExactAppendBatchUptoRow : OpenClaim := { program := "ytgdeiecbkmhbeaa", sum := "f9e5d23ac7a049d35d81cc2e46ae57bcb6e33ed7405ebb9a6917ea95f169959d", func := "loop.example/g01922/laws.FnExactAppendBatch", spec := "fnExactAppendBatch", unfollowed := true, recurses := true, plainKeys := false, apart := false, narrowed := true }
def FnExactAppendBatchUptoSaid : Prop := fnExactAppendBatchUptoRow.holds Try.pinned (OpenSpec.upto fnExactAppendBatchSpec)

/-- 'laws.FnExactCompactHistory', WHERE WHAT IT READS IS OF BULK AT MOST 1048576: true; the input reads as it did. -/
def fnExactCompactHistoryUptoRow : OpenClaim := { program := "ytgdeiecbkmhbeaa", sum := "f9e5d23ac7a049d35d81cc2e46ae57bcb6e33ed7405ebb9a6917ea95f169959d", func := "loop.example/g01922/laws.FnExactCompactHistory", spec := "fnExactCompactHistory", plainKeys := false, apart := false, narrowed := true }
def FnExactCompactHistoryUptoSaid : Prop := fnExactCompactHistoryUptoRow.holds Try.pinned (OpenSpec.upto fnExactCompactHistorySpec)

/-- 'laws.FnExactEqualHistories', WHERE WHAT IT READS IS OF BULK AT MOST 1048576: true; the input reads as it did. -/
def fnExactEqualHistoriesUptoRow : OpenClaim := { program := "ytgdeiecbkmhbeaa", sum := "f9e5d23ac7a049d35d81cc2e46ae57bcb6e33ed7405ebb9a6917ea95f169959d", func := "loop.example/g01922/laws.FnExactEqualHistories", spec := "fnExactEqualHistories", unfollowed := true, recurses := true, plainKeys := false, apart := false, narrowed := true }
def FnExactEqualHistoriesUptoSaid : Prop := fnExactEqualHistoriesUptoRow.holds Try.pinned (OpenSpec.upto fnExactEqualHistoriesSpec)

end Rows
end Go.Proofs.Ytgdeiecbkmhbeaa
