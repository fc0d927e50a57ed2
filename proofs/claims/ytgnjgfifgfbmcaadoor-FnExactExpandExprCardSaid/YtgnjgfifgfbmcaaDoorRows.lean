/-
  NARROWER THAN 'FOR EVERY INPUT', by the rows' own cells (each row's printed sentence says how): FnWords: laid · FnPositions: laid · FnExactWordsUpTo: laid · FnExactExpandExpr: laid · FnExactBuildPositions: laid.
  DERIVED. THE GIVEN ROWS OF THIS SEAT. 5 by the template 'for every input the law returns true; each argument reads behind the call as it read before'; 0 by the template 'total and deterministic' (their statements: YtgnjgfifgfbmcaaDoorTotals.lean).
  GIVEN WITH THE SEED: the statements are not yours to turn. If you find one false, say at which input.
  Laid BY PROGRAM, IN A SANDBOX (cutbox-rows.mjs): the forced cells as the released guide's own fill.sh prints them over the translation 234ac9a3a99ae4ff… (all of the seat's roots in one cut). By AI agents, Wed Nov 11 2026. No macro, syntax, notation, axiom, sorry.
-/
import Derived.Test.YtgnjgfifgfbmcaaDoorChecked
import GoSem.Claim
import GoSem.ClaimJoined
import GoSem.ClaimMapViews
import Derived.JoinedTies
import Derived.KernelRfl
namespace Go.Proofs.YtgnjgfifgfbmcaaDoor
/- THE CELL 'sum', in the pinned program and in every row, IS THE sha256 OF THE DUMP (.gsa) THAT YtgnjgfifgfbmcaaDoorProg.lean LOADS. Nothing in Lean hashes anything: it is a label: what it is worth is what the hold of that sum in a sandbox is worth. -/
noncomputable def Tryd.pinned : Pinned := { name := "ytgnjgfifgfbmcaadoor", sum := "234ac9a3a99ae4ffae9c83cce4f8b60e1391dd98a9d9dd4b4ece06e839cc0e07", checked := Tryd.checked }
namespace Rows
def none {H : Type} : Left H := { results := [], args := [] }

/- WHAT THE LISTED PACKAGE-LEVEL VARIABLES READ AS WHEN THE CALL BEGINS. Each datum BY PROGRAM (the guide's laid-datum.mjs) off the statement by which the dump's own 'gosem.cut.vars' lays the variable. In a bare row this is a premise. The card (YtgnjgfifgfbmcaaDoorCards.lean) ties it to the program's text. -/
def laid_loop_example_g01922_impl_tokenForms {H : Type} : DataW H := .agg [.agg [.lit (.int .i64 0), .lit (.string [])], .agg [.lit (.int .i64 0), .lit (.string [33])], .agg [.lit (.int .i64 0), .lit (.string [40, 41])], .agg [.lit (.int .i64 0), .lit (.string [])], .agg [.lit (.int .i64 2), .lit (.string [46])], .agg [.lit (.int .i64 2), .lit (.string [124])], .agg [.lit (.int .i64 1), .lit (.string [42])], .agg [.lit (.int .i64 1), .lit (.string [])]]

/-- 'laws.FnWords': WHATEVER THE INPUT: true; the input reads as it did. -/
def fnWordsSpec : ChangeSpec := { name := "fnWords", vars := ["loop.example/g01922/impl.tokenForms"], fn := fun _ => fun
  | [d, g1] => { results := [.lit (.bool true)], args := [d], vars := [g1] }
  | _ => none }
def fnWordsRow : OpenClaim := { program := "ytgnjgfifgfbmcaadoor", sum := "234ac9a3a99ae4ffae9c83cce4f8b60e1391dd98a9d9dd4b4ece06e839cc0e07", func := "loop.example/g01922/laws.FnWords", spec := "fnWords", unfollowed := true, recurses := true, named := ["loop.example/g01922/impl.tokenForms"], plainKeys := false, apart := false, laid := [("loop.example/g01922/impl.tokenForms", laid_loop_example_g01922_impl_tokenForms)] }
def FnWordsSaid : Prop := fnWordsRow.holds Tryd.pinned (OpenSpec.ofChange fnWordsSpec)

/-- ITS FALSE NEIGHBOUR: 'it returns false'. Refute it at one input. -/
def fnWordsWrong : ChangeSpec := { name := "fnWords", vars := ["loop.example/g01922/impl.tokenForms"], fn := fun _ => fun
  | [d, g1] => { results := [.lit (.bool false)], args := [d], vars := [g1] }
  | _ => none }
def FnWordsWrongFalsely : Prop := fnWordsRow.holds Tryd.pinned (OpenSpec.ofChange fnWordsWrong)

/-- 'laws.FnPositions': WHATEVER THE INPUT: true; the input reads as it did. -/
def fnPositionsSpec : ChangeSpec := { name := "fnPositions", vars := ["loop.example/g01922/impl.tokenForms"], fn := fun _ => fun
  | [d, g1] => { results := [.lit (.bool true)], args := [d], vars := [g1] }
  | _ => none }
def fnPositionsRow : OpenClaim := { program := "ytgnjgfifgfbmcaadoor", sum := "234ac9a3a99ae4ffae9c83cce4f8b60e1391dd98a9d9dd4b4ece06e839cc0e07", func := "loop.example/g01922/laws.FnPositions", spec := "fnPositions", recurses := true, named := ["loop.example/g01922/impl.tokenForms"], plainKeys := false, apart := false, laid := [("loop.example/g01922/impl.tokenForms", laid_loop_example_g01922_impl_tokenForms)] }
def FnPositionsSaid : Prop := fnPositionsRow.holds Tryd.pinned (OpenSpec.ofChange fnPositionsSpec)

/-- ITS FALSE NEIGHBOUR: 'it returns false'. Refute it at one input. -/
def fnPositionsWrong : ChangeSpec := { name := "fnPositions", vars := ["loop.example/g01922/impl.tokenForms"], fn := fun _ => fun
  | [d, g1] => { results := [.lit (.bool false)], args := [d], vars := [g1] }
  | _ => none }
def FnPositionsWrongFalsely : Prop := fnPositionsRow.holds Tryd.pinned (OpenSpec.ofChange fnPositionsWrong)

/-- 'laws.FnExactWordsUpTo': WHATEVER THE INPUT: true; the input reads as it did. -/
def fnExactWordsUpToSpec : ChangeSpec := { name := "fnExactWordsUpTo", vars := ["loop.example/g01922/impl.tokenForms"], fn := fun _ => fun
  | [d1, d2, g1] => { results := [.lit (.bool true)], args := [d1, d2], vars := [g1] }
  | _ => none }
def fnExactWordsUpToRow : OpenClaim := { program := "ytgnjgfifgfbmcaadoor", sum := "234ac9a3a99ae4ffae9c83cce4f8b60e1391dd98a9d9dd4b4ece06e839cc0e07", func := "loop.example/g01922/laws.FnExactWordsUpTo", spec := "fnExactWordsUpTo", unfollowed := true, recurses := true, named := ["loop.example/g01922/impl.tokenForms"], plainKeys := false, apart := false, laid := [("loop.example/g01922/impl.tokenForms", laid_loop_example_g01922_impl_tokenForms)] }
def FnExactWordsUpToSaid : Prop := fnExactWordsUpToRow.holds Tryd.pinned (OpenSpec.ofChange fnExactWordsUpToSpec)

/-- ITS FALSE NEIGHBOUR: 'it returns false'. Refute it at one input. -/
def fnExactWordsUpToWrong : ChangeSpec := { name := "fnExactWordsUpTo", vars := ["loop.example/g01922/impl.tokenForms"], fn := fun _ => fun
  | [d1, d2, g1] => { results := [.lit (.bool false)], args := [d1, d2], vars := [g1] }
  | _ => none }
def FnExactWordsUpToWrongFalsely : Prop := fnExactWordsUpToRow.holds Tryd.pinned (OpenSpec.ofChange fnExactWordsUpToWrong)

/-- 'laws.FnExactExpandExpr': WHATEVER THE INPUT: true; the input reads as it did. -/
def fnExactExpandExprSpec : ChangeSpec := { name := "fnExactExpandExpr", vars := ["loop.example/g01922/impl.tokenForms"], fn := fun _ => fun
  | [d, g1] => { results := [.lit (.bool true)], args := [d], vars := [g1] }
  | _ => none }
def fnExactExpandExprRow : OpenClaim := { program := "ytgnjgfifgfbmcaadoor", sum := "234ac9a3a99ae4ffae9c83cce4f8b60e1391dd98a9d9dd4b4ece06e839cc0e07", func := "loop.example/g01922/laws.FnExactExpandExpr", spec := "fnExactExpandExpr", recurses := true, named := ["loop.example/g01922/impl.tokenForms"], plainKeys := false, apart := false, laid := [("loop.example/g01922/impl.tokenForms", laid_loop_example_g01922_impl_tokenForms)] }
def FnExactExpandExprSaid : Prop := fnExactExpandExprRow.holds Tryd.pinned (OpenSpec.ofChange fnExactExpandExprSpec)

/-- ITS FALSE NEIGHBOUR: 'it returns false'. Refute it at one input. -/
def fnExactExpandExprWrong : ChangeSpec := { name := "fnExactExpandExpr", vars := ["loop.example/g01922/impl.tokenForms"], fn := fun _ => fun
  | [d, g1] => { results := [.lit (.bool false)], args := [d], vars := [g1] }
  | _ => none }
def FnExactExpandExprWrongFalsely : Prop := fnExactExpandExprRow.holds Tryd.pinned (OpenSpec.ofChange fnExactExpandExprWrong)

/-- 'laws.FnExactBuildPositions': WHATEVER THE INPUT: true; the input reads as it did. -/
def fnExactBuildPositionsSpec : ChangeSpec := { name := "fnExactBuildPositions", vars := ["loop.example/g01922/impl.tokenForms"], fn := fun _ => fun
  | [d, g1] => { results := [.lit (.bool true)], args := [d], vars := [g1] }
  | _ => none }
def fnExactBuildPositionsRow : OpenClaim := { program := "ytgnjgfifgfbmcaadoor", sum := "234ac9a3a99ae4ffae9c83cce4f8b60e1391dd98a9d9dd4b4ece06e839cc0e07", func := "loop.example/g01922/laws.FnExactBuildPositions", spec := "fnExactBuildPositions", recurses := true, named := ["loop.example/g01922/impl.tokenForms"], plainKeys := false, apart := false, laid := [("loop.example/g01922/impl.tokenForms", laid_loop_example_g01922_impl_tokenForms)] }
def FnExactBuildPositionsSaid : Prop := fnExactBuildPositionsRow.holds Tryd.pinned (OpenSpec.ofChange fnExactBuildPositionsSpec)

/-- ITS FALSE NEIGHBOUR: 'it returns false'. Refute it at one input. -/
def fnExactBuildPositionsWrong : ChangeSpec := { name := "fnExactBuildPositions", vars := ["loop.example/g01922/impl.tokenForms"], fn := fun _ => fun
  | [d, g1] => { results := [.lit (.bool false)], args := [d], vars := [g1] }
  | _ => none }
def FnExactBuildPositionsWrongFalsely : Prop := fnExactBuildPositionsRow.holds Tryd.pinned (OpenSpec.ofChange fnExactBuildPositionsWrong)

/- THE SECOND FORM. 'bulk': how many values and letters a reading holds, each counted each time it is reached (what is shared counts as often as it is met; a slice's spare places count too). A statement '..UptoSaid' is the law's where the arguments, and the package variables that the reading takes, are together of bulk at most 1048576: NARROWER than '..Said'. Prove '..Said' where nothing that the law and all that it calls make is longer than what came in: it says more and counts as full. Else prove '..UptoSaid'. A law counts once. -/
mutual
def uptoBulk {H : Type} : DataW H → Nat
  | .lit (.string bytes) => bytes.length + 1
  | .lit _ => 1
  | .nil => 1
  | .ptr d => uptoBulk d + 1
  | .slice elems spare => uptoBulkAll elems + uptoBulkAll spare + 1
  | .agg parts => uptoBulkAll parts + 1
  | .iface _ d => uptoBulk d + 1
  | .map entries => uptoBulkEntries entries + 1
  | .held _ => 1
def uptoBulkAll {H : Type} : List (DataW H) → Nat
  | [] => 0
  | d :: r => uptoBulk d + uptoBulkAll r
def uptoBulkEntries {H : Type} : List (Lit × DataW H) → Nat
  | [] => 0
  | x :: r => uptoBulkEntry x + uptoBulkEntries r
def uptoBulkEntry {H : Type} : Lit × DataW H → Nat
  | (.string bytes, d) => bytes.length + uptoBulk d + 1
  | (_, d) => uptoBulk d + 1
 end
def uptoSmall : (H : Type) → List (DataW H) → Bool := fun _ ds => decide (uptoBulkAll ds ≤ 1048576)
def OpenSpec.upto (s : _root_.Go.ChangeSpec) : _root_.Go.OpenSpec := { _root_.Go.OpenSpec.ofChange s with cond := some uptoSmall }

/-- 'laws.FnWords', WHERE WHAT IT READS IS OF BULK AT MOST 1048576: true; the input reads as it did. -/
def fnWordsUptoRow : OpenClaim := { program := "ytgnjgfifgfbmcaadoor", sum := "234ac9a3a99ae4ffae9c83cce4f8b60e1391dd98a9d9dd4b4ece06e839cc0e07", func := "loop.example/g01922/laws.FnWords", spec := "fnWords", unfollowed := true, recurses := true, named := ["loop.example/g01922/impl.tokenForms"], plainKeys := false, apart := false, laid := [("loop.example/g01922/impl.tokenForms", laid_loop_example_g01922_impl_tokenForms)], narrowed := true }
def FnWordsUptoSaid : Prop := fnWordsUptoRow.holds Tryd.pinned (OpenSpec.upto fnWordsSpec)

/-- 'laws.FnPositions', WHERE WHAT IT READS IS OF BULK AT MOST 1048576: true; the input reads as it did. -/
def fnPositionsUptoRow : OpenClaim := { program := "ytgnjgfifgfbmcaadoor", sum := "234ac9a3a99ae4ffae9c83cce4f8b60e1391dd98a9d9dd4b4ece06e839cc0e07", func := "loop.example/g01922/laws.FnPositions", spec := "fnPositions", recurses := true, named := ["loop.example/g01922/impl.tokenForms"], plainKeys := false, apart := false, laid := [("loop.example/g01922/impl.tokenForms", laid_loop_example_g01922_impl_tokenForms)], narrowed := true }
def FnPositionsUptoSaid : Prop := fnPositionsUptoRow.holds Tryd.pinned (OpenSpec.upto fnPositionsSpec)

/-- 'laws.FnExactWordsUpTo', WHERE WHAT IT READS IS OF BULK AT MOST 1048576: true; the input reads as it did. -/
def fnExactWordsUpToUptoRow : OpenClaim := { program := "ytgnjgfifgfbmcaadoor", sum := "234ac9a3a99ae4ffae9c83cce4f8b60e1391dd98a9d9dd4b4ece06e839cc0e07", func := "loop.example/g01922/laws.FnExactWordsUpTo", spec := "fnExactWordsUpTo", unfollowed := true, recurses := true, named := ["loop.example/g01922/impl.tokenForms"], plainKeys := false, apart := false, laid := [("loop.example/g01922/impl.tokenForms", laid_loop_example_g01922_impl_tokenForms)], narrowed := true }
def FnExactWordsUpToUptoSaid : Prop := fnExactWordsUpToUptoRow.holds Tryd.pinned (OpenSpec.upto fnExactWordsUpToSpec)

/-- 'laws.FnExactExpandExpr', WHERE WHAT IT READS IS OF BULK AT MOST 1048576: true; the input reads as it did. -/
def fnExactExpandExprUptoRow : OpenClaim := { program := "ytgnjgfifgfbmcaadoor", sum := "234ac9a3a99ae4ffae9c83cce4f8b60e1391dd98a9d9dd4b4ece06e839cc0e07", func := "loop.example/g01922/laws.FnExactExpandExpr", spec := "fnExactExpandExpr", recurses := true, named := ["loop.example/g01922/impl.tokenForms"], plainKeys := false, apart := false, laid := [("loop.example/g01922/impl.tokenForms", laid_loop_example_g01922_impl_tokenForms)], narrowed := true }
def FnExactExpandExprUptoSaid : Prop := fnExactExpandExprUptoRow.holds Tryd.pinned (OpenSpec.upto fnExactExpandExprSpec)

/-- 'laws.FnExactBuildPositions', WHERE WHAT IT READS IS OF BULK AT MOST 1048576: true; the input reads as it did. -/
def fnExactBuildPositionsUptoRow : OpenClaim := { program := "ytgnjgfifgfbmcaadoor", sum := "234ac9a3a99ae4ffae9c83cce4f8b60e1391dd98a9d9dd4b4ece06e839cc0e07", func := "loop.example/g01922/laws.FnExactBuildPositions", spec := "fnExactBuildPositions", recurses := true, named := ["loop.example/g01922/impl.tokenForms"], plainKeys := false, apart := false, laid := [("loop.example/g01922/impl.tokenForms", laid_loop_example_g01922_impl_tokenForms)], narrowed := true }
def FnExactBuildPositionsUptoSaid : Prop := fnExactBuildPositionsUptoRow.holds Tryd.pinned (OpenSpec.upto fnExactBuildPositionsSpec)

end Rows
end Go.Proofs.YtgnjgfifgfbmcaaDoor
