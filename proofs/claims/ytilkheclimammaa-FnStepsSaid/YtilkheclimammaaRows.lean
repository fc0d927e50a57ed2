/-
  No cell of these rows narrows 'for every input' (looked for: loops, veiled, ifaces, maps, wideKeys, modest, calm, conditions, laid).
  DERIVED. THE GIVEN ROWS OF THIS SEAT. 9 by the template 'for every input the law returns true; each argument reads behind the call as it read before'; 0 by the template 'total and deterministic' (their statements: YtilkheclimammaaTotals.lean).
  GIVEN WITH THE SEED: the statements are not yours to turn. If you find one false, say at which input.
  Laid BY PROGRAM, IN A SANDBOX (cutbox-rows.mjs): the forced cells as the released guide's own fill.sh prints them over the translation 3199f42505bd5144… (all of the seat's roots in one cut). By AI agents, Wed Nov 11 2026. No macro, syntax, notation, axiom, sorry.
-/
import Derived.Test.YtilkheclimammaaChecked
import GoSem.Claim
import GoSem.ClaimJoined
import GoSem.ClaimMapViews
import Derived.JoinedTies
import Derived.KernelRfl
namespace Go.Proofs.Ytilkheclimammaa
/- THE CELL 'sum', in the pinned program and in every row, IS THE sha256 OF THE DUMP (.gsa) THAT YtilkheclimammaaProg.lean LOADS. Nothing in Lean hashes anything: it is a label: what it is worth is what the hold of that sum in a sandbox is worth. -/
noncomputable def Try.pinned : Pinned := { name := "ytilkheclimammaa", sum := "3199f42505bd514467aaeb07794a11a0abdcdf2e2c9673bfabd8ab825858d690", checked := Try.checked }
namespace Rows
def none {H : Type} : Left H := { results := [], args := [] }

/-- 'laws.FnSteps': WHATEVER THE INPUT: true; the input reads as it did. -/
def fnStepsSpec : ChangeSpec := { name := "fnSteps", fn := fun _ => fun
  | [d] => { results := [.lit (.bool true)], args := [d] }
  | _ => none }
def fnStepsRow : OpenClaim := { program := "ytilkheclimammaa", sum := "3199f42505bd514467aaeb07794a11a0abdcdf2e2c9673bfabd8ab825858d690", func := "loop.example/g01922/laws.FnSteps", spec := "fnSteps", unfollowed := true, recurses := true, apart := false }
def FnStepsSaid : Prop := fnStepsRow.holds Try.pinned (OpenSpec.ofChange fnStepsSpec)

/-- ITS FALSE NEIGHBOUR: 'it returns false'. Refute it at one input. -/
def fnStepsWrong : ChangeSpec := { name := "fnSteps", fn := fun _ => fun
  | [d] => { results := [.lit (.bool false)], args := [d] }
  | _ => none }
def FnStepsWrongFalsely : Prop := fnStepsRow.holds Try.pinned (OpenSpec.ofChange fnStepsWrong)

/-- 'laws.FnExactIsValidWalk': WHATEVER THE INPUT: true; the input reads as it did. -/
def fnExactIsValidWalkSpec : ChangeSpec := { name := "fnExactIsValidWalk", fn := fun _ => fun
  | [d1, d2] => { results := [.lit (.bool true)], args := [d1, d2] }
  | _ => none }
def fnExactIsValidWalkRow : OpenClaim := { program := "ytilkheclimammaa", sum := "3199f42505bd514467aaeb07794a11a0abdcdf2e2c9673bfabd8ab825858d690", func := "loop.example/g01922/laws.FnExactIsValidWalk", spec := "fnExactIsValidWalk", unfollowed := true, recurses := true, apart := false }
def FnExactIsValidWalkSaid : Prop := fnExactIsValidWalkRow.holds Try.pinned (OpenSpec.ofChange fnExactIsValidWalkSpec)

/-- ITS FALSE NEIGHBOUR: 'it returns false'. Refute it at one input. -/
def fnExactIsValidWalkWrong : ChangeSpec := { name := "fnExactIsValidWalk", fn := fun _ => fun
  | [d1, d2] => { results := [.lit (.bool false)], args := [d1, d2] }
  | _ => none }
def FnExactIsValidWalkWrongFalsely : Prop := fnExactIsValidWalkRow.holds Try.pinned (OpenSpec.ofChange fnExactIsValidWalkWrong)

/-- 'laws.FnExactWalkNodes': WHATEVER THE INPUT: true; the input reads as it did. -/
def fnExactWalkNodesSpec : ChangeSpec := { name := "fnExactWalkNodes", fn := fun _ => fun
  | [d1, d2] => { results := [.lit (.bool true)], args := [d1, d2] }
  | _ => none }
def fnExactWalkNodesRow : OpenClaim := { program := "ytilkheclimammaa", sum := "3199f42505bd514467aaeb07794a11a0abdcdf2e2c9673bfabd8ab825858d690", func := "loop.example/g01922/laws.FnExactWalkNodes", spec := "fnExactWalkNodes", unfollowed := true, recurses := true, apart := false }
def FnExactWalkNodesSaid : Prop := fnExactWalkNodesRow.holds Try.pinned (OpenSpec.ofChange fnExactWalkNodesSpec)

/-- ITS FALSE NEIGHBOUR: 'it returns false'. Refute it at one input. -/
def fnExactWalkNodesWrong : ChangeSpec := { name := "fnExactWalkNodes", fn := fun _ => fun
  | [d1, d2] => { results := [.lit (.bool false)], args := [d1, d2] }
  | _ => none }
def FnExactWalkNodesWrongFalsely : Prop := fnExactWalkNodesRow.holds Try.pinned (OpenSpec.ofChange fnExactWalkNodesWrong)

/-- 'laws.FnExactWalkEnd': WHATEVER THE INPUT: true; the input reads as it did. -/
def fnExactWalkEndSpec : ChangeSpec := { name := "fnExactWalkEnd", fn := fun _ => fun
  | [d1, d2] => { results := [.lit (.bool true)], args := [d1, d2] }
  | _ => none }
def fnExactWalkEndRow : OpenClaim := { program := "ytilkheclimammaa", sum := "3199f42505bd514467aaeb07794a11a0abdcdf2e2c9673bfabd8ab825858d690", func := "loop.example/g01922/laws.FnExactWalkEnd", spec := "fnExactWalkEnd", unfollowed := true, recurses := true, apart := false }
def FnExactWalkEndSaid : Prop := fnExactWalkEndRow.holds Try.pinned (OpenSpec.ofChange fnExactWalkEndSpec)

/-- ITS FALSE NEIGHBOUR: 'it returns false'. Refute it at one input. -/
def fnExactWalkEndWrong : ChangeSpec := { name := "fnExactWalkEnd", fn := fun _ => fun
  | [d1, d2] => { results := [.lit (.bool false)], args := [d1, d2] }
  | _ => none }
def FnExactWalkEndWrongFalsely : Prop := fnExactWalkEndRow.holds Try.pinned (OpenSpec.ofChange fnExactWalkEndWrong)

/-- 'laws.FnExactWalkWord': WHATEVER THE INPUT: true; the input reads as it did. -/
def fnExactWalkWordSpec : ChangeSpec := { name := "fnExactWalkWord", fn := fun _ => fun
  | [d1, d2] => { results := [.lit (.bool true)], args := [d1, d2] }
  | _ => none }
def fnExactWalkWordRow : OpenClaim := { program := "ytilkheclimammaa", sum := "3199f42505bd514467aaeb07794a11a0abdcdf2e2c9673bfabd8ab825858d690", func := "loop.example/g01922/laws.FnExactWalkWord", spec := "fnExactWalkWord", unfollowed := true, recurses := true, apart := false }
def FnExactWalkWordSaid : Prop := fnExactWalkWordRow.holds Try.pinned (OpenSpec.ofChange fnExactWalkWordSpec)

/-- ITS FALSE NEIGHBOUR: 'it returns false'. Refute it at one input. -/
def fnExactWalkWordWrong : ChangeSpec := { name := "fnExactWalkWord", fn := fun _ => fun
  | [d1, d2] => { results := [.lit (.bool false)], args := [d1, d2] }
  | _ => none }
def FnExactWalkWordWrongFalsely : Prop := fnExactWalkWordRow.holds Try.pinned (OpenSpec.ofChange fnExactWalkWordWrong)

/-- 'laws.FnExactIsTrail': WHATEVER THE INPUT: true; the input reads as it did. -/
def fnExactIsTrailSpec : ChangeSpec := { name := "fnExactIsTrail", fn := fun _ => fun
  | [d1, d2] => { results := [.lit (.bool true)], args := [d1, d2] }
  | _ => none }
def fnExactIsTrailRow : OpenClaim := { program := "ytilkheclimammaa", sum := "3199f42505bd514467aaeb07794a11a0abdcdf2e2c9673bfabd8ab825858d690", func := "loop.example/g01922/laws.FnExactIsTrail", spec := "fnExactIsTrail", unfollowed := true, recurses := true, apart := false }
def FnExactIsTrailSaid : Prop := fnExactIsTrailRow.holds Try.pinned (OpenSpec.ofChange fnExactIsTrailSpec)

/-- ITS FALSE NEIGHBOUR: 'it returns false'. Refute it at one input. -/
def fnExactIsTrailWrong : ChangeSpec := { name := "fnExactIsTrail", fn := fun _ => fun
  | [d1, d2] => { results := [.lit (.bool false)], args := [d1, d2] }
  | _ => none }
def FnExactIsTrailWrongFalsely : Prop := fnExactIsTrailRow.holds Try.pinned (OpenSpec.ofChange fnExactIsTrailWrong)

/-- 'laws.FnExactIsSimplePath': WHATEVER THE INPUT: true; the input reads as it did. -/
def fnExactIsSimplePathSpec : ChangeSpec := { name := "fnExactIsSimplePath", fn := fun _ => fun
  | [d1, d2] => { results := [.lit (.bool true)], args := [d1, d2] }
  | _ => none }
def fnExactIsSimplePathRow : OpenClaim := { program := "ytilkheclimammaa", sum := "3199f42505bd514467aaeb07794a11a0abdcdf2e2c9673bfabd8ab825858d690", func := "loop.example/g01922/laws.FnExactIsSimplePath", spec := "fnExactIsSimplePath", unfollowed := true, recurses := true, apart := false }
def FnExactIsSimplePathSaid : Prop := fnExactIsSimplePathRow.holds Try.pinned (OpenSpec.ofChange fnExactIsSimplePathSpec)

/-- ITS FALSE NEIGHBOUR: 'it returns false'. Refute it at one input. -/
def fnExactIsSimplePathWrong : ChangeSpec := { name := "fnExactIsSimplePath", fn := fun _ => fun
  | [d1, d2] => { results := [.lit (.bool false)], args := [d1, d2] }
  | _ => none }
def FnExactIsSimplePathWrongFalsely : Prop := fnExactIsSimplePathRow.holds Try.pinned (OpenSpec.ofChange fnExactIsSimplePathWrong)

/-- 'laws.FnExactReverseWalk': WHATEVER THE INPUT: true; the input reads as it did. -/
def fnExactReverseWalkSpec : ChangeSpec := { name := "fnExactReverseWalk", fn := fun _ => fun
  | [d1, d2] => { results := [.lit (.bool true)], args := [d1, d2] }
  | _ => none }
def fnExactReverseWalkRow : OpenClaim := { program := "ytilkheclimammaa", sum := "3199f42505bd514467aaeb07794a11a0abdcdf2e2c9673bfabd8ab825858d690", func := "loop.example/g01922/laws.FnExactReverseWalk", spec := "fnExactReverseWalk", unfollowed := true, recurses := true, apart := false }
def FnExactReverseWalkSaid : Prop := fnExactReverseWalkRow.holds Try.pinned (OpenSpec.ofChange fnExactReverseWalkSpec)

/-- ITS FALSE NEIGHBOUR: 'it returns false'. Refute it at one input. -/
def fnExactReverseWalkWrong : ChangeSpec := { name := "fnExactReverseWalk", fn := fun _ => fun
  | [d1, d2] => { results := [.lit (.bool false)], args := [d1, d2] }
  | _ => none }
def FnExactReverseWalkWrongFalsely : Prop := fnExactReverseWalkRow.holds Try.pinned (OpenSpec.ofChange fnExactReverseWalkWrong)

/-- 'laws.FnExactCompareWalks': WHATEVER THE INPUT: true; the input reads as it did. -/
def fnExactCompareWalksSpec : ChangeSpec := { name := "fnExactCompareWalks", fn := fun _ => fun
  | [d1, d2] => { results := [.lit (.bool true)], args := [d1, d2] }
  | _ => none }
def fnExactCompareWalksRow : OpenClaim := { program := "ytilkheclimammaa", sum := "3199f42505bd514467aaeb07794a11a0abdcdf2e2c9673bfabd8ab825858d690", func := "loop.example/g01922/laws.FnExactCompareWalks", spec := "fnExactCompareWalks", unfollowed := true, recurses := true, apart := false }
def FnExactCompareWalksSaid : Prop := fnExactCompareWalksRow.holds Try.pinned (OpenSpec.ofChange fnExactCompareWalksSpec)

/-- ITS FALSE NEIGHBOUR: 'it returns false'. Refute it at one input. -/
def fnExactCompareWalksWrong : ChangeSpec := { name := "fnExactCompareWalks", fn := fun _ => fun
  | [d1, d2] => { results := [.lit (.bool false)], args := [d1, d2] }
  | _ => none }
def FnExactCompareWalksWrongFalsely : Prop := fnExactCompareWalksRow.holds Try.pinned (OpenSpec.ofChange fnExactCompareWalksWrong)

/- THE SECOND FORM. 'bulk': how many values and letters a reading holds, each counted each time it is reached (what is shared counts as often as it is met; a slice's spare places count too). A statement '..UptoSaid' is the law's where the arguments, and the package variables that the reading takes, are together of bulk at most 1048576: NARROWER than '..Said'. Prove '..Said' where nothing that the law and all that it calls make is longer than what came in: it says more and counts as full. Else prove '..UptoSaid'. A law counts once. -/
mutual
def uptoBulk {H : Type} : DataW H → Nat
  | .lit (.string bytes) => bytes.length + 1
  | .lit _ => 1
  | .nil => 1
  | .ptr d => uptoBulk d + 1
  | .slice elems spare => uptoBulkAll elems + uptoBulkAll spare + 1
  | .agg parts => uptoBulkAll parts + 1
  | .iface _ d => uptoBulk d + 1
  | .map entries => uptoBulkEntries entries + 1
  | .held _ => 1
def uptoBulkAll {H : Type} : List (DataW H) → Nat
  | [] => 0
  | d :: r => uptoBulk d + uptoBulkAll r
def uptoBulkEntries {H : Type} : List (Lit × DataW H) → Nat
  | [] => 0
  | x :: r => uptoBulkEntry x + uptoBulkEntries r
def uptoBulkEntry {H : Type} : Lit × DataW H → Nat
  | (.string bytes, d) => bytes.length + uptoBulk d + 1
  | (_, d) => uptoBulk d + 1
 end
def uptoSmall : (H : Type) → List (DataW H) → Bool := fun _ ds => decide (uptoBulkAll ds ≤ 1048576)
def OpenSpec.upto (s : _root_.Go.ChangeSpec) : _root_.Go.OpenSpec := { _root_.Go.OpenSpec.ofChange s with cond := some uptoSmall }

/-- 'laws.FnSteps', WHERE WHAT IT READS IS OF BULK AT MOST 1048576: true; the input reads as it did. -/
def fnStepsUptoRow : OpenClaim := { program := "ytilkheclimammaa", sum := "3199f42505bd514467aaeb07794a11a0abdcdf2e2c9673bfabd8ab825858d690", func := "loop.example/g01922/laws.FnSteps", spec := "fnSteps", unfollowed := true, recurses := true, apart := false, narrowed := true }
def FnStepsUptoSaid : Prop := fnStepsUptoRow.holds Try.pinned (OpenSpec.upto fnStepsSpec)

/-- 'laws.FnExactIsValidWalk', WHERE WHAT IT READS IS OF BULK AT MOST 1048576: true; the input reads as it did. -/
def fnExactIsValidWalkUptoRow : OpenClaim := { program := "ytilkheclimammaa", sum := "3199f42505bd514467aaeb07794a11a0abdcdf2e2c9673bfabd8ab825858d690", func := "loop.example/g01922/laws.FnExactIsValidWalk", spec := "fnExactIsValidWalk", unfollowed := true, recurses := true, apart := false, narrowed := true }
def FnExactIsValidWalkUptoSaid : Prop := fnExactIsValidWalkUptoRow.holds Try.pinned (OpenSpec.upto fnExactIsValidWalkSpec)

/-- 'laws.FnExactWalkNodes', WHERE WHAT IT READS IS OF BULK AT MOST 1048576: true; the input reads as it did. -/
def fnExactWalkNodesUptoRow : OpenClaim := { program := "ytilkheclimammaa", sum := "3199f42505bd514467aaeb07794a11a0abdcdf2e2c9673bfabd8ab825858d690", func := "loop.example/g01922/laws.FnExactWalkNodes", spec := "fnExactWalkNodes", unfollowed := true, recurses := true, apart := false, narrowed := true }
def FnExactWalkNodesUptoSaid : Prop := fnExactWalkNodesUptoRow.holds Try.pinned (OpenSpec.upto fnExactWalkNodesSpec)

/-- 'laws.FnExactWalkEnd', WHERE WHAT IT READS IS OF BULK AT MOST 1048576: true; the input reads as it did. -/
def fnExactWalkEndUptoRow : OpenClaim := { program := "ytilkheclimammaa", sum := "3199f42505bd514467aaeb07794a11a0abdcdf2e2c9673bfabd8ab825858d690", func := "loop.example/g01922/laws.FnExactWalkEnd", spec := "fnExactWalkEnd", unfollowed := true, recurses := true, apart := false, narrowed := true }
def FnExactWalkEndUptoSaid : Prop := fnExactWalkEndUptoRow.holds Try.pinned (OpenSpec.upto fnExactWalkEndSpec)

/-- 'laws.FnExactWalkWord', WHERE WHAT IT READS IS OF BULK AT MOST 1048576: true; the input reads as it did. -/
def fnExactWalkWordUptoRow : OpenClaim := { program := "ytilkheclimammaa", sum := "3199f42505bd514467aaeb07794a11a0abdcdf2e2c9673bfabd8ab825858d690", func := "loop.example/g01922/laws.FnExactWalkWord", spec := "fnExactWalkWord", unfollowed := true, recurses := true, apart := false, narrowed := true }
def FnExactWalkWordUptoSaid : Prop := fnExactWalkWordUptoRow.holds Try.pinned (OpenSpec.upto fnExactWalkWordSpec)

/-- 'laws.FnExactIsTrail', WHERE WHAT IT READS IS OF BULK AT MOST 1048576: true; the input reads as it did. -/
def fnExactIsTrailUptoRow : OpenClaim := { program := "ytilkheclimammaa", sum := "3199f42505bd514467aaeb07794a11a0abdcdf2e2c9673bfabd8ab825858d690", func := "loop.example/g01922/laws.FnExactIsTrail", spec := "fnExactIsTrail", unfollowed := true, recurses := true, apart := false, narrowed := true }
def FnExactIsTrailUptoSaid : Prop := fnExactIsTrailUptoRow.holds Try.pinned (OpenSpec.upto fnExactIsTrailSpec)

/-- 'laws.FnExactIsSimplePath', WHERE WHAT IT READS IS OF BULK AT MOST 1048576: true; the input reads as it did. -/
def fnExactIsSimplePathUptoRow : OpenClaim := { program := "ytilkheclimammaa", sum := "3199f42505bd514467aaeb07794a11a0abdcdf2e2c9673bfabd8ab825858d690", func := "loop.example/g01922/laws.FnExactIsSimplePath", spec := "fnExactIsSimplePath", unfollowed := true, recurses := true, apart := false, narrowed := true }
def FnExactIsSimplePathUptoSaid : Prop := fnExactIsSimplePathUptoRow.holds Try.pinned (OpenSpec.upto fnExactIsSimplePathSpec)

/-- 'laws.FnExactReverseWalk', WHERE WHAT IT READS IS OF BULK AT MOST 1048576: true; the input reads as it did. -/
def fnExactReverseWalkUptoRow : OpenClaim := { program := "ytilkheclimammaa", sum := "3199f42505bd514467aaeb07794a11a0abdcdf2e2c9673bfabd8ab825858d690", func := "loop.example/g01922/laws.FnExactReverseWalk", spec := "fnExactReverseWalk", unfollowed := true, recurses := true, apart := false, narrowed := true }
def FnExactReverseWalkUptoSaid : Prop := fnExactReverseWalkUptoRow.holds Try.pinned (OpenSpec.upto fnExactReverseWalkSpec)

/-- 'laws.FnExactCompareWalks', WHERE WHAT IT READS IS OF BULK AT MOST 1048576: true; the input reads as it did. -/
def fnExactCompareWalksUptoRow : OpenClaim := { program := "ytilkheclimammaa", sum := "3199f42505bd514467aaeb07794a11a0abdcdf2e2c9673bfabd8ab825858d690", func := "loop.example/g01922/laws.FnExactCompareWalks", spec := "fnExactCompareWalks", unfollowed := true, recurses := true, apart := false, narrowed := true }
def FnExactCompareWalksUptoSaid : Prop := fnExactCompareWalksUptoRow.holds Try.pinned (OpenSpec.upto fnExactCompareWalksSpec)

end Rows
end Go.Proofs.Ytilkheclimammaa
