/-
  No cell of these rows narrows 'for every input' (looked for: loops, veiled, ifaces, maps, wideKeys, modest, calm, conditions, laid).
  DERIVED. THE GIVEN ROWS OF THIS SEAT. 6 by the template 'for every input the law returns true; each argument reads behind the call as it read before'; 0 by the template 'total and deterministic' (their statements: YthnppgcmmabolaaTotals.lean).
  GIVEN WITH THE SEED: the statements are not yours to turn. If you find one false, say at which input.
  Laid BY PROGRAM, IN A SANDBOX (cutbox-rows.mjs): the forced cells as the released guide's own fill.sh prints them over the translation fc87f99a9627204c… (all of the seat's roots in one cut). By AI agents, Wed Nov 11 2026. No macro, syntax, notation, axiom, sorry.
-/
import Derived.Test.YthnppgcmmabolaaChecked
import GoSem.Claim
import GoSem.ClaimJoined
import GoSem.ClaimMapViews
import Derived.JoinedTies
import Derived.KernelRfl
namespace Go.Proofs.Ythnppgcmmabolaa
/- THE CELL 'sum', in the pinned program and in every row, IS THE sha256 OF THE DUMP (.gsa) THAT YthnppgcmmabolaaProg.lean LOADS. Nothing in Lean hashes anything: it is a label: what it is worth is what the hold of that sum in a sandbox is worth. -/
noncomputable def Try.pinned : Pinned := { name := "ythnppgcmmabolaa", sum := "fc87f99a9627204c8c1f4fad7c2afb5238ad0d474ce71cc580adc32c032f8689", checked := Try.checked }
namespace Rows
def none {H : Type} : Left H := { results := [], args := [] }

/-- 'laws.FnExactLetterExpr': WHATEVER THE INPUT: true; the input reads as it did. -/
def fnExactLetterExprSpec : ChangeSpec := { name := "fnExactLetterExpr", fn := fun _ => fun
  | [d] => { results := [.lit (.bool true)], args := [d] }
  | _ => none }
def fnExactLetterExprRow : OpenClaim := { program := "ythnppgcmmabolaa", sum := "fc87f99a9627204c8c1f4fad7c2afb5238ad0d474ce71cc580adc32c032f8689", func := "loop.example/g01922/laws.FnExactLetterExpr", spec := "fnExactLetterExpr", apart := false }
def FnExactLetterExprSaid : Prop := fnExactLetterExprRow.holds Try.pinned (OpenSpec.ofChange fnExactLetterExprSpec)

/-- ITS FALSE NEIGHBOUR: 'it returns false'. Refute it at one input. -/
def fnExactLetterExprWrong : ChangeSpec := { name := "fnExactLetterExpr", fn := fun _ => fun
  | [d] => { results := [.lit (.bool false)], args := [d] }
  | _ => none }
def FnExactLetterExprWrongFalsely : Prop := fnExactLetterExprRow.holds Try.pinned (OpenSpec.ofChange fnExactLetterExprWrong)

/-- 'laws.FnExactConcatExpr': WHATEVER THE INPUT: true; the input reads as it did. -/
def fnExactConcatExprSpec : ChangeSpec := { name := "fnExactConcatExpr", fn := fun _ => fun
  | [d1, d2] => { results := [.lit (.bool true)], args := [d1, d2] }
  | _ => none }
def fnExactConcatExprRow : OpenClaim := { program := "ythnppgcmmabolaa", sum := "fc87f99a9627204c8c1f4fad7c2afb5238ad0d474ce71cc580adc32c032f8689", func := "loop.example/g01922/laws.FnExactConcatExpr", spec := "fnExactConcatExpr", apart := false }
def FnExactConcatExprSaid : Prop := fnExactConcatExprRow.holds Try.pinned (OpenSpec.ofChange fnExactConcatExprSpec)

/-- ITS FALSE NEIGHBOUR: 'it returns false'. Refute it at one input. -/
def fnExactConcatExprWrong : ChangeSpec := { name := "fnExactConcatExpr", fn := fun _ => fun
  | [d1, d2] => { results := [.lit (.bool false)], args := [d1, d2] }
  | _ => none }
def FnExactConcatExprWrongFalsely : Prop := fnExactConcatExprRow.holds Try.pinned (OpenSpec.ofChange fnExactConcatExprWrong)

/-- 'laws.FnExactUnionExpr': WHATEVER THE INPUT: true; the input reads as it did. -/
def fnExactUnionExprSpec : ChangeSpec := { name := "fnExactUnionExpr", fn := fun _ => fun
  | [d1, d2] => { results := [.lit (.bool true)], args := [d1, d2] }
  | _ => none }
def fnExactUnionExprRow : OpenClaim := { program := "ythnppgcmmabolaa", sum := "fc87f99a9627204c8c1f4fad7c2afb5238ad0d474ce71cc580adc32c032f8689", func := "loop.example/g01922/laws.FnExactUnionExpr", spec := "fnExactUnionExpr", apart := false }
def FnExactUnionExprSaid : Prop := fnExactUnionExprRow.holds Try.pinned (OpenSpec.ofChange fnExactUnionExprSpec)

/-- ITS FALSE NEIGHBOUR: 'it returns false'. Refute it at one input. -/
def fnExactUnionExprWrong : ChangeSpec := { name := "fnExactUnionExpr", fn := fun _ => fun
  | [d1, d2] => { results := [.lit (.bool false)], args := [d1, d2] }
  | _ => none }
def FnExactUnionExprWrongFalsely : Prop := fnExactUnionExprRow.holds Try.pinned (OpenSpec.ofChange fnExactUnionExprWrong)

/-- 'laws.FnExactStarExpr': WHATEVER THE INPUT: true; the input reads as it did. -/
def fnExactStarExprSpec : ChangeSpec := { name := "fnExactStarExpr", fn := fun _ => fun
  | [d] => { results := [.lit (.bool true)], args := [d] }
  | _ => none }
def fnExactStarExprRow : OpenClaim := { program := "ythnppgcmmabolaa", sum := "fc87f99a9627204c8c1f4fad7c2afb5238ad0d474ce71cc580adc32c032f8689", func := "loop.example/g01922/laws.FnExactStarExpr", spec := "fnExactStarExpr", apart := false }
def FnExactStarExprSaid : Prop := fnExactStarExprRow.holds Try.pinned (OpenSpec.ofChange fnExactStarExprSpec)

/-- ITS FALSE NEIGHBOUR: 'it returns false'. Refute it at one input. -/
def fnExactStarExprWrong : ChangeSpec := { name := "fnExactStarExpr", fn := fun _ => fun
  | [d] => { results := [.lit (.bool false)], args := [d] }
  | _ => none }
def FnExactStarExprWrongFalsely : Prop := fnExactStarExprRow.holds Try.pinned (OpenSpec.ofChange fnExactStarExprWrong)

/-- 'laws.FnExactRepeatExpr': WHATEVER THE INPUT: true; the input reads as it did. -/
def fnExactRepeatExprSpec : ChangeSpec := { name := "fnExactRepeatExpr", fn := fun _ => fun
  | [d1, d2, d3] => { results := [.lit (.bool true)], args := [d1, d2, d3] }
  | _ => none }
def fnExactRepeatExprRow : OpenClaim := { program := "ythnppgcmmabolaa", sum := "fc87f99a9627204c8c1f4fad7c2afb5238ad0d474ce71cc580adc32c032f8689", func := "loop.example/g01922/laws.FnExactRepeatExpr", spec := "fnExactRepeatExpr", apart := false }
def FnExactRepeatExprSaid : Prop := fnExactRepeatExprRow.holds Try.pinned (OpenSpec.ofChange fnExactRepeatExprSpec)

/-- ITS FALSE NEIGHBOUR: 'it returns false'. Refute it at one input. -/
def fnExactRepeatExprWrong : ChangeSpec := { name := "fnExactRepeatExpr", fn := fun _ => fun
  | [d1, d2, d3] => { results := [.lit (.bool false)], args := [d1, d2, d3] }
  | _ => none }
def FnExactRepeatExprWrongFalsely : Prop := fnExactRepeatExprRow.holds Try.pinned (OpenSpec.ofChange fnExactRepeatExprWrong)

/-- 'laws.FnExactEqualExprs': WHATEVER THE INPUT: true; the input reads as it did. -/
def fnExactEqualExprsSpec : ChangeSpec := { name := "fnExactEqualExprs", fn := fun _ => fun
  | [d1, d2] => { results := [.lit (.bool true)], args := [d1, d2] }
  | _ => none }
def fnExactEqualExprsRow : OpenClaim := { program := "ythnppgcmmabolaa", sum := "fc87f99a9627204c8c1f4fad7c2afb5238ad0d474ce71cc580adc32c032f8689", func := "loop.example/g01922/laws.FnExactEqualExprs", spec := "fnExactEqualExprs", apart := false }
def FnExactEqualExprsSaid : Prop := fnExactEqualExprsRow.holds Try.pinned (OpenSpec.ofChange fnExactEqualExprsSpec)

/-- ITS FALSE NEIGHBOUR: 'it returns false'. Refute it at one input. -/
def fnExactEqualExprsWrong : ChangeSpec := { name := "fnExactEqualExprs", fn := fun _ => fun
  | [d1, d2] => { results := [.lit (.bool false)], args := [d1, d2] }
  | _ => none }
def FnExactEqualExprsWrongFalsely : Prop := fnExactEqualExprsRow.holds Try.pinned (OpenSpec.ofChange fnExactEqualExprsWrong)

/- THE SECOND FORM. 'bulk': how many values and letters a reading holds, each counted each time it is reached (what is shared counts as often as it is met; a slice's spare places count too). A statement '..UptoSaid' is the law's where the arguments, and the package variables that the reading takes, are together of bulk at most 1048576: NARROWER than '..Said'. Prove '..Said' where nothing that the law and all that it calls make is longer than what came in: it says more and counts as full. Else prove '..UptoSaid'. A law counts once. -/
mutual
def uptoBulk {H : Type} : DataW H → Nat
  | .lit (.string bytes) => bytes.length + 1
  | .lit _ => 1
  | .nil => 1
  | .ptr d => uptoBulk d + 1
  | .slice elems spare => uptoBulkAll elems + uptoBulkAll spare + 1
  | .agg parts => uptoBulkAll parts + 1
  | .iface _ d => uptoBulk d + 1
  | .map entries => uptoBulkEntries entries + 1
  | .held _ => 1
def uptoBulkAll {H : Type} : List (DataW H) → Nat
  | [] => 0
  | d :: r => uptoBulk d + uptoBulkAll r
def uptoBulkEntries {H : Type} : List (Lit × DataW H) → Nat
  | [] => 0
  | x :: r => uptoBulkEntry x + uptoBulkEntries r
def uptoBulkEntry {H : Type} : Lit × DataW H → Nat
  | (.string bytes, d) => bytes.length + uptoBulk d + 1
  | (_, d) => uptoBulk d + 1
 end
def uptoSmall : (H : Type) → List (DataW H) → Bool := fun _ ds => decide (uptoBulkAll ds ≤ 1048576)
def OpenSpec.upto (s : _root_.Go.ChangeSpec) : _root_.Go.OpenSpec := { _root_.Go.OpenSpec.ofChange s with cond := some uptoSmall }

/-- 'laws.FnExactLetterExpr', WHERE WHAT IT READS IS OF BULK AT MOST 1048576: true; the input reads as it did. -/
def fnExactLetterExprUptoRow : OpenClaim := { program := "ythnppgcmmabolaa", sum := "fc87f99a9627204c8c1f4fad7c2afb5238ad0d474ce71cc580adc32c032f8689", func := "loop.example/g01922/laws.FnExactLetterExpr", spec := "fnExactLetterExpr", apart := false, narrowed := true }
def FnExactLetterExprUptoSaid : Prop := fnExactLetterExprUptoRow.holds Try.pinned (OpenSpec.upto fnExactLetterExprSpec)

/-- 'laws.FnExactConcatExpr', WHERE WHAT IT READS IS OF BULK AT MOST 1048576: true; the input reads as it did. -/
def fnExactConcatExprUptoRow : OpenClaim := { program := "ythnppgcmmabolaa", sum := "fc87f99a9627204c8c1f4fad7c2afb5238ad0d474ce71cc580adc32c032f8689", func := "loop.example/g01922/laws.FnExactConcatExpr", spec := "fnExactConcatExpr", apart := false, narrowed := true }
def FnExactConcatExprUptoSaid : Prop := fnExactConcatExprUptoRow.holds Try.pinned (OpenSpec.upto fnExactConcatExprSpec)

/-- 'laws.FnExactUnionExpr', WHERE WHAT IT READS IS OF BULK AT MOST 1048576: true; the input reads as it did. -/
def fnExactUnionExprUptoRow : OpenClaim := { program := "ythnppgcmmabolaa", sum := "fc87f99a9627204c8c1f4fad7c2afb5238ad0d474ce71cc580adc32c032f8689", func := "loop.example/g01922/laws.FnExactUnionExpr", spec := "fnExactUnionExpr", apart := false, narrowed := true }
def FnExactUnionExprUptoSaid : Prop := fnExactUnionExprUptoRow.holds Try.pinned (OpenSpec.upto fnExactUnionExprSpec)

/-- 'laws.FnExactStarExpr', WHERE WHAT IT READS IS OF BULK AT MOST 1048576: true; the input reads as it did. -/
def fnExactStarExprUptoRow : OpenClaim := { program := "ythnppgcmmabolaa", sum := "fc87f99a9627204c8c1f4fad7c2afb5238ad0d474ce71cc580adc32c032f8689", func := "loop.example/g01922/laws.FnExactStarExpr", spec := "fnExactStarExpr", apart := false, narrowed := true }
def FnExactStarExprUptoSaid : Prop := fnExactStarExprUptoRow.holds Try.pinned (OpenSpec.upto fnExactStarExprSpec)

/-- 'laws.FnExactRepeatExpr', WHERE WHAT IT READS IS OF BULK AT MOST 1048576: true; the input reads as it did. -/
def fnExactRepeatExprUptoRow : OpenClaim := { program := "ythnppgcmmabolaa", sum := "fc87f99a9627204c8c1f4fad7c2afb5238ad0d474ce71cc580adc32c032f8689", func := "loop.example/g01922/laws.FnExactRepeatExpr", spec := "fnExactRepeatExpr", apart := false, narrowed := true }
def FnExactRepeatExprUptoSaid : Prop := fnExactRepeatExprUptoRow.holds Try.pinned (OpenSpec.upto fnExactRepeatExprSpec)

/-- 'laws.FnExactEqualExprs', WHERE WHAT IT READS IS OF BULK AT MOST 1048576: true; the input reads as it did. -/
def fnExactEqualExprsUptoRow : OpenClaim := { program := "ythnppgcmmabolaa", sum := "fc87f99a9627204c8c1f4fad7c2afb5238ad0d474ce71cc580adc32c032f8689", func := "loop.example/g01922/laws.FnExactEqualExprs", spec := "fnExactEqualExprs", apart := false, narrowed := true }
def FnExactEqualExprsUptoSaid : Prop := fnExactEqualExprsUptoRow.holds Try.pinned (OpenSpec.upto fnExactEqualExprsSpec)

end Rows
end Go.Proofs.Ythnppgcmmabolaa
