/-
  NARROWER THAN 'FOR EVERY INPUT', by the rows' own cells (each row's printed sentence says how): FnConstructors: laid · FnDerivatives: laid · FnWords: laid · FnExactNullable: laid · FnExactDerivative: laid · FnExactDerivativeWord: laid · FnExactMatchesWord: laid · FnExactWordsUpTo: laid · FnExactAlphabet: laid.
  DERIVED. THE GIVEN ROWS OF THIS SEAT. 9 by the template 'for every input the law returns true; each argument reads behind the call as it read before'; 0 by the template 'total and deterministic' (their statements: YtiojgahjfndmdaaDoorTotals.lean).
  GIVEN WITH THE SEED: the statements are not yours to turn. If you find one false, say at which input.
  Laid BY PROGRAM, IN A SANDBOX (cutbox-rows.mjs): the forced cells as the released guide's own fill.sh prints them over the translation e978d9fcf09a6f65… (all of the seat's roots in one cut). By AI agents, Wed Nov 11 2026. No macro, syntax, notation, axiom, sorry.
-/
import Derived.Test.YtiojgahjfndmdaaDoorChecked
import GoSem.Claim
import GoSem.ClaimJoined
import GoSem.ClaimMapViews
import Derived.JoinedTies
import Derived.KernelRfl
namespace Go.Proofs.YtiojgahjfndmdaaDoor
/- THE CELL 'sum', in the pinned program and in every row, IS THE sha256 OF THE DUMP (.gsa) THAT YtiojgahjfndmdaaDoorProg.lean LOADS. Nothing in Lean hashes anything: it is a label: what it is worth is what the hold of that sum in a sandbox is worth. -/
noncomputable def Tryd.pinned : Pinned := { name := "ytiojgahjfndmdaadoor", sum := "e978d9fcf09a6f657768900c890cb3284f11df38a37e443f2795b7000699b017", checked := Tryd.checked }
namespace Rows
def none {H : Type} : Left H := { results := [], args := [] }

/- WHAT THE LISTED PACKAGE-LEVEL VARIABLES READ AS WHEN THE CALL BEGINS. Each datum BY PROGRAM (the guide's laid-datum.mjs) off the statement by which the dump's own 'gosem.cut.vars' lays the variable. In a bare row this is a premise. The card (YtiojgahjfndmdaaDoorCards.lean) ties it to the program's text. -/
def laid_loop_example_g01922_impl_tokenForms {H : Type} : DataW H := .agg [.agg [.lit (.int .i64 0), .lit (.string [])], .agg [.lit (.int .i64 0), .lit (.string [33])], .agg [.lit (.int .i64 0), .lit (.string [40, 41])], .agg [.lit (.int .i64 0), .lit (.string [])], .agg [.lit (.int .i64 2), .lit (.string [46])], .agg [.lit (.int .i64 2), .lit (.string [124])], .agg [.lit (.int .i64 1), .lit (.string [42])], .agg [.lit (.int .i64 1), .lit (.string [])]]

/-- 'laws.FnConstructors': WHATEVER THE INPUT: true; the input reads as it did. -/
def fnConstructorsSpec : ChangeSpec := { name := "fnConstructors", vars := ["loop.example/g01922/impl.tokenForms"], fn := fun _ => fun
  | [d, g1] => { results := [.lit (.bool true)], args := [d], vars := [g1] }
  | _ => none }
def fnConstructorsRow : OpenClaim := { program := "ytiojgahjfndmdaadoor", sum := "e978d9fcf09a6f657768900c890cb3284f11df38a37e443f2795b7000699b017", func := "loop.example/g01922/laws.FnConstructors", spec := "fnConstructors", recurses := true, named := ["loop.example/g01922/impl.tokenForms"], plainKeys := false, apart := false, laid := [("loop.example/g01922/impl.tokenForms", laid_loop_example_g01922_impl_tokenForms)] }
def FnConstructorsSaid : Prop := fnConstructorsRow.holds Tryd.pinned (OpenSpec.ofChange fnConstructorsSpec)

/-- ITS FALSE NEIGHBOUR: 'it returns false'. Refute it at one input. -/
def fnConstructorsWrong : ChangeSpec := { name := "fnConstructors", vars := ["loop.example/g01922/impl.tokenForms"], fn := fun _ => fun
  | [d, g1] => { results := [.lit (.bool false)], args := [d], vars := [g1] }
  | _ => none }
def FnConstructorsWrongFalsely : Prop := fnConstructorsRow.holds Tryd.pinned (OpenSpec.ofChange fnConstructorsWrong)

/-- 'laws.FnDerivatives': WHATEVER THE INPUT: true; the input reads as it did. -/
def fnDerivativesSpec : ChangeSpec := { name := "fnDerivatives", vars := ["loop.example/g01922/impl.tokenForms"], fn := fun _ => fun
  | [d, g1] => { results := [.lit (.bool true)], args := [d], vars := [g1] }
  | _ => none }
def fnDerivativesRow : OpenClaim := { program := "ytiojgahjfndmdaadoor", sum := "e978d9fcf09a6f657768900c890cb3284f11df38a37e443f2795b7000699b017", func := "loop.example/g01922/laws.FnDerivatives", spec := "fnDerivatives", recurses := true, named := ["loop.example/g01922/impl.tokenForms"], plainKeys := false, apart := false, laid := [("loop.example/g01922/impl.tokenForms", laid_loop_example_g01922_impl_tokenForms)] }
def FnDerivativesSaid : Prop := fnDerivativesRow.holds Tryd.pinned (OpenSpec.ofChange fnDerivativesSpec)

/-- ITS FALSE NEIGHBOUR: 'it returns false'. Refute it at one input. -/
def fnDerivativesWrong : ChangeSpec := { name := "fnDerivatives", vars := ["loop.example/g01922/impl.tokenForms"], fn := fun _ => fun
  | [d, g1] => { results := [.lit (.bool false)], args := [d], vars := [g1] }
  | _ => none }
def FnDerivativesWrongFalsely : Prop := fnDerivativesRow.holds Tryd.pinned (OpenSpec.ofChange fnDerivativesWrong)

/-- 'laws.FnWords': WHATEVER THE INPUT: true; the input reads as it did. -/
def fnWordsSpec : ChangeSpec := { name := "fnWords", vars := ["loop.example/g01922/impl.tokenForms"], fn := fun _ => fun
  | [d, g1] => { results := [.lit (.bool true)], args := [d], vars := [g1] }
  | _ => none }
def fnWordsRow : OpenClaim := { program := "ytiojgahjfndmdaadoor", sum := "e978d9fcf09a6f657768900c890cb3284f11df38a37e443f2795b7000699b017", func := "loop.example/g01922/laws.FnWords", spec := "fnWords", unfollowed := true, recurses := true, named := ["loop.example/g01922/impl.tokenForms"], plainKeys := false, apart := false, laid := [("loop.example/g01922/impl.tokenForms", laid_loop_example_g01922_impl_tokenForms)] }
def FnWordsSaid : Prop := fnWordsRow.holds Tryd.pinned (OpenSpec.ofChange fnWordsSpec)

/-- ITS FALSE NEIGHBOUR: 'it returns false'. Refute it at one input. -/
def fnWordsWrong : ChangeSpec := { name := "fnWords", vars := ["loop.example/g01922/impl.tokenForms"], fn := fun _ => fun
  | [d, g1] => { results := [.lit (.bool false)], args := [d], vars := [g1] }
  | _ => none }
def FnWordsWrongFalsely : Prop := fnWordsRow.holds Tryd.pinned (OpenSpec.ofChange fnWordsWrong)

/-- 'laws.FnExactNullable': WHATEVER THE INPUT: true; the input reads as it did. -/
def fnExactNullableSpec : ChangeSpec := { name := "fnExactNullable", vars := ["loop.example/g01922/impl.tokenForms"], fn := fun _ => fun
  | [d, g1] => { results := [.lit (.bool true)], args := [d], vars := [g1] }
  | _ => none }
def fnExactNullableRow : OpenClaim := { program := "ytiojgahjfndmdaadoor", sum := "e978d9fcf09a6f657768900c890cb3284f11df38a37e443f2795b7000699b017", func := "loop.example/g01922/laws.FnExactNullable", spec := "fnExactNullable", recurses := true, named := ["loop.example/g01922/impl.tokenForms"], plainKeys := false, apart := false, laid := [("loop.example/g01922/impl.tokenForms", laid_loop_example_g01922_impl_tokenForms)] }
def FnExactNullableSaid : Prop := fnExactNullableRow.holds Tryd.pinned (OpenSpec.ofChange fnExactNullableSpec)

/-- ITS FALSE NEIGHBOUR: 'it returns false'. Refute it at one input. -/
def fnExactNullableWrong : ChangeSpec := { name := "fnExactNullable", vars := ["loop.example/g01922/impl.tokenForms"], fn := fun _ => fun
  | [d, g1] => { results := [.lit (.bool false)], args := [d], vars := [g1] }
  | _ => none }
def FnExactNullableWrongFalsely : Prop := fnExactNullableRow.holds Tryd.pinned (OpenSpec.ofChange fnExactNullableWrong)

/-- 'laws.FnExactDerivative': WHATEVER THE INPUT: true; the input reads as it did. -/
def fnExactDerivativeSpec : ChangeSpec := { name := "fnExactDerivative", vars := ["loop.example/g01922/impl.tokenForms"], fn := fun _ => fun
  | [d1, d2, g1] => { results := [.lit (.bool true)], args := [d1, d2], vars := [g1] }
  | _ => none }
def fnExactDerivativeRow : OpenClaim := { program := "ytiojgahjfndmdaadoor", sum := "e978d9fcf09a6f657768900c890cb3284f11df38a37e443f2795b7000699b017", func := "loop.example/g01922/laws.FnExactDerivative", spec := "fnExactDerivative", recurses := true, named := ["loop.example/g01922/impl.tokenForms"], plainKeys := false, apart := false, laid := [("loop.example/g01922/impl.tokenForms", laid_loop_example_g01922_impl_tokenForms)] }
def FnExactDerivativeSaid : Prop := fnExactDerivativeRow.holds Tryd.pinned (OpenSpec.ofChange fnExactDerivativeSpec)

/-- ITS FALSE NEIGHBOUR: 'it returns false'. Refute it at one input. -/
def fnExactDerivativeWrong : ChangeSpec := { name := "fnExactDerivative", vars := ["loop.example/g01922/impl.tokenForms"], fn := fun _ => fun
  | [d1, d2, g1] => { results := [.lit (.bool false)], args := [d1, d2], vars := [g1] }
  | _ => none }
def FnExactDerivativeWrongFalsely : Prop := fnExactDerivativeRow.holds Tryd.pinned (OpenSpec.ofChange fnExactDerivativeWrong)

/-- 'laws.FnExactDerivativeWord': WHATEVER THE INPUT: true; the input reads as it did. -/
def fnExactDerivativeWordSpec : ChangeSpec := { name := "fnExactDerivativeWord", vars := ["loop.example/g01922/impl.tokenForms"], fn := fun _ => fun
  | [d1, d2, g1] => { results := [.lit (.bool true)], args := [d1, d2], vars := [g1] }
  | _ => none }
def fnExactDerivativeWordRow : OpenClaim := { program := "ytiojgahjfndmdaadoor", sum := "e978d9fcf09a6f657768900c890cb3284f11df38a37e443f2795b7000699b017", func := "loop.example/g01922/laws.FnExactDerivativeWord", spec := "fnExactDerivativeWord", recurses := true, named := ["loop.example/g01922/impl.tokenForms"], plainKeys := false, apart := false, laid := [("loop.example/g01922/impl.tokenForms", laid_loop_example_g01922_impl_tokenForms)] }
def FnExactDerivativeWordSaid : Prop := fnExactDerivativeWordRow.holds Tryd.pinned (OpenSpec.ofChange fnExactDerivativeWordSpec)

/-- ITS FALSE NEIGHBOUR: 'it returns false'. Refute it at one input. -/
def fnExactDerivativeWordWrong : ChangeSpec := { name := "fnExactDerivativeWord", vars := ["loop.example/g01922/impl.tokenForms"], fn := fun _ => fun
  | [d1, d2, g1] => { results := [.lit (.bool false)], args := [d1, d2], vars := [g1] }
  | _ => none }
def FnExactDerivativeWordWrongFalsely : Prop := fnExactDerivativeWordRow.holds Tryd.pinned (OpenSpec.ofChange fnExactDerivativeWordWrong)

/-- 'laws.FnExactMatchesWord': WHATEVER THE INPUT: true; the input reads as it did. -/
def fnExactMatchesWordSpec : ChangeSpec := { name := "fnExactMatchesWord", vars := ["loop.example/g01922/impl.tokenForms"], fn := fun _ => fun
  | [d1, d2, g1] => { results := [.lit (.bool true)], args := [d1, d2], vars := [g1] }
  | _ => none }
def fnExactMatchesWordRow : OpenClaim := { program := "ytiojgahjfndmdaadoor", sum := "e978d9fcf09a6f657768900c890cb3284f11df38a37e443f2795b7000699b017", func := "loop.example/g01922/laws.FnExactMatchesWord", spec := "fnExactMatchesWord", recurses := true, named := ["loop.example/g01922/impl.tokenForms"], plainKeys := false, apart := false, laid := [("loop.example/g01922/impl.tokenForms", laid_loop_example_g01922_impl_tokenForms)] }
def FnExactMatchesWordSaid : Prop := fnExactMatchesWordRow.holds Tryd.pinned (OpenSpec.ofChange fnExactMatchesWordSpec)

/-- ITS FALSE NEIGHBOUR: 'it returns false'. Refute it at one input. -/
def fnExactMatchesWordWrong : ChangeSpec := { name := "fnExactMatchesWord", vars := ["loop.example/g01922/impl.tokenForms"], fn := fun _ => fun
  | [d1, d2, g1] => { results := [.lit (.bool false)], args := [d1, d2], vars := [g1] }
  | _ => none }
def FnExactMatchesWordWrongFalsely : Prop := fnExactMatchesWordRow.holds Tryd.pinned (OpenSpec.ofChange fnExactMatchesWordWrong)

/-- 'laws.FnExactWordsUpTo': WHATEVER THE INPUT: true; the input reads as it did. -/
def fnExactWordsUpToSpec : ChangeSpec := { name := "fnExactWordsUpTo", vars := ["loop.example/g01922/impl.tokenForms"], fn := fun _ => fun
  | [d1, d2, g1] => { results := [.lit (.bool true)], args := [d1, d2], vars := [g1] }
  | _ => none }
def fnExactWordsUpToRow : OpenClaim := { program := "ytiojgahjfndmdaadoor", sum := "e978d9fcf09a6f657768900c890cb3284f11df38a37e443f2795b7000699b017", func := "loop.example/g01922/laws.FnExactWordsUpTo", spec := "fnExactWordsUpTo", unfollowed := true, recurses := true, named := ["loop.example/g01922/impl.tokenForms"], plainKeys := false, apart := false, laid := [("loop.example/g01922/impl.tokenForms", laid_loop_example_g01922_impl_tokenForms)] }
def FnExactWordsUpToSaid : Prop := fnExactWordsUpToRow.holds Tryd.pinned (OpenSpec.ofChange fnExactWordsUpToSpec)

/-- ITS FALSE NEIGHBOUR: 'it returns false'. Refute it at one input. -/
def fnExactWordsUpToWrong : ChangeSpec := { name := "fnExactWordsUpTo", vars := ["loop.example/g01922/impl.tokenForms"], fn := fun _ => fun
  | [d1, d2, g1] => { results := [.lit (.bool false)], args := [d1, d2], vars := [g1] }
  | _ => none }
def FnExactWordsUpToWrongFalsely : Prop := fnExactWordsUpToRow.holds Tryd.pinned (OpenSpec.ofChange fnExactWordsUpToWrong)

/-- 'laws.FnExactAlphabet': WHATEVER THE INPUT: true; the input reads as it did. -/
def fnExactAlphabetSpec : ChangeSpec := { name := "fnExactAlphabet", vars := ["loop.example/g01922/impl.tokenForms"], fn := fun _ => fun
  | [d, g1] => { results := [.lit (.bool true)], args := [d], vars := [g1] }
  | _ => none }
def fnExactAlphabetRow : OpenClaim := { program := "ytiojgahjfndmdaadoor", sum := "e978d9fcf09a6f657768900c890cb3284f11df38a37e443f2795b7000699b017", func := "loop.example/g01922/laws.FnExactAlphabet", spec := "fnExactAlphabet", named := ["loop.example/g01922/impl.tokenForms"], plainKeys := false, apart := false, laid := [("loop.example/g01922/impl.tokenForms", laid_loop_example_g01922_impl_tokenForms)] }
def FnExactAlphabetSaid : Prop := fnExactAlphabetRow.holds Tryd.pinned (OpenSpec.ofChange fnExactAlphabetSpec)

/-- ITS FALSE NEIGHBOUR: 'it returns false'. Refute it at one input. -/
def fnExactAlphabetWrong : ChangeSpec := { name := "fnExactAlphabet", vars := ["loop.example/g01922/impl.tokenForms"], fn := fun _ => fun
  | [d, g1] => { results := [.lit (.bool false)], args := [d], vars := [g1] }
  | _ => none }
def FnExactAlphabetWrongFalsely : Prop := fnExactAlphabetRow.holds Tryd.pinned (OpenSpec.ofChange fnExactAlphabetWrong)

/- THE SECOND FORM. 'bulk': how many values and letters a reading holds, each counted each time it is reached (what is shared counts as often as it is met; a slice's spare places count too). A statement '..UptoSaid' is the law's where the arguments, and the package variables that the reading takes, are together of bulk at most 1048576: NARROWER than '..Said'. Prove '..Said' where nothing that the law and all that it calls make is longer than what came in: it says more and counts as full. Else prove '..UptoSaid'. A law counts once. -/
mutual
def uptoBulk {H : Type} : DataW H → Nat
  | .lit (.string bytes) => bytes.length + 1
  | .lit _ => 1
  | .nil => 1
  | .ptr d => uptoBulk d + 1
  | .slice elems spare => uptoBulkAll elems + uptoBulkAll spare + 1
  | .agg parts => uptoBulkAll parts + 1
  | .iface _ d => uptoBulk d + 1
  | .map entries => uptoBulkEntries entries + 1
  | .held _ => 1
def uptoBulkAll {H : Type} : List (DataW H) → Nat
  | [] => 0
  | d :: r => uptoBulk d + uptoBulkAll r
def uptoBulkEntries {H : Type} : List (Lit × DataW H) → Nat
  | [] => 0
  | x :: r => uptoBulkEntry x + uptoBulkEntries r
def uptoBulkEntry {H : Type} : Lit × DataW H → Nat
  | (.string bytes, d) => bytes.length + uptoBulk d + 1
  | (_, d) => uptoBulk d + 1
 end
def uptoSmall : (H : Type) → List (DataW H) → Bool := fun _ ds => decide (uptoBulkAll ds ≤ 1048576)
def OpenSpec.upto (s : _root_.Go.ChangeSpec) : _root_.Go.OpenSpec := { _root_.Go.OpenSpec.ofChange s with cond := some uptoSmall }

/-- 'laws.FnConstructors', WHERE WHAT IT READS IS OF BULK AT MOST 1048576: true; the input reads as it did. -/
def fnConstructorsUptoRow : OpenClaim := { program := "ytiojgahjfndmdaadoor", sum := "e978d9fcf09a6f657768900c890cb3284f11df38a37e443f2795b7000699b017", func := "loop.example/g01922/laws.FnConstructors", spec := "fnConstructors", recurses := true, named := ["loop.example/g01922/impl.tokenForms"], plainKeys := false, apart := false, laid := [("loop.example/g01922/impl.tokenForms", laid_loop_example_g01922_impl_tokenForms)], narrowed := true }
def FnConstructorsUptoSaid : Prop := fnConstructorsUptoRow.holds Tryd.pinned (OpenSpec.upto fnConstructorsSpec)

/-- 'laws.FnDerivatives', WHERE WHAT IT READS IS OF BULK AT MOST 1048576: true; the input reads as it did. -/
def fnDerivativesUptoRow : OpenClaim := { program := "ytiojgahjfndmdaadoor", sum := "e978d9fcf09a6f657768900c890cb3284f11df38a37e443f2795b7000699b017", func := "loop.example/g01922/laws.FnDerivatives", spec := "fnDerivatives", recurses := true, named := ["loop.example/g01922/impl.tokenForms"], plainKeys := false, apart := false, laid := [("loop.example/g01922/impl.tokenForms", laid_loop_example_g01922_impl_tokenForms)], narrowed := true }
def FnDerivativesUptoSaid : Prop := fnDerivativesUptoRow.holds Tryd.pinned (OpenSpec.upto fnDerivativesSpec)

/-- 'laws.FnWords', WHERE WHAT IT READS IS OF BULK AT MOST 1048576: true; the input reads as it did. -/
def fnWordsUptoRow : OpenClaim := { program := "ytiojgahjfndmdaadoor", sum := "e978d9fcf09a6f657768900c890cb3284f11df38a37e443f2795b7000699b017", func := "loop.example/g01922/laws.FnWords", spec := "fnWords", unfollowed := true, recurses := true, named := ["loop.example/g01922/impl.tokenForms"], plainKeys := false, apart := false, laid := [("loop.example/g01922/impl.tokenForms", laid_loop_example_g01922_impl_tokenForms)], narrowed := true }
def FnWordsUptoSaid : Prop := fnWordsUptoRow.holds Tryd.pinned (OpenSpec.upto fnWordsSpec)

/-- 'laws.FnExactNullable', WHERE WHAT IT READS IS OF BULK AT MOST 1048576: true; the input reads as it did. -/
def fnExactNullableUptoRow : OpenClaim := { program := "ytiojgahjfndmdaadoor", sum := "e978d9fcf09a6f657768900c890cb3284f11df38a37e443f2795b7000699b017", func := "loop.example/g01922/laws.FnExactNullable", spec := "fnExactNullable", recurses := true, named := ["loop.example/g01922/impl.tokenForms"], plainKeys := false, apart := false, laid := [("loop.example/g01922/impl.tokenForms", laid_loop_example_g01922_impl_tokenForms)], narrowed := true }
def FnExactNullableUptoSaid : Prop := fnExactNullableUptoRow.holds Tryd.pinned (OpenSpec.upto fnExactNullableSpec)

/-- 'laws.FnExactDerivative', WHERE WHAT IT READS IS OF BULK AT MOST 1048576: true; the input reads as it did. -/
def fnExactDerivativeUptoRow : OpenClaim := { program := "ytiojgahjfndmdaadoor", sum := "e978d9fcf09a6f657768900c890cb3284f11df38a37e443f2795b7000699b017", func := "loop.example/g01922/laws.FnExactDerivative", spec := "fnExactDerivative", recurses := true, named := ["loop.example/g01922/impl.tokenForms"], plainKeys := false, apart := false, laid := [("loop.example/g01922/impl.tokenForms", laid_loop_example_g01922_impl_tokenForms)], narrowed := true }
def FnExactDerivativeUptoSaid : Prop := fnExactDerivativeUptoRow.holds Tryd.pinned (OpenSpec.upto fnExactDerivativeSpec)

/-- 'laws.FnExactDerivativeWord', WHERE WHAT IT READS IS OF BULK AT MOST 1048576: true; the input reads as it did. -/
def fnExactDerivativeWordUptoRow : OpenClaim := { program := "ytiojgahjfndmdaadoor", sum := "e978d9fcf09a6f657768900c890cb3284f11df38a37e443f2795b7000699b017", func := "loop.example/g01922/laws.FnExactDerivativeWord", spec := "fnExactDerivativeWord", recurses := true, named := ["loop.example/g01922/impl.tokenForms"], plainKeys := false, apart := false, laid := [("loop.example/g01922/impl.tokenForms", laid_loop_example_g01922_impl_tokenForms)], narrowed := true }
def FnExactDerivativeWordUptoSaid : Prop := fnExactDerivativeWordUptoRow.holds Tryd.pinned (OpenSpec.upto fnExactDerivativeWordSpec)

/-- 'laws.FnExactMatchesWord', WHERE WHAT IT READS IS OF BULK AT MOST 1048576: true; the input reads as it did. -/
def fnExactMatchesWordUptoRow : OpenClaim := { program := "ytiojgahjfndmdaadoor", sum := "e978d9fcf09a6f657768900c890cb3284f11df38a37e443f2795b7000699b017", func := "loop.example/g01922/laws.FnExactMatchesWord", spec := "fnExactMatchesWord", recurses := true, named := ["loop.example/g01922/impl.tokenForms"], plainKeys := false, apart := false, laid := [("loop.example/g01922/impl.tokenForms", laid_loop_example_g01922_impl_tokenForms)], narrowed := true }
def FnExactMatchesWordUptoSaid : Prop := fnExactMatchesWordUptoRow.holds Tryd.pinned (OpenSpec.upto fnExactMatchesWordSpec)

/-- 'laws.FnExactWordsUpTo', WHERE WHAT IT READS IS OF BULK AT MOST 1048576: true; the input reads as it did. -/
def fnExactWordsUpToUptoRow : OpenClaim := { program := "ytiojgahjfndmdaadoor", sum := "e978d9fcf09a6f657768900c890cb3284f11df38a37e443f2795b7000699b017", func := "loop.example/g01922/laws.FnExactWordsUpTo", spec := "fnExactWordsUpTo", unfollowed := true, recurses := true, named := ["loop.example/g01922/impl.tokenForms"], plainKeys := false, apart := false, laid := [("loop.example/g01922/impl.tokenForms", laid_loop_example_g01922_impl_tokenForms)], narrowed := true }
def FnExactWordsUpToUptoSaid : Prop := fnExactWordsUpToUptoRow.holds Tryd.pinned (OpenSpec.upto fnExactWordsUpToSpec)

/-- 'laws.FnExactAlphabet', WHERE WHAT IT READS IS OF BULK AT MOST 1048576: true; the input reads as it did. -/
def fnExactAlphabetUptoRow : OpenClaim := { program := "ytiojgahjfndmdaadoor", sum := "e978d9fcf09a6f657768900c890cb3284f11df38a37e443f2795b7000699b017", func := "loop.example/g01922/laws.FnExactAlphabet", spec := "fnExactAlphabet", named := ["loop.example/g01922/impl.tokenForms"], plainKeys := false, apart := false, laid := [("loop.example/g01922/impl.tokenForms", laid_loop_example_g01922_impl_tokenForms)], narrowed := true }
def FnExactAlphabetUptoSaid : Prop := fnExactAlphabetUptoRow.holds Tryd.pinned (OpenSpec.upto fnExactAlphabetSpec)

end Rows
end Go.Proofs.YtiojgahjfndmdaaDoor
