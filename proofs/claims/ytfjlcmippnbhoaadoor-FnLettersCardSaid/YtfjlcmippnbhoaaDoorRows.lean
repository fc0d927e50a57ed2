/-
  NARROWER THAN 'FOR EVERY INPUT', by the rows' own cells (each row's printed sentence says how): FnLetters: laid · FnExactFormatLetter: laid · FnExactParseLetter: laid · FnExactFormatWord: laid · FnExactParseWord: laid.
  DERIVED. THE GIVEN ROWS OF THIS SEAT. 5 by the template 'for every input the law returns true; each argument reads behind the call as it read before'; 0 by the template 'total and deterministic' (their statements: YtfjlcmippnbhoaaDoorTotals.lean).
  GIVEN WITH THE SEED: the statements are not yours to turn. If you find one false, say at which input.
  Laid BY PROGRAM, IN A SANDBOX (cutbox-rows.mjs): the forced cells as the released guide's own fill.sh prints them over the translation c8e5d44553a6f5f9… (all of the seat's roots in one cut). By AI agents, Wed Nov 11 2026. No macro, syntax, notation, axiom, sorry.
-/
import Derived.Test.YtfjlcmippnbhoaaDoorChecked
import GoSem.PinnedTables
import GoSem.Claim
import GoSem.ClaimJoined
import GoSem.ClaimMapViews
import Derived.JoinedTies
import Derived.KernelRfl
namespace Go.Proofs.YtfjlcmippnbhoaaDoor
/- THE CELL 'sum', in the pinned program and in every row, IS THE sha256 OF THE DUMP (.gsa) THAT YtfjlcmippnbhoaaDoorProg.lean LOADS. Nothing in Lean hashes anything: it is a label: what it is worth is what the hold of that sum in a sandbox is worth. -/
noncomputable def Tryd.pinned : Pinned := { name := "ytfjlcmippnbhoaadoor", sum := "c8e5d44553a6f5f96bf12f6613a95c76efaab342b5bfbd2ae255bb427a812a01", checked := Tryd.checked }
namespace Rows
def none {H : Type} : Left H := { results := [], args := [] }

/- WHAT THE LISTED PACKAGE-LEVEL VARIABLES READ AS WHEN THE CALL BEGINS. Each datum BY PROGRAM (the guide's laid-datum.mjs) off the statement by which the dump's own 'gosem.cut.vars' lays the variable. In a bare row this is a premise. The card (YtfjlcmippnbhoaaDoorCards.lean) ties it to the program's text. -/
def laid_unicode_utf8_acceptRanges {H : Type} : DataW H := .agg [.agg [.lit (.int .u8 128), .lit (.int .u8 191)], .agg [.lit (.int .u8 160), .lit (.int .u8 191)], .agg [.lit (.int .u8 128), .lit (.int .u8 159)], .agg [.lit (.int .u8 144), .lit (.int .u8 191)], .agg [.lit (.int .u8 128), .lit (.int .u8 143)], .agg [.lit (.int .u8 0), .lit (.int .u8 0)], .agg [.lit (.int .u8 0), .lit (.int .u8 0)], .agg [.lit (.int .u8 0), .lit (.int .u8 0)], .agg [.lit (.int .u8 0), .lit (.int .u8 0)], .agg [.lit (.int .u8 0), .lit (.int .u8 0)], .agg [.lit (.int .u8 0), .lit (.int .u8 0)], .agg [.lit (.int .u8 0), .lit (.int .u8 0)], .agg [.lit (.int .u8 0), .lit (.int .u8 0)], .agg [.lit (.int .u8 0), .lit (.int .u8 0)], .agg [.lit (.int .u8 0), .lit (.int .u8 0)], .agg [.lit (.int .u8 0), .lit (.int .u8 0)]]
def laid_loop_example_g01922_impl_letterFormats {H : Type} : DataW H := .agg [.agg [.lit (.int .u8 97), .lit (.int .u8 0)], .agg [.lit (.int .u8 97), .lit (.int .u8 45)], .agg [.lit (.int .u8 98), .lit (.int .u8 0)], .agg [.lit (.int .u8 98), .lit (.int .u8 45)], .agg [.lit (.int .u8 99), .lit (.int .u8 0)], .agg [.lit (.int .u8 99), .lit (.int .u8 45)], .agg [.lit (.int .u8 48), .lit (.int .u8 0)], .agg [.lit (.int .u8 49), .lit (.int .u8 0)], .agg [.lit (.int .u8 50), .lit (.int .u8 0)]]
/-- One of Go's own tables, pinned by name: the form's constant. -/
def laid_unicode_utf8_first : DataW Unit := Go.Pinned.utf8First

/-- 'laws.FnLetters': WHATEVER THE INPUT: true; the input reads as it did. -/
def fnLettersSpec : ChangeSpec := { name := "fnLetters", vars := ["loop.example/g01922/impl.letterFormats"], fn := fun _ => fun
  | [d, g1] => { results := [.lit (.bool true)], args := [d], vars := [g1] }
  | _ => none }
def fnLettersRow : OpenClaim := { program := "ytfjlcmippnbhoaadoor", sum := "c8e5d44553a6f5f96bf12f6613a95c76efaab342b5bfbd2ae255bb427a812a01", func := "loop.example/g01922/laws.FnLetters", spec := "fnLetters", inPlace := ["internal/bytealg.IndexByteString", "internal/bytealg.IndexString", "internal/abi.NoEscape", "internal/bytealg.MakeNoZero", "internal/bytealg.CountString"], named := ["loop.example/g01922/impl.letterFormats", "internal/bytealg.MaxLen", "unicode/utf8.first", "unicode/utf8.acceptRanges"], apart := false, laid := [("unicode/utf8.acceptRanges", laid_unicode_utf8_acceptRanges), ("loop.example/g01922/impl.letterFormats", laid_loop_example_g01922_impl_letterFormats), ("unicode/utf8.first", laid_unicode_utf8_first)] }
def FnLettersSaid : Prop := fnLettersRow.holds Tryd.pinned (OpenSpec.ofChange fnLettersSpec)

/-- ITS FALSE NEIGHBOUR: 'it returns false'. Refute it at one input. -/
def fnLettersWrong : ChangeSpec := { name := "fnLetters", vars := ["loop.example/g01922/impl.letterFormats"], fn := fun _ => fun
  | [d, g1] => { results := [.lit (.bool false)], args := [d], vars := [g1] }
  | _ => none }
def FnLettersWrongFalsely : Prop := fnLettersRow.holds Tryd.pinned (OpenSpec.ofChange fnLettersWrong)

/-- 'laws.FnExactFormatLetter': WHATEVER THE INPUT: true; the input reads as it did. -/
def fnExactFormatLetterSpec : ChangeSpec := { name := "fnExactFormatLetter", vars := ["loop.example/g01922/impl.letterFormats"], fn := fun _ => fun
  | [d, g1] => { results := [.lit (.bool true)], args := [d], vars := [g1] }
  | _ => none }
def fnExactFormatLetterRow : OpenClaim := { program := "ytfjlcmippnbhoaadoor", sum := "c8e5d44553a6f5f96bf12f6613a95c76efaab342b5bfbd2ae255bb427a812a01", func := "loop.example/g01922/laws.FnExactFormatLetter", spec := "fnExactFormatLetter", named := ["loop.example/g01922/impl.letterFormats"], apart := false, laid := [("loop.example/g01922/impl.letterFormats", laid_loop_example_g01922_impl_letterFormats)] }
def FnExactFormatLetterSaid : Prop := fnExactFormatLetterRow.holds Tryd.pinned (OpenSpec.ofChange fnExactFormatLetterSpec)

/-- ITS FALSE NEIGHBOUR: 'it returns false'. Refute it at one input. -/
def fnExactFormatLetterWrong : ChangeSpec := { name := "fnExactFormatLetter", vars := ["loop.example/g01922/impl.letterFormats"], fn := fun _ => fun
  | [d, g1] => { results := [.lit (.bool false)], args := [d], vars := [g1] }
  | _ => none }
def FnExactFormatLetterWrongFalsely : Prop := fnExactFormatLetterRow.holds Tryd.pinned (OpenSpec.ofChange fnExactFormatLetterWrong)

/-- 'laws.FnExactParseLetter': WHATEVER THE INPUT: true; the input reads as it did. -/
def fnExactParseLetterSpec : ChangeSpec := { name := "fnExactParseLetter", vars := ["loop.example/g01922/impl.letterFormats"], fn := fun _ => fun
  | [d, g1] => { results := [.lit (.bool true)], args := [d], vars := [g1] }
  | _ => none }
def fnExactParseLetterRow : OpenClaim := { program := "ytfjlcmippnbhoaadoor", sum := "c8e5d44553a6f5f96bf12f6613a95c76efaab342b5bfbd2ae255bb427a812a01", func := "loop.example/g01922/laws.FnExactParseLetter", spec := "fnExactParseLetter", inPlace := ["internal/bytealg.IndexByteString", "internal/bytealg.IndexString"], named := ["loop.example/g01922/impl.letterFormats", "internal/bytealg.MaxLen"], apart := false, laid := [("loop.example/g01922/impl.letterFormats", laid_loop_example_g01922_impl_letterFormats)] }
def FnExactParseLetterSaid : Prop := fnExactParseLetterRow.holds Tryd.pinned (OpenSpec.ofChange fnExactParseLetterSpec)

/-- ITS FALSE NEIGHBOUR: 'it returns false'. Refute it at one input. -/
def fnExactParseLetterWrong : ChangeSpec := { name := "fnExactParseLetter", vars := ["loop.example/g01922/impl.letterFormats"], fn := fun _ => fun
  | [d, g1] => { results := [.lit (.bool false)], args := [d], vars := [g1] }
  | _ => none }
def FnExactParseLetterWrongFalsely : Prop := fnExactParseLetterRow.holds Tryd.pinned (OpenSpec.ofChange fnExactParseLetterWrong)

/-- 'laws.FnExactFormatWord': WHATEVER THE INPUT: true; the input reads as it did. -/
def fnExactFormatWordSpec : ChangeSpec := { name := "fnExactFormatWord", vars := ["loop.example/g01922/impl.letterFormats"], fn := fun _ => fun
  | [d, g1] => { results := [.lit (.bool true)], args := [d], vars := [g1] }
  | _ => none }
def fnExactFormatWordRow : OpenClaim := { program := "ytfjlcmippnbhoaadoor", sum := "c8e5d44553a6f5f96bf12f6613a95c76efaab342b5bfbd2ae255bb427a812a01", func := "loop.example/g01922/laws.FnExactFormatWord", spec := "fnExactFormatWord", inPlace := ["internal/abi.NoEscape", "internal/bytealg.MakeNoZero"], named := ["loop.example/g01922/impl.letterFormats"], apart := false, laid := [("loop.example/g01922/impl.letterFormats", laid_loop_example_g01922_impl_letterFormats)] }
def FnExactFormatWordSaid : Prop := fnExactFormatWordRow.holds Tryd.pinned (OpenSpec.ofChange fnExactFormatWordSpec)

/-- ITS FALSE NEIGHBOUR: 'it returns false'. Refute it at one input. -/
def fnExactFormatWordWrong : ChangeSpec := { name := "fnExactFormatWord", vars := ["loop.example/g01922/impl.letterFormats"], fn := fun _ => fun
  | [d, g1] => { results := [.lit (.bool false)], args := [d], vars := [g1] }
  | _ => none }
def FnExactFormatWordWrongFalsely : Prop := fnExactFormatWordRow.holds Tryd.pinned (OpenSpec.ofChange fnExactFormatWordWrong)

/-- 'laws.FnExactParseWord': WHATEVER THE INPUT: true; the input reads as it did. -/
def fnExactParseWordSpec : ChangeSpec := { name := "fnExactParseWord", vars := ["loop.example/g01922/impl.letterFormats"], fn := fun _ => fun
  | [d, g1] => { results := [.lit (.bool true)], args := [d], vars := [g1] }
  | _ => none }
def fnExactParseWordRow : OpenClaim := { program := "ytfjlcmippnbhoaadoor", sum := "c8e5d44553a6f5f96bf12f6613a95c76efaab342b5bfbd2ae255bb427a812a01", func := "loop.example/g01922/laws.FnExactParseWord", spec := "fnExactParseWord", inPlace := ["internal/bytealg.CountString", "internal/bytealg.IndexByteString", "internal/bytealg.IndexString"], named := ["unicode/utf8.first", "unicode/utf8.acceptRanges", "internal/bytealg.MaxLen", "loop.example/g01922/impl.letterFormats"], apart := false, laid := [("unicode/utf8.acceptRanges", laid_unicode_utf8_acceptRanges), ("loop.example/g01922/impl.letterFormats", laid_loop_example_g01922_impl_letterFormats), ("unicode/utf8.first", laid_unicode_utf8_first)] }
def FnExactParseWordSaid : Prop := fnExactParseWordRow.holds Tryd.pinned (OpenSpec.ofChange fnExactParseWordSpec)

/-- ITS FALSE NEIGHBOUR: 'it returns false'. Refute it at one input. -/
def fnExactParseWordWrong : ChangeSpec := { name := "fnExactParseWord", vars := ["loop.example/g01922/impl.letterFormats"], fn := fun _ => fun
  | [d, g1] => { results := [.lit (.bool false)], args := [d], vars := [g1] }
  | _ => none }
def FnExactParseWordWrongFalsely : Prop := fnExactParseWordRow.holds Tryd.pinned (OpenSpec.ofChange fnExactParseWordWrong)

/- THE SECOND FORM. 'bulk': how many values and letters a reading holds, each counted each time it is reached (what is shared counts as often as it is met; a slice's spare places count too). A statement '..UptoSaid' is the law's where the arguments, and the package variables that the reading takes, are together of bulk at most 1048576: NARROWER than '..Said'. Prove '..Said' where nothing that the law and all that it calls make is longer than what came in: it says more and counts as full. Else prove '..UptoSaid'. A law counts once. -/
mutual
def uptoBulk {H : Type} : DataW H → Nat
  | .lit (.string bytes) => bytes.length + 1
  | .lit _ => 1
  | .nil => 1
  | .ptr d => uptoBulk d + 1
  | .slice elems spare => uptoBulkAll elems + uptoBulkAll spare + 1
  | .agg parts => uptoBulkAll parts + 1
  | .iface _ d => uptoBulk d + 1
  | .map entries => uptoBulkEntries entries + 1
  | .held _ => 1
def uptoBulkAll {H : Type} : List (DataW H) → Nat
  | [] => 0
  | d :: r => uptoBulk d + uptoBulkAll r
def uptoBulkEntries {H : Type} : List (Lit × DataW H) → Nat
  | [] => 0
  | x :: r => uptoBulkEntry x + uptoBulkEntries r
def uptoBulkEntry {H : Type} : Lit × DataW H → Nat
  | (.string bytes, d) => bytes.length + uptoBulk d + 1
  | (_, d) => uptoBulk d + 1
 end
def uptoSmall : (H : Type) → List (DataW H) → Bool := fun _ ds => decide (uptoBulkAll ds ≤ 1048576)
def OpenSpec.upto (s : _root_.Go.ChangeSpec) : _root_.Go.OpenSpec := { _root_.Go.OpenSpec.ofChange s with cond := some uptoSmall }

/-- 'laws.FnLetters', WHERE WHAT IT READS IS OF BULK AT MOST 1048576: true; the input reads as it did. -/
def fnLettersUptoRow : OpenClaim := { program := "ytfjlcmippnbhoaadoor", sum := "c8e5d44553a6f5f96bf12f6613a95c76efaab342b5bfbd2ae255bb427a812a01", func := "loop.example/g01922/laws.FnLetters", spec := "fnLetters", inPlace := ["internal/bytealg.IndexByteString", "internal/bytealg.IndexString", "internal/abi.NoEscape", "internal/bytealg.MakeNoZero", "internal/bytealg.CountString"], named := ["loop.example/g01922/impl.letterFormats", "internal/bytealg.MaxLen", "unicode/utf8.first", "unicode/utf8.acceptRanges"], apart := false, laid := [("unicode/utf8.acceptRanges", laid_unicode_utf8_acceptRanges), ("loop.example/g01922/impl.letterFormats", laid_loop_example_g01922_impl_letterFormats), ("unicode/utf8.first", laid_unicode_utf8_first)], narrowed := true }
def FnLettersUptoSaid : Prop := fnLettersUptoRow.holds Tryd.pinned (OpenSpec.upto fnLettersSpec)

/-- 'laws.FnExactFormatLetter', WHERE WHAT IT READS IS OF BULK AT MOST 1048576: true; the input reads as it did. -/
def fnExactFormatLetterUptoRow : OpenClaim := { program := "ytfjlcmippnbhoaadoor", sum := "c8e5d44553a6f5f96bf12f6613a95c76efaab342b5bfbd2ae255bb427a812a01", func := "loop.example/g01922/laws.FnExactFormatLetter", spec := "fnExactFormatLetter", named := ["loop.example/g01922/impl.letterFormats"], apart := false, laid := [("loop.example/g01922/impl.letterFormats", laid_loop_example_g01922_impl_letterFormats)], narrowed := true }
def FnExactFormatLetterUptoSaid : Prop := fnExactFormatLetterUptoRow.holds Tryd.pinned (OpenSpec.upto fnExactFormatLetterSpec)

/-- 'laws.FnExactParseLetter', WHERE WHAT IT READS IS OF BULK AT MOST 1048576: true; the input reads as it did. -/
def fnExactParseLetterUptoRow : OpenClaim := { program := "ytfjlcmippnbhoaadoor", sum := "c8e5d44553a6f5f96bf12f6613a95c76efaab342b5bfbd2ae255bb427a812a01", func := "loop.example/g01922/laws.FnExactParseLetter", spec := "fnExactParseLetter", inPlace := ["internal/bytealg.IndexByteString", "internal/bytealg.IndexString"], named := ["loop.example/g01922/impl.letterFormats", "internal/bytealg.MaxLen"], apart := false, laid := [("loop.example/g01922/impl.letterFormats", laid_loop_example_g01922_impl_letterFormats)], narrowed := true }
def FnExactParseLetterUptoSaid : Prop := fnExactParseLetterUptoRow.holds Tryd.pinned (OpenSpec.upto fnExactParseLetterSpec)

/-- 'laws.FnExactFormatWord', WHERE WHAT IT READS IS OF BULK AT MOST 1048576: true; the input reads as it did. -/
def fnExactFormatWordUptoRow : OpenClaim := { program := "ytfjlcmippnbhoaadoor", sum := "c8e5d44553a6f5f96bf12f6613a95c76efaab342b5bfbd2ae255bb427a812a01", func := "loop.example/g01922/laws.FnExactFormatWord", spec := "fnExactFormatWord", inPlace := ["internal/abi.NoEscape", "internal/bytealg.MakeNoZero"], named := ["loop.example/g01922/impl.letterFormats"], apart := false, laid := [("loop.example/g01922/impl.letterFormats", laid_loop_example_g01922_impl_letterFormats)], narrowed := true }
def FnExactFormatWordUptoSaid : Prop := fnExactFormatWordUptoRow.holds Tryd.pinned (OpenSpec.upto fnExactFormatWordSpec)

/-- 'laws.FnExactParseWord', WHERE WHAT IT READS IS OF BULK AT MOST 1048576: true; the input reads as it did. -/
def fnExactParseWordUptoRow : OpenClaim := { program := "ytfjlcmippnbhoaadoor", sum := "c8e5d44553a6f5f96bf12f6613a95c76efaab342b5bfbd2ae255bb427a812a01", func := "loop.example/g01922/laws.FnExactParseWord", spec := "fnExactParseWord", inPlace := ["internal/bytealg.CountString", "internal/bytealg.IndexByteString", "internal/bytealg.IndexString"], named := ["unicode/utf8.first", "unicode/utf8.acceptRanges", "internal/bytealg.MaxLen", "loop.example/g01922/impl.letterFormats"], apart := false, laid := [("unicode/utf8.acceptRanges", laid_unicode_utf8_acceptRanges), ("loop.example/g01922/impl.letterFormats", laid_loop_example_g01922_impl_letterFormats), ("unicode/utf8.first", laid_unicode_utf8_first)], narrowed := true }
def FnExactParseWordUptoSaid : Prop := fnExactParseWordUptoRow.holds Tryd.pinned (OpenSpec.upto fnExactParseWordSpec)

end Rows
end Go.Proofs.YtfjlcmippnbhoaaDoor
