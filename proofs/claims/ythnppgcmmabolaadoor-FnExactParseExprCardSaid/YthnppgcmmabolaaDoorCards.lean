/-
  DERIVED. GIVEN WITH THE SEED: THE CARDS: each row of YthnppgcmmabolaaDoorRows.lean that lists a variable, with what it lists TIED to the program's text (the seventh form; the later family's looks); each row that meets fmt, with fmt's text TOLD by the authors' own Lean function (tested against real Go, not proved from fmt's source: count such statements apart). THE CARD IS WHAT COUNTS. Prove the row's statement (the work); the ties are given (YthnppgcmmabolaaDoorTie.lean); close each card by the builder's one call (the guide's Derived/Test/ToyasCard.lean, 'card_holds'). Laid BY PROGRAM, IN A SANDBOX (cutbox-door.mjs). By AI agents, Wed Nov 11 2026. No macro, syntax, notation, axiom, sorry.
-/
import Derived.Test.YthnppgcmmabolaaDoorRows
import GoSem.ClaimSeven
namespace Go.Proofs.YthnppgcmmabolaaDoor
namespace Rows

/-- THE TIED CARD OF 'laws.FnExactIsExpr'. -/
def fnExactIsExprCard : Claim7 := { stood := { row := fnExactIsExprRow, standIns := [], harness := (true, "83d48bdaac8463400d8cd16cceed455060398c314f2c1fe12fd310cc85fde0ce"), looks := false }, kinds := [], alts := [], laidByText := true, laidKinds := [.data], laidTests := true, laidLooks := .later }
def FnExactIsExprCardSaid : Prop := Claim7.holds Tryd.pinned (.plain (OpenSpec.ofChange fnExactIsExprSpec)) fnExactIsExprCard

/-- THE TIED CARD OF 'laws.FnExactIsValidExpr'. -/
def fnExactIsValidExprCard : Claim7 := { stood := { row := fnExactIsValidExprRow, standIns := [], harness := (true, "83d48bdaac8463400d8cd16cceed455060398c314f2c1fe12fd310cc85fde0ce"), looks := false }, kinds := [], alts := [], laidByText := true, laidKinds := [.data], laidTests := true, laidLooks := .later }
def FnExactIsValidExprCardSaid : Prop := Claim7.holds Tryd.pinned (.plain (OpenSpec.ofChange fnExactIsValidExprSpec)) fnExactIsValidExprCard

/-- THE TIED CARD OF 'laws.FnExactSplitExpr'. -/
def fnExactSplitExprCard : Claim7 := { stood := { row := fnExactSplitExprRow, standIns := [], harness := (true, "83d48bdaac8463400d8cd16cceed455060398c314f2c1fe12fd310cc85fde0ce"), looks := false }, kinds := [], alts := [], laidByText := true, laidKinds := [.data], laidTests := true, laidLooks := .later }
def FnExactSplitExprCardSaid : Prop := Claim7.holds Tryd.pinned (.plain (OpenSpec.ofChange fnExactSplitExprSpec)) fnExactSplitExprCard

/-- THE TIED CARD OF 'laws.FnExactReverseExpr'. -/
def fnExactReverseExprCard : Claim7 := { stood := { row := fnExactReverseExprRow, standIns := [], harness := (true, "83d48bdaac8463400d8cd16cceed455060398c314f2c1fe12fd310cc85fde0ce"), looks := false }, kinds := [], alts := [], laidByText := true, laidKinds := [.data], laidTests := true, laidLooks := .later }
def FnExactReverseExprCardSaid : Prop := Claim7.holds Tryd.pinned (.plain (OpenSpec.ofChange fnExactReverseExprSpec)) fnExactReverseExprCard

/-- THE TIED CARD OF 'laws.FnExactFormatExpr'. -/
def fnExactFormatExprCard : Claim7 := { stood := { row := fnExactFormatExprRow, standIns := [], harness := (true, "83d48bdaac8463400d8cd16cceed455060398c314f2c1fe12fd310cc85fde0ce"), looks := false }, kinds := [], alts := [], laidByText := true, laidKinds := [.data, .data, .data, .data, .data], laidTests := true, laidLooks := .later }
def FnExactFormatExprCardSaid : Prop := Claim7.holds Tryd.pinned (.plain (OpenSpec.ofChange fnExactFormatExprSpec)) fnExactFormatExprCard

/-- THE TIED CARD OF 'laws.FnExactParseExpr'. -/
def fnExactParseExprCard : Claim7 := { stood := { row := fnExactParseExprRow, standIns := [], harness := (true, "83d48bdaac8463400d8cd16cceed455060398c314f2c1fe12fd310cc85fde0ce"), looks := false }, kinds := [], alts := [], laidByText := true, laidKinds := [.data, .data, .data, .data, .data, .data, .pinned], laidTests := true, laidLooks := .later }
def FnExactParseExprCardSaid : Prop := Claim7.holds Tryd.pinned (.plain (OpenSpec.ofChange fnExactParseExprSpec)) fnExactParseExprCard

/-- THE SECOND FORM's CARD OF 'laws.FnExactIsExpr'. -/
def fnExactIsExprUptoCard : Claim7 := { stood := { row := fnExactIsExprUptoRow, standIns := [], harness := (true, "83d48bdaac8463400d8cd16cceed455060398c314f2c1fe12fd310cc85fde0ce"), looks := false }, kinds := [], alts := [], laidByText := true, laidKinds := [.data], laidTests := true, laidLooks := .later }
def FnExactIsExprUptoCardSaid : Prop := Claim7.holds Tryd.pinned (.plain (OpenSpec.upto fnExactIsExprSpec)) fnExactIsExprUptoCard

/-- THE SECOND FORM's CARD OF 'laws.FnExactIsValidExpr'. -/
def fnExactIsValidExprUptoCard : Claim7 := { stood := { row := fnExactIsValidExprUptoRow, standIns := [], harness := (true, "83d48bdaac8463400d8cd16cceed455060398c314f2c1fe12fd310cc85fde0ce"), looks := false }, kinds := [], alts := [], laidByText := true, laidKinds := [.data], laidTests := true, laidLooks := .later }
def FnExactIsValidExprUptoCardSaid : Prop := Claim7.holds Tryd.pinned (.plain (OpenSpec.upto fnExactIsValidExprSpec)) fnExactIsValidExprUptoCard

/-- THE SECOND FORM's CARD OF 'laws.FnExactSplitExpr'. -/
def fnExactSplitExprUptoCard : Claim7 := { stood := { row := fnExactSplitExprUptoRow, standIns := [], harness := (true, "83d48bdaac8463400d8cd16cceed455060398c314f2c1fe12fd310cc85fde0ce"), looks := false }, kinds := [], alts := [], laidByText := true, laidKinds := [.data], laidTests := true, laidLooks := .later }
def FnExactSplitExprUptoCardSaid : Prop := Claim7.holds Tryd.pinned (.plain (OpenSpec.upto fnExactSplitExprSpec)) fnExactSplitExprUptoCard

/-- THE SECOND FORM's CARD OF 'laws.FnExactReverseExpr'. -/
def fnExactReverseExprUptoCard : Claim7 := { stood := { row := fnExactReverseExprUptoRow, standIns := [], harness := (true, "83d48bdaac8463400d8cd16cceed455060398c314f2c1fe12fd310cc85fde0ce"), looks := false }, kinds := [], alts := [], laidByText := true, laidKinds := [.data], laidTests := true, laidLooks := .later }
def FnExactReverseExprUptoCardSaid : Prop := Claim7.holds Tryd.pinned (.plain (OpenSpec.upto fnExactReverseExprSpec)) fnExactReverseExprUptoCard

/-- THE SECOND FORM's CARD OF 'laws.FnExactFormatExpr'. -/
def fnExactFormatExprUptoCard : Claim7 := { stood := { row := fnExactFormatExprUptoRow, standIns := [], harness := (true, "83d48bdaac8463400d8cd16cceed455060398c314f2c1fe12fd310cc85fde0ce"), looks := false }, kinds := [], alts := [], laidByText := true, laidKinds := [.data, .data, .data, .data, .data], laidTests := true, laidLooks := .later }
def FnExactFormatExprUptoCardSaid : Prop := Claim7.holds Tryd.pinned (.plain (OpenSpec.upto fnExactFormatExprSpec)) fnExactFormatExprUptoCard

/-- THE SECOND FORM's CARD OF 'laws.FnExactParseExpr'. -/
def fnExactParseExprUptoCard : Claim7 := { stood := { row := fnExactParseExprUptoRow, standIns := [], harness := (true, "83d48bdaac8463400d8cd16cceed455060398c314f2c1fe12fd310cc85fde0ce"), looks := false }, kinds := [], alts := [], laidByText := true, laidKinds := [.data, .data, .data, .data, .data, .data, .pinned], laidTests := true, laidLooks := .later }
def FnExactParseExprUptoCardSaid : Prop := Claim7.holds Tryd.pinned (.plain (OpenSpec.upto fnExactParseExprSpec)) fnExactParseExprUptoCard
end Rows
end Go.Proofs.YthnppgcmmabolaaDoor
