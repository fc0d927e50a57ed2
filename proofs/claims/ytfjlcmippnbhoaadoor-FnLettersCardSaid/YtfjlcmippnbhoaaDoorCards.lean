/-
  DERIVED. GIVEN WITH THE SEED: THE CARDS: each row of YtfjlcmippnbhoaaDoorRows.lean that lists a variable, with what it lists TIED to the program's text (the seventh form; the later family's looks); each row that meets fmt, with fmt's text TOLD by the authors' own Lean function (tested against real Go, not proved from fmt's source: count such statements apart). THE CARD IS WHAT COUNTS. Prove the row's statement (the work); the ties are given (YtfjlcmippnbhoaaDoorTie.lean); close each card by the builder's one call (the guide's Derived/Test/ToyasCard.lean, 'card_holds'). Laid BY PROGRAM, IN A SANDBOX (cutbox-door.mjs). By AI agents, Wed Nov 11 2026. No macro, syntax, notation, axiom, sorry.
-/
import Derived.Test.YtfjlcmippnbhoaaDoorRows
import GoSem.ClaimSeven
namespace Go.Proofs.YtfjlcmippnbhoaaDoor
namespace Rows

/-- THE TIED CARD OF 'laws.FnLetters'. -/
def fnLettersCard : Claim7 := { stood := { row := fnLettersRow, standIns := [], harness := (true, "f764341dcc323a292d9dbe321492e5e8b362a25dabbd4e1f60c0c036a830e538"), looks := false }, kinds := [], alts := [], laidByText := true, laidKinds := [.data, .data, .pinned], laidTests := true, laidLooks := .later }
def FnLettersCardSaid : Prop := Claim7.holds Tryd.pinned (.plain (OpenSpec.ofChange fnLettersSpec)) fnLettersCard

/-- THE TIED CARD OF 'laws.FnExactFormatLetter'. -/
def fnExactFormatLetterCard : Claim7 := { stood := { row := fnExactFormatLetterRow, standIns := [], harness := (true, "f764341dcc323a292d9dbe321492e5e8b362a25dabbd4e1f60c0c036a830e538"), looks := false }, kinds := [], alts := [], laidByText := true, laidKinds := [.data], laidTests := true, laidLooks := .later }
def FnExactFormatLetterCardSaid : Prop := Claim7.holds Tryd.pinned (.plain (OpenSpec.ofChange fnExactFormatLetterSpec)) fnExactFormatLetterCard

/-- THE TIED CARD OF 'laws.FnExactParseLetter'. -/
def fnExactParseLetterCard : Claim7 := { stood := { row := fnExactParseLetterRow, standIns := [], harness := (true, "f764341dcc323a292d9dbe321492e5e8b362a25dabbd4e1f60c0c036a830e538"), looks := false }, kinds := [], alts := [], laidByText := true, laidKinds := [.data], laidTests := true, laidLooks := .later }
def FnExactParseLetterCardSaid : Prop := Claim7.holds Tryd.pinned (.plain (OpenSpec.ofChange fnExactParseLetterSpec)) fnExactParseLetterCard

/-- THE TIED CARD OF 'laws.FnExactFormatWord'. -/
def fnExactFormatWordCard : Claim7 := { stood := { row := fnExactFormatWordRow, standIns := [], harness := (true, "f764341dcc323a292d9dbe321492e5e8b362a25dabbd4e1f60c0c036a830e538"), looks := false }, kinds := [], alts := [], laidByText := true, laidKinds := [.data], laidTests := true, laidLooks := .later }
def FnExactFormatWordCardSaid : Prop := Claim7.holds Tryd.pinned (.plain (OpenSpec.ofChange fnExactFormatWordSpec)) fnExactFormatWordCard

/-- THE TIED CARD OF 'laws.FnExactParseWord'. -/
def fnExactParseWordCard : Claim7 := { stood := { row := fnExactParseWordRow, standIns := [], harness := (true, "f764341dcc323a292d9dbe321492e5e8b362a25dabbd4e1f60c0c036a830e538"), looks := false }, kinds := [], alts := [], laidByText := true, laidKinds := [.data, .data, .pinned], laidTests := true, laidLooks := .later }
def FnExactParseWordCardSaid : Prop := Claim7.holds Tryd.pinned (.plain (OpenSpec.ofChange fnExactParseWordSpec)) fnExactParseWordCard

/-- THE SECOND FORM's CARD OF 'laws.FnLetters'. -/
def fnLettersUptoCard : Claim7 := { stood := { row := fnLettersUptoRow, standIns := [], harness := (true, "f764341dcc323a292d9dbe321492e5e8b362a25dabbd4e1f60c0c036a830e538"), looks := false }, kinds := [], alts := [], laidByText := true, laidKinds := [.data, .data, .pinned], laidTests := true, laidLooks := .later }
def FnLettersUptoCardSaid : Prop := Claim7.holds Tryd.pinned (.plain (OpenSpec.upto fnLettersSpec)) fnLettersUptoCard

/-- THE SECOND FORM's CARD OF 'laws.FnExactFormatLetter'. -/
def fnExactFormatLetterUptoCard : Claim7 := { stood := { row := fnExactFormatLetterUptoRow, standIns := [], harness := (true, "f764341dcc323a292d9dbe321492e5e8b362a25dabbd4e1f60c0c036a830e538"), looks := false }, kinds := [], alts := [], laidByText := true, laidKinds := [.data], laidTests := true, laidLooks := .later }
def FnExactFormatLetterUptoCardSaid : Prop := Claim7.holds Tryd.pinned (.plain (OpenSpec.upto fnExactFormatLetterSpec)) fnExactFormatLetterUptoCard

/-- THE SECOND FORM's CARD OF 'laws.FnExactParseLetter'. -/
def fnExactParseLetterUptoCard : Claim7 := { stood := { row := fnExactParseLetterUptoRow, standIns := [], harness := (true, "f764341dcc323a292d9dbe321492e5e8b362a25dabbd4e1f60c0c036a830e538"), looks := false }, kinds := [], alts := [], laidByText := true, laidKinds := [.data], laidTests := true, laidLooks := .later }
def FnExactParseLetterUptoCardSaid : Prop := Claim7.holds Tryd.pinned (.plain (OpenSpec.upto fnExactParseLetterSpec)) fnExactParseLetterUptoCard

/-- THE SECOND FORM's CARD OF 'laws.FnExactFormatWord'. -/
def fnExactFormatWordUptoCard : Claim7 := { stood := { row := fnExactFormatWordUptoRow, standIns := [], harness := (true, "f764341dcc323a292d9dbe321492e5e8b362a25dabbd4e1f60c0c036a830e538"), looks := false }, kinds := [], alts := [], laidByText := true, laidKinds := [.data], laidTests := true, laidLooks := .later }
def FnExactFormatWordUptoCardSaid : Prop := Claim7.holds Tryd.pinned (.plain (OpenSpec.upto fnExactFormatWordSpec)) fnExactFormatWordUptoCard

/-- THE SECOND FORM's CARD OF 'laws.FnExactParseWord'. -/
def fnExactParseWordUptoCard : Claim7 := { stood := { row := fnExactParseWordUptoRow, standIns := [], harness := (true, "f764341dcc323a292d9dbe321492e5e8b362a25dabbd4e1f60c0c036a830e538"), looks := false }, kinds := [], alts := [], laidByText := true, laidKinds := [.data, .data, .pinned], laidTests := true, laidLooks := .later }
def FnExactParseWordUptoCardSaid : Prop := Claim7.holds Tryd.pinned (.plain (OpenSpec.upto fnExactParseWordSpec)) fnExactParseWordUptoCard
end Rows
end Go.Proofs.YtfjlcmippnbhoaaDoor
