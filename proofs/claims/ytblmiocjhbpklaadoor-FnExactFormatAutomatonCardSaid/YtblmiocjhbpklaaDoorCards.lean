/-
  DERIVED. GIVEN WITH THE SEED: THE CARDS: each row of YtblmiocjhbpklaaDoorRows.lean that lists a variable, with what it lists TIED to the program's text (the seventh form; the later family's looks); each row that meets fmt, with fmt's text TOLD by the authors' own Lean function (tested against real Go, not proved from fmt's source: count such statements apart). THE CARD IS WHAT COUNTS. Prove the row's statement (the work); the ties are given (YtblmiocjhbpklaaDoorTie.lean); close each card by the builder's one call (the guide's Derived/Test/ToyasCard.lean, 'card_holds'). Laid BY PROGRAM, IN A SANDBOX (cutbox-door.mjs). By AI agents, Wed Nov 11 2026. No macro, syntax, notation, axiom, sorry.
-/
import Derived.Test.YtblmiocjhbpklaaDoorRows
import GoSem.ClaimSeven
namespace Go.Proofs.YtblmiocjhbpklaaDoor
namespace Rows

/-- THE TIED CARD OF 'laws.FnWords'. -/
def fnWordsCard : Claim7 := { stood := { row := fnWordsRow, standIns := [], harness := (true, "5f6cf893a798f1d8f9a5b71893b5ff9ed107a0035ebd39819fb99edb4f19c74e"), looks := false }, kinds := [], alts := [], laidByText := true, laidKinds := [.data], laidTests := true, laidLooks := .later }
def FnWordsCardSaid : Prop := Claim7.holds Tryd.pinned (.plain (OpenSpec.ofChange fnWordsSpec)) fnWordsCard

/-- THE TIED CARD OF 'laws.FnPositions'. -/
def fnPositionsCard : Claim7 := { stood := { row := fnPositionsRow, standIns := [], harness := (true, "5f6cf893a798f1d8f9a5b71893b5ff9ed107a0035ebd39819fb99edb4f19c74e"), looks := false }, kinds := [], alts := [], laidByText := true, laidKinds := [.data], laidTests := true, laidLooks := .later }
def FnPositionsCardSaid : Prop := Claim7.holds Tryd.pinned (.plain (OpenSpec.ofChange fnPositionsSpec)) fnPositionsCard

/-- THE TIED CARD OF 'laws.FnExactWordsUpTo'. -/
def fnExactWordsUpToCard : Claim7 := { stood := { row := fnExactWordsUpToRow, standIns := [], harness := (true, "5f6cf893a798f1d8f9a5b71893b5ff9ed107a0035ebd39819fb99edb4f19c74e"), looks := false }, kinds := [], alts := [], laidByText := true, laidKinds := [.data], laidTests := true, laidLooks := .later }
def FnExactWordsUpToCardSaid : Prop := Claim7.holds Tryd.pinned (.plain (OpenSpec.ofChange fnExactWordsUpToSpec)) fnExactWordsUpToCard

/-- THE TIED CARD OF 'laws.FnExactBuildPositions'. -/
def fnExactBuildPositionsCard : Claim7 := { stood := { row := fnExactBuildPositionsRow, standIns := [], harness := (true, "5f6cf893a798f1d8f9a5b71893b5ff9ed107a0035ebd39819fb99edb4f19c74e"), looks := false }, kinds := [], alts := [], laidByText := true, laidKinds := [.data], laidTests := true, laidLooks := .later }
def FnExactBuildPositionsCardSaid : Prop := Claim7.holds Tryd.pinned (.plain (OpenSpec.ofChange fnExactBuildPositionsSpec)) fnExactBuildPositionsCard

/-- THE TIED CARD OF 'laws.FnExactFormatAutomaton'. -/
def fnExactFormatAutomatonCard : Claim7 := { stood := { row := fnExactFormatAutomatonRow, standIns := [], harness := (true, "5f6cf893a798f1d8f9a5b71893b5ff9ed107a0035ebd39819fb99edb4f19c74e"), looks := false }, kinds := [], alts := [], laidByText := true, laidKinds := [.data, .data, .data, .data], laidTests := true, laidLooks := .later }
def FnExactFormatAutomatonCardSaid : Prop := Claim7.holds Tryd.pinned (.plain (OpenSpec.ofChange fnExactFormatAutomatonSpec)) fnExactFormatAutomatonCard

/-- THE SECOND FORM's CARD OF 'laws.FnWords'. -/
def fnWordsUptoCard : Claim7 := { stood := { row := fnWordsUptoRow, standIns := [], harness := (true, "5f6cf893a798f1d8f9a5b71893b5ff9ed107a0035ebd39819fb99edb4f19c74e"), looks := false }, kinds := [], alts := [], laidByText := true, laidKinds := [.data], laidTests := true, laidLooks := .later }
def FnWordsUptoCardSaid : Prop := Claim7.holds Tryd.pinned (.plain (OpenSpec.upto fnWordsSpec)) fnWordsUptoCard

/-- THE SECOND FORM's CARD OF 'laws.FnPositions'. -/
def fnPositionsUptoCard : Claim7 := { stood := { row := fnPositionsUptoRow, standIns := [], harness := (true, "5f6cf893a798f1d8f9a5b71893b5ff9ed107a0035ebd39819fb99edb4f19c74e"), looks := false }, kinds := [], alts := [], laidByText := true, laidKinds := [.data], laidTests := true, laidLooks := .later }
def FnPositionsUptoCardSaid : Prop := Claim7.holds Tryd.pinned (.plain (OpenSpec.upto fnPositionsSpec)) fnPositionsUptoCard

/-- THE SECOND FORM's CARD OF 'laws.FnExactWordsUpTo'. -/
def fnExactWordsUpToUptoCard : Claim7 := { stood := { row := fnExactWordsUpToUptoRow, standIns := [], harness := (true, "5f6cf893a798f1d8f9a5b71893b5ff9ed107a0035ebd39819fb99edb4f19c74e"), looks := false }, kinds := [], alts := [], laidByText := true, laidKinds := [.data], laidTests := true, laidLooks := .later }
def FnExactWordsUpToUptoCardSaid : Prop := Claim7.holds Tryd.pinned (.plain (OpenSpec.upto fnExactWordsUpToSpec)) fnExactWordsUpToUptoCard

/-- THE SECOND FORM's CARD OF 'laws.FnExactBuildPositions'. -/
def fnExactBuildPositionsUptoCard : Claim7 := { stood := { row := fnExactBuildPositionsUptoRow, standIns := [], harness := (true, "5f6cf893a798f1d8f9a5b71893b5ff9ed107a0035ebd39819fb99edb4f19c74e"), looks := false }, kinds := [], alts := [], laidByText := true, laidKinds := [.data], laidTests := true, laidLooks := .later }
def FnExactBuildPositionsUptoCardSaid : Prop := Claim7.holds Tryd.pinned (.plain (OpenSpec.upto fnExactBuildPositionsSpec)) fnExactBuildPositionsUptoCard

/-- THE SECOND FORM's CARD OF 'laws.FnExactFormatAutomaton'. -/
def fnExactFormatAutomatonUptoCard : Claim7 := { stood := { row := fnExactFormatAutomatonUptoRow, standIns := [], harness := (true, "5f6cf893a798f1d8f9a5b71893b5ff9ed107a0035ebd39819fb99edb4f19c74e"), looks := false }, kinds := [], alts := [], laidByText := true, laidKinds := [.data, .data, .data, .data], laidTests := true, laidLooks := .later }
def FnExactFormatAutomatonUptoCardSaid : Prop := Claim7.holds Tryd.pinned (.plain (OpenSpec.upto fnExactFormatAutomatonSpec)) fnExactFormatAutomatonUptoCard
end Rows
end Go.Proofs.YtblmiocjhbpklaaDoor
