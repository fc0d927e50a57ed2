/-
  DERIVED. GIVEN WITH THE SEED: THE CARDS: each row of YtiojgahjfndmdaaDoorRows.lean that lists a variable, with what it lists TIED to the program's text (the seventh form; the later family's looks); each row that meets fmt, with fmt's text TOLD by the authors' own Lean function (tested against real Go, not proved from fmt's source: count such statements apart). THE CARD IS WHAT COUNTS. Prove the row's statement (the work); the ties are given (YtiojgahjfndmdaaDoorTie.lean); close each card by the builder's one call (the guide's Derived/Test/ToyasCard.lean, 'card_holds'). Laid BY PROGRAM, IN A SANDBOX (cutbox-door.mjs). By AI agents, Wed Nov 11 2026. No macro, syntax, notation, axiom, sorry.
-/
import Derived.Test.YtiojgahjfndmdaaDoorRows
import GoSem.ClaimSeven
namespace Go.Proofs.YtiojgahjfndmdaaDoor
namespace Rows

/-- THE TIED CARD OF 'laws.FnConstructors'. -/
def fnConstructorsCard : Claim7 := { stood := { row := fnConstructorsRow, standIns := [], harness := (true, "094cb7c2f002f57ce03a4029df873bee8872a2be96bc72a1cee3bd91594b3691"), looks := false }, kinds := [], alts := [], laidByText := true, laidKinds := [.data], laidTests := true, laidLooks := .later }
def FnConstructorsCardSaid : Prop := Claim7.holds Tryd.pinned (.plain (OpenSpec.ofChange fnConstructorsSpec)) fnConstructorsCard

/-- THE TIED CARD OF 'laws.FnDerivatives'. -/
def fnDerivativesCard : Claim7 := { stood := { row := fnDerivativesRow, standIns := [], harness := (true, "094cb7c2f002f57ce03a4029df873bee8872a2be96bc72a1cee3bd91594b3691"), looks := false }, kinds := [], alts := [], laidByText := true, laidKinds := [.data], laidTests := true, laidLooks := .later }
def FnDerivativesCardSaid : Prop := Claim7.holds Tryd.pinned (.plain (OpenSpec.ofChange fnDerivativesSpec)) fnDerivativesCard

/-- THE TIED CARD OF 'laws.FnWords'. -/
def fnWordsCard : Claim7 := { stood := { row := fnWordsRow, standIns := [], harness := (true, "094cb7c2f002f57ce03a4029df873bee8872a2be96bc72a1cee3bd91594b3691"), looks := false }, kinds := [], alts := [], laidByText := true, laidKinds := [.data], laidTests := true, laidLooks := .later }
def FnWordsCardSaid : Prop := Claim7.holds Tryd.pinned (.plain (OpenSpec.ofChange fnWordsSpec)) fnWordsCard

/-- THE TIED CARD OF 'laws.FnExactNullable'. -/
def fnExactNullableCard : Claim7 := { stood := { row := fnExactNullableRow, standIns := [], harness := (true, "094cb7c2f002f57ce03a4029df873bee8872a2be96bc72a1cee3bd91594b3691"), looks := false }, kinds := [], alts := [], laidByText := true, laidKinds := [.data], laidTests := true, laidLooks := .later }
def FnExactNullableCardSaid : Prop := Claim7.holds Tryd.pinned (.plain (OpenSpec.ofChange fnExactNullableSpec)) fnExactNullableCard

/-- THE TIED CARD OF 'laws.FnExactDerivative'. -/
def fnExactDerivativeCard : Claim7 := { stood := { row := fnExactDerivativeRow, standIns := [], harness := (true, "094cb7c2f002f57ce03a4029df873bee8872a2be96bc72a1cee3bd91594b3691"), looks := false }, kinds := [], alts := [], laidByText := true, laidKinds := [.data], laidTests := true, laidLooks := .later }
def FnExactDerivativeCardSaid : Prop := Claim7.holds Tryd.pinned (.plain (OpenSpec.ofChange fnExactDerivativeSpec)) fnExactDerivativeCard

/-- THE TIED CARD OF 'laws.FnExactDerivativeWord'. -/
def fnExactDerivativeWordCard : Claim7 := { stood := { row := fnExactDerivativeWordRow, standIns := [], harness := (true, "094cb7c2f002f57ce03a4029df873bee8872a2be96bc72a1cee3bd91594b3691"), looks := false }, kinds := [], alts := [], laidByText := true, laidKinds := [.data], laidTests := true, laidLooks := .later }
def FnExactDerivativeWordCardSaid : Prop := Claim7.holds Tryd.pinned (.plain (OpenSpec.ofChange fnExactDerivativeWordSpec)) fnExactDerivativeWordCard

/-- THE TIED CARD OF 'laws.FnExactMatchesWord'. -/
def fnExactMatchesWordCard : Claim7 := { stood := { row := fnExactMatchesWordRow, standIns := [], harness := (true, "094cb7c2f002f57ce03a4029df873bee8872a2be96bc72a1cee3bd91594b3691"), looks := false }, kinds := [], alts := [], laidByText := true, laidKinds := [.data], laidTests := true, laidLooks := .later }
def FnExactMatchesWordCardSaid : Prop := Claim7.holds Tryd.pinned (.plain (OpenSpec.ofChange fnExactMatchesWordSpec)) fnExactMatchesWordCard

/-- THE TIED CARD OF 'laws.FnExactWordsUpTo'. -/
def fnExactWordsUpToCard : Claim7 := { stood := { row := fnExactWordsUpToRow, standIns := [], harness := (true, "094cb7c2f002f57ce03a4029df873bee8872a2be96bc72a1cee3bd91594b3691"), looks := false }, kinds := [], alts := [], laidByText := true, laidKinds := [.data], laidTests := true, laidLooks := .later }
def FnExactWordsUpToCardSaid : Prop := Claim7.holds Tryd.pinned (.plain (OpenSpec.ofChange fnExactWordsUpToSpec)) fnExactWordsUpToCard

/-- THE TIED CARD OF 'laws.FnExactAlphabet'. -/
def fnExactAlphabetCard : Claim7 := { stood := { row := fnExactAlphabetRow, standIns := [], harness := (true, "094cb7c2f002f57ce03a4029df873bee8872a2be96bc72a1cee3bd91594b3691"), looks := false }, kinds := [], alts := [], laidByText := true, laidKinds := [.data], laidTests := true, laidLooks := .later }
def FnExactAlphabetCardSaid : Prop := Claim7.holds Tryd.pinned (.plain (OpenSpec.ofChange fnExactAlphabetSpec)) fnExactAlphabetCard

/-- THE SECOND FORM's CARD OF 'laws.FnConstructors'. -/
def fnConstructorsUptoCard : Claim7 := { stood := { row := fnConstructorsUptoRow, standIns := [], harness := (true, "094cb7c2f002f57ce03a4029df873bee8872a2be96bc72a1cee3bd91594b3691"), looks := false }, kinds := [], alts := [], laidByText := true, laidKinds := [.data], laidTests := true, laidLooks := .later }
def FnConstructorsUptoCardSaid : Prop := Claim7.holds Tryd.pinned (.plain (OpenSpec.upto fnConstructorsSpec)) fnConstructorsUptoCard

/-- THE SECOND FORM's CARD OF 'laws.FnDerivatives'. -/
def fnDerivativesUptoCard : Claim7 := { stood := { row := fnDerivativesUptoRow, standIns := [], harness := (true, "094cb7c2f002f57ce03a4029df873bee8872a2be96bc72a1cee3bd91594b3691"), looks := false }, kinds := [], alts := [], laidByText := true, laidKinds := [.data], laidTests := true, laidLooks := .later }
def FnDerivativesUptoCardSaid : Prop := Claim7.holds Tryd.pinned (.plain (OpenSpec.upto fnDerivativesSpec)) fnDerivativesUptoCard

/-- THE SECOND FORM's CARD OF 'laws.FnWords'. -/
def fnWordsUptoCard : Claim7 := { stood := { row := fnWordsUptoRow, standIns := [], harness := (true, "094cb7c2f002f57ce03a4029df873bee8872a2be96bc72a1cee3bd91594b3691"), looks := false }, kinds := [], alts := [], laidByText := true, laidKinds := [.data], laidTests := true, laidLooks := .later }
def FnWordsUptoCardSaid : Prop := Claim7.holds Tryd.pinned (.plain (OpenSpec.upto fnWordsSpec)) fnWordsUptoCard

/-- THE SECOND FORM's CARD OF 'laws.FnExactNullable'. -/
def fnExactNullableUptoCard : Claim7 := { stood := { row := fnExactNullableUptoRow, standIns := [], harness := (true, "094cb7c2f002f57ce03a4029df873bee8872a2be96bc72a1cee3bd91594b3691"), looks := false }, kinds := [], alts := [], laidByText := true, laidKinds := [.data], laidTests := true, laidLooks := .later }
def FnExactNullableUptoCardSaid : Prop := Claim7.holds Tryd.pinned (.plain (OpenSpec.upto fnExactNullableSpec)) fnExactNullableUptoCard

/-- THE SECOND FORM's CARD OF 'laws.FnExactDerivative'. -/
def fnExactDerivativeUptoCard : Claim7 := { stood := { row := fnExactDerivativeUptoRow, standIns := [], harness := (true, "094cb7c2f002f57ce03a4029df873bee8872a2be96bc72a1cee3bd91594b3691"), looks := false }, kinds := [], alts := [], laidByText := true, laidKinds := [.data], laidTests := true, laidLooks := .later }
def FnExactDerivativeUptoCardSaid : Prop := Claim7.holds Tryd.pinned (.plain (OpenSpec.upto fnExactDerivativeSpec)) fnExactDerivativeUptoCard

/-- THE SECOND FORM's CARD OF 'laws.FnExactDerivativeWord'. -/
def fnExactDerivativeWordUptoCard : Claim7 := { stood := { row := fnExactDerivativeWordUptoRow, standIns := [], harness := (true, "094cb7c2f002f57ce03a4029df873bee8872a2be96bc72a1cee3bd91594b3691"), looks := false }, kinds := [], alts := [], laidByText := true, laidKinds := [.data], laidTests := true, laidLooks := .later }
def FnExactDerivativeWordUptoCardSaid : Prop := Claim7.holds Tryd.pinned (.plain (OpenSpec.upto fnExactDerivativeWordSpec)) fnExactDerivativeWordUptoCard

/-- THE SECOND FORM's CARD OF 'laws.FnExactMatchesWord'. -/
def fnExactMatchesWordUptoCard : Claim7 := { stood := { row := fnExactMatchesWordUptoRow, standIns := [], harness := (true, "094cb7c2f002f57ce03a4029df873bee8872a2be96bc72a1cee3bd91594b3691"), looks := false }, kinds := [], alts := [], laidByText := true, laidKinds := [.data], laidTests := true, laidLooks := .later }
def FnExactMatchesWordUptoCardSaid : Prop := Claim7.holds Tryd.pinned (.plain (OpenSpec.upto fnExactMatchesWordSpec)) fnExactMatchesWordUptoCard

/-- THE SECOND FORM's CARD OF 'laws.FnExactWordsUpTo'. -/
def fnExactWordsUpToUptoCard : Claim7 := { stood := { row := fnExactWordsUpToUptoRow, standIns := [], harness := (true, "094cb7c2f002f57ce03a4029df873bee8872a2be96bc72a1cee3bd91594b3691"), looks := false }, kinds := [], alts := [], laidByText := true, laidKinds := [.data], laidTests := true, laidLooks := .later }
def FnExactWordsUpToUptoCardSaid : Prop := Claim7.holds Tryd.pinned (.plain (OpenSpec.upto fnExactWordsUpToSpec)) fnExactWordsUpToUptoCard

/-- THE SECOND FORM's CARD OF 'laws.FnExactAlphabet'. -/
def fnExactAlphabetUptoCard : Claim7 := { stood := { row := fnExactAlphabetUptoRow, standIns := [], harness := (true, "094cb7c2f002f57ce03a4029df873bee8872a2be96bc72a1cee3bd91594b3691"), looks := false }, kinds := [], alts := [], laidByText := true, laidKinds := [.data], laidTests := true, laidLooks := .later }
def FnExactAlphabetUptoCardSaid : Prop := Claim7.holds Tryd.pinned (.plain (OpenSpec.upto fnExactAlphabetSpec)) fnExactAlphabetUptoCard
end Rows
end Go.Proofs.YtiojgahjfndmdaaDoor
