/-
  DERIVED. GIVEN WITH THE SEED: THE CARDS: each row of YtdbedoediicmhaaDoorRows.lean that lists a variable, with what it lists TIED to the program's text (the seventh form; the later family's looks); each row that meets fmt, with fmt's text TOLD by the authors' own Lean function (tested against real Go, not proved from fmt's source: count such statements apart). THE CARD IS WHAT COUNTS. Prove the row's statement (the work); the ties are given (YtdbedoediicmhaaDoorTie.lean); close each card by the builder's one call (the guide's Derived/Test/ToyasCard.lean, 'card_holds'). Laid BY PROGRAM, IN A SANDBOX (cutbox-door.mjs). By AI agents, Wed Nov 11 2026. No macro, syntax, notation, axiom, sorry.
-/
import Derived.Test.YtdbedoediicmhaaDoorRows
import GoSem.ClaimSeven
namespace Go.Proofs.YtdbedoediicmhaaDoor
namespace Rows

/-- THE TIED CARD OF 'laws.FnExactFormatBatch'. -/
def fnExactFormatBatchCard : Claim7 := { stood := { row := fnExactFormatBatchRow, standIns := [], harness := (true, "708d188a7c763d033fd29ba9da06acada6f2eba0b1eec43b0ce182ce438fed1d"), looks := false }, kinds := [], alts := [], laidByText := true, laidKinds := [.data, .data, .data, .data], laidTests := true, laidLooks := .later }
def FnExactFormatBatchCardSaid : Prop := Claim7.holds Tryd.pinned (.plain (OpenSpec.ofChange fnExactFormatBatchSpec)) fnExactFormatBatchCard

/-- THE TIED CARD OF 'laws.FnExactParseBatch'. -/
def fnExactParseBatchCard : Claim7 := { stood := { row := fnExactParseBatchRow, standIns := [], harness := (true, "708d188a7c763d033fd29ba9da06acada6f2eba0b1eec43b0ce182ce438fed1d"), looks := false }, kinds := [], alts := [], laidByText := true, laidKinds := [.data, .data, .data, .data, .data, .pinned], laidTests := true, laidLooks := .later }
def FnExactParseBatchCardSaid : Prop := Claim7.holds Tryd.pinned (.plain (OpenSpec.ofChange fnExactParseBatchSpec)) fnExactParseBatchCard

/-- THE SECOND FORM's CARD OF 'laws.FnExactFormatBatch'. -/
def fnExactFormatBatchUptoCard : Claim7 := { stood := { row := fnExactFormatBatchUptoRow, standIns := [], harness := (true, "708d188a7c763d033fd29ba9da06acada6f2eba0b1eec43b0ce182ce438fed1d"), looks := false }, kinds := [], alts := [], laidByText := true, laidKinds := [.data, .data, .data, .data], laidTests := true, laidLooks := .later }
def FnExactFormatBatchUptoCardSaid : Prop := Claim7.holds Tryd.pinned (.plain (OpenSpec.upto fnExactFormatBatchSpec)) fnExactFormatBatchUptoCard

/-- THE SECOND FORM's CARD OF 'laws.FnExactParseBatch'. -/
def fnExactParseBatchUptoCard : Claim7 := { stood := { row := fnExactParseBatchUptoRow, standIns := [], harness := (true, "708d188a7c763d033fd29ba9da06acada6f2eba0b1eec43b0ce182ce438fed1d"), looks := false }, kinds := [], alts := [], laidByText := true, laidKinds := [.data, .data, .data, .data, .data, .pinned], laidTests := true, laidLooks := .later }
def FnExactParseBatchUptoCardSaid : Prop := Claim7.holds Tryd.pinned (.plain (OpenSpec.upto fnExactParseBatchSpec)) fnExactParseBatchUptoCard
end Rows
end Go.Proofs.YtdbedoediicmhaaDoor
