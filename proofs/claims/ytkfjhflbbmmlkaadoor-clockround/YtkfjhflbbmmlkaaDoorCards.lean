/-
  DERIVED. GIVEN WITH THE SEED: THE CARDS: each row of YtkfjhflbbmmlkaaDoorRows.lean that lists a variable, with what it lists TIED to the program's text (the seventh form; the later family's looks); each row that meets fmt, with fmt's text TOLD by the authors' own Lean function (tested against real Go, not proved from fmt's source: count such statements apart). THE CARD IS WHAT COUNTS. Prove the row's statement (the work); the ties are given (YtkfjhflbbmmlkaaDoorTie.lean); close each card by the builder's one call (the guide's Derived/Test/ToyasCard.lean, 'card_holds'). Laid BY PROGRAM, IN A SANDBOX (cutbox-door.mjs). By AI agents, Wed Nov 11 2026. No macro, syntax, notation, axiom, sorry.
-/
import Derived.Test.YtkfjhflbbmmlkaaDoorRows
import GoSem.ClaimSeven
namespace Go.Proofs.YtkfjhflbbmmlkaaDoor
namespace Rows

/-- THE TIED CARD OF 'almanackeep.ClockRound'. -/
def clockRoundCard : Claim7 := { stood := { row := clockRoundRow, standIns := [], harness := (true, "72e8fad207208ea006797ee5159e9ea58afc6062a8f910e6bc98329eac95d8bc"), looks := true }, kinds := [], alts := [], laidByText := true, laidKinds := [.handle], laidTests := true, laidLooks := .later }
def ClockRoundCardSaid : Prop := Claim7.holds Tryd.pinned (.plain (OpenSpec.ofChange clockRoundSpec)) clockRoundCard

/-- THE SECOND FORM's CARD OF 'almanackeep.ClockRound'. -/
def clockRoundUptoCard : Claim7 := { stood := { row := clockRoundUptoRow, standIns := [], harness := (true, "72e8fad207208ea006797ee5159e9ea58afc6062a8f910e6bc98329eac95d8bc"), looks := true }, kinds := [], alts := [], laidByText := true, laidKinds := [.handle], laidTests := true, laidLooks := .later }
def ClockRoundUptoCardSaid : Prop := Claim7.holds Tryd.pinned (.plain (OpenSpec.upto clockRoundSpec)) clockRoundUptoCard
end Rows
end Go.Proofs.YtkfjhflbbmmlkaaDoor
