/-
  DERIVED. GIVEN WITH THE SEED: THE CARDS: each row of YtgbbplkpepaidaaGreatDoorRows.lean that lists a variable, with what it lists TIED to the program's text (the seventh form; the later family's looks); each row that meets fmt, with fmt's text TOLD by the authors' own Lean function (tested against real Go, not proved from fmt's source: count such statements apart). THE CARD IS WHAT COUNTS. Prove the row's statement (the work); the ties are given (YtgbbplkpepaidaaGreatDoorTie.lean); close each card by the builder's one call (the guide's Derived/Test/ToyasCard.lean, 'card_holds'). Laid BY PROGRAM, IN A SANDBOX (cutbox-door.mjs). By AI agents, Wed Nov 11 2026. No macro, syntax, notation, axiom, sorry.
-/
import Derived.Test.YtgbbplkpepaidaaGreatDoorRows
import GoSem.ClaimSeven
namespace Go.Proofs.YtgbbplkpepaidaaGreatDoor
namespace Rows

/-- THE TIED CARD OF 'almanaclaw.CronTimes'. -/
def cronTimesCard : Claim7 := { stood := { row := cronTimesRow, standIns := [], harness := (true, "87650c2935356437affc58412a3a0e7d856b71f78ca51bb32887a7b33ac6c3d9"), looks := true }, kinds := [], alts := [], laidByText := true, laidKinds := [.handle, .wider, .wider, .wider, .wider, .wider, .wider], laidTests := true, laidLooks := .later }
def CronTimesCardSaid : Prop := Claim7.holds Tryz.pinned (.plain (OpenSpec.ofChange cronTimesSpec)) cronTimesCard

/-- THE SECOND FORM's CARD OF 'almanaclaw.CronTimes'. -/
def cronTimesUptoCard : Claim7 := { stood := { row := cronTimesUptoRow, standIns := [], harness := (true, "87650c2935356437affc58412a3a0e7d856b71f78ca51bb32887a7b33ac6c3d9"), looks := true }, kinds := [], alts := [], laidByText := true, laidKinds := [.handle, .wider, .wider, .wider, .wider, .wider, .wider], laidTests := true, laidLooks := .later }
def CronTimesUptoCardSaid : Prop := Claim7.holds Tryz.pinned (.plain (OpenSpec.upto cronTimesSpec)) cronTimesUptoCard
end Rows
end Go.Proofs.YtgbbplkpepaidaaGreatDoor
