/-
  DERIVED. GIVEN WITH THE SEED: THE CARDS: each row of YtabgoicholknoaaDoorRows.lean that lists a variable, with what it lists TIED to the program's text (the seventh form; the later family's looks); each row that meets fmt, with fmt's text TOLD by the authors' own Lean function (tested against real Go, not proved from fmt's source: count such statements apart). THE CARD IS WHAT COUNTS. Prove the row's statement (the work); the ties are given (YtabgoicholknoaaDoorTie.lean); close each card by the builder's one call (the guide's Derived/Test/ToyasCard.lean, 'card_holds'). Laid BY PROGRAM, IN A SANDBOX (cutbox-door.mjs). By AI agents, Wed Nov 11 2026. No macro, syntax, notation, axiom, sorry.
-/
import Derived.Test.YtabgoicholknoaaDoorRows
import GoSem.ClaimSeven
namespace Go.Proofs.YtabgoicholknoaaDoor
namespace Rows

/-- THE TIED CARD OF 'almanackeep.BusyBest'. -/
def busyBestCard : Claim7 := { stood := { row := busyBestRow, standIns := [], harness := (true, "0cd3a3f30c34bd111a00b6b4aaae75775c53617650360ad0a71282c5f6626b0b"), looks := true }, kinds := [], alts := [], laidByText := true, laidKinds := [.handle], laidTests := true, laidLooks := .later }
def BusyBestCardSaid : Prop := Claim7.holds Tryd.pinned (.plain (OpenSpec.ofChange busyBestSpec)) busyBestCard

/-- THE SECOND FORM's CARD OF 'almanackeep.BusyBest'. -/
def busyBestUptoCard : Claim7 := { stood := { row := busyBestUptoRow, standIns := [], harness := (true, "0cd3a3f30c34bd111a00b6b4aaae75775c53617650360ad0a71282c5f6626b0b"), looks := true }, kinds := [], alts := [], laidByText := true, laidKinds := [.handle], laidTests := true, laidLooks := .later }
def BusyBestUptoCardSaid : Prop := Claim7.holds Tryd.pinned (.plain (OpenSpec.upto busyBestSpec)) busyBestUptoCard
end Rows
end Go.Proofs.YtabgoicholknoaaDoor
