/-
  DERIVED. GIVEN WITH THE SEED: THE CARDS: each row of YtmjplljjcbdcfaaDoorRows.lean that lists a variable, with what it lists TIED to the program's text (the seventh form; the later family's looks); each row that meets fmt, with fmt's text TOLD by the authors' own Lean function (tested against real Go, not proved from fmt's source: count such statements apart). THE CARD IS WHAT COUNTS. Prove the row's statement (the work); the ties are given (YtmjplljjcbdcfaaDoorTie.lean); close each card by the builder's one call (the guide's Derived/Test/ToyasCard.lean, 'card_holds'). Laid BY PROGRAM, IN A SANDBOX (cutbox-door.mjs). By AI agents, Wed Nov 11 2026. No macro, syntax, notation, axiom, sorry.
-/
import Derived.Test.YtmjplljjcbdcfaaDoorRows
import GoSem.ClaimSeven
namespace Go.Proofs.YtmjplljjcbdcfaaDoor
namespace Rows

/-- THE TIED CARD OF 'almanaclaw.MomentsPlays'. -/
def momentsPlaysCard : Claim7 := { stood := { row := momentsPlaysRow, standIns := [], harness := (true, "154d9538e20f8dae769e8aafc522fd16b94db34faf55606c1faae9043dcfd4b7"), looks := true }, kinds := [], alts := [], laidByText := true, laidKinds := [.handle], laidTests := true, laidLooks := .later }
def MomentsPlaysCardSaid : Prop := Claim7.holds Tryd.pinned (.plain (OpenSpec.ofChange momentsPlaysSpec)) momentsPlaysCard

/-- THE TIED CARD OF 'almanackeep.MomentsRoom'. -/
def momentsRoomCard : Claim7 := { stood := { row := momentsRoomRow, standIns := [], harness := (true, "154d9538e20f8dae769e8aafc522fd16b94db34faf55606c1faae9043dcfd4b7"), looks := true }, kinds := [], alts := [], laidByText := true, laidKinds := [.handle], laidTests := true, laidLooks := .later }
def MomentsRoomCardSaid : Prop := Claim7.holds Tryd.pinned (.plain (OpenSpec.ofChange momentsRoomSpec)) momentsRoomCard

/-- THE SECOND FORM's CARD OF 'almanaclaw.MomentsPlays'. -/
def momentsPlaysUptoCard : Claim7 := { stood := { row := momentsPlaysUptoRow, standIns := [], harness := (true, "154d9538e20f8dae769e8aafc522fd16b94db34faf55606c1faae9043dcfd4b7"), looks := true }, kinds := [], alts := [], laidByText := true, laidKinds := [.handle], laidTests := true, laidLooks := .later }
def MomentsPlaysUptoCardSaid : Prop := Claim7.holds Tryd.pinned (.plain (OpenSpec.upto momentsPlaysSpec)) momentsPlaysUptoCard

/-- THE SECOND FORM's CARD OF 'almanackeep.MomentsRoom'. -/
def momentsRoomUptoCard : Claim7 := { stood := { row := momentsRoomUptoRow, standIns := [], harness := (true, "154d9538e20f8dae769e8aafc522fd16b94db34faf55606c1faae9043dcfd4b7"), looks := true }, kinds := [], alts := [], laidByText := true, laidKinds := [.handle], laidTests := true, laidLooks := .later }
def MomentsRoomUptoCardSaid : Prop := Claim7.holds Tryd.pinned (.plain (OpenSpec.upto momentsRoomSpec)) momentsRoomUptoCard
end Rows
end Go.Proofs.YtmjplljjcbdcfaaDoor
