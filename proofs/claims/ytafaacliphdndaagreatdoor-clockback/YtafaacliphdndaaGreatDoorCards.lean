/-
  DERIVED. GIVEN WITH THE SEED: THE CARDS: each row of YtafaacliphdndaaGreatDoorRows.lean that lists a variable, with what it lists TIED to the program's text (the seventh form; the later family's looks); each row that meets fmt, with fmt's text TOLD by the authors' own Lean function (tested against real Go, not proved from fmt's source: count such statements apart). THE CARD IS WHAT COUNTS. Prove the row's statement (the work); the ties are given (YtafaacliphdndaaGreatDoorTie.lean); close each card by the builder's one call (the guide's Derived/Test/ToyasCard.lean, 'card_holds'). Laid BY PROGRAM, IN A SANDBOX (cutbox-door.mjs). By AI agents, Wed Nov 11 2026. No macro, syntax, notation, axiom, sorry.
-/
import Derived.Test.YtafaacliphdndaaGreatDoorRows
import GoSem.ClaimSeven
namespace Go.Proofs.YtafaacliphdndaaGreatDoor
namespace Rows

/-- THE TIED CARD OF 'almanaclaw.ClockAdds'. -/
def clockAddsCard : Claim7 := { stood := { row := clockAddsRow, standIns := [], harness := (true, "6b8ce8f44bd3cf3106c31e087de544bde8ccd14866be0b8fdac186d46d59dda2"), looks := true }, kinds := [], alts := [], laidByText := true, laidKinds := [.handle], laidTests := true, laidLooks := .later }
def ClockAddsCardSaid : Prop := Claim7.holds Tryz.pinned (.plain (OpenSpec.ofChange clockAddsSpec)) clockAddsCard

/-- THE TIED CARD OF 'almanaclaw.ClockSince'. -/
def clockSinceCard : Claim7 := { stood := { row := clockSinceRow, standIns := [], harness := (true, "6b8ce8f44bd3cf3106c31e087de544bde8ccd14866be0b8fdac186d46d59dda2"), looks := true }, kinds := [], alts := [], laidByText := true, laidKinds := [.handle], laidTests := true, laidLooks := .later }
def ClockSinceCardSaid : Prop := Claim7.holds Tryz.pinned (.plain (OpenSpec.ofChange clockSinceSpec)) clockSinceCard

/-- THE TIED CARD OF 'almanaclaw.ClockTexts'. -/
def clockTextsCard : Claim7 := { stood := { row := clockTextsRow, standIns := [], harness := (true, "6b8ce8f44bd3cf3106c31e087de544bde8ccd14866be0b8fdac186d46d59dda2"), looks := true }, kinds := [], alts := [], laidByText := true, laidKinds := [.data, .data, .data, .handle], laidTests := true, laidLooks := .later }
def ClockTextsCardSaid : Prop := Claim7.holds Tryz.pinned (.plain (OpenSpec.ofChange clockTextsSpec)) clockTextsCard

/-- THE TIED CARD OF 'almanackeep.ClockBack'. -/
def clockBackCard : Claim7 := { stood := { row := clockBackRow, standIns := [], harness := (true, "6b8ce8f44bd3cf3106c31e087de544bde8ccd14866be0b8fdac186d46d59dda2"), looks := true }, kinds := [], alts := [], laidByText := true, laidKinds := [.data, .data, .data, .handle], laidTests := true, laidLooks := .later }
def ClockBackCardSaid : Prop := Claim7.holds Tryz.pinned (.plain (OpenSpec.ofChange clockBackSpec)) clockBackCard

/-- THE SECOND FORM's CARD OF 'almanaclaw.ClockAdds'. -/
def clockAddsUptoCard : Claim7 := { stood := { row := clockAddsUptoRow, standIns := [], harness := (true, "6b8ce8f44bd3cf3106c31e087de544bde8ccd14866be0b8fdac186d46d59dda2"), looks := true }, kinds := [], alts := [], laidByText := true, laidKinds := [.handle], laidTests := true, laidLooks := .later }
def ClockAddsUptoCardSaid : Prop := Claim7.holds Tryz.pinned (.plain (OpenSpec.upto clockAddsSpec)) clockAddsUptoCard

/-- THE SECOND FORM's CARD OF 'almanaclaw.ClockSince'. -/
def clockSinceUptoCard : Claim7 := { stood := { row := clockSinceUptoRow, standIns := [], harness := (true, "6b8ce8f44bd3cf3106c31e087de544bde8ccd14866be0b8fdac186d46d59dda2"), looks := true }, kinds := [], alts := [], laidByText := true, laidKinds := [.handle], laidTests := true, laidLooks := .later }
def ClockSinceUptoCardSaid : Prop := Claim7.holds Tryz.pinned (.plain (OpenSpec.upto clockSinceSpec)) clockSinceUptoCard

/-- THE SECOND FORM's CARD OF 'almanaclaw.ClockTexts'. -/
def clockTextsUptoCard : Claim7 := { stood := { row := clockTextsUptoRow, standIns := [], harness := (true, "6b8ce8f44bd3cf3106c31e087de544bde8ccd14866be0b8fdac186d46d59dda2"), looks := true }, kinds := [], alts := [], laidByText := true, laidKinds := [.data, .data, .data, .handle], laidTests := true, laidLooks := .later }
def ClockTextsUptoCardSaid : Prop := Claim7.holds Tryz.pinned (.plain (OpenSpec.upto clockTextsSpec)) clockTextsUptoCard

/-- THE SECOND FORM's CARD OF 'almanackeep.ClockBack'. -/
def clockBackUptoCard : Claim7 := { stood := { row := clockBackUptoRow, standIns := [], harness := (true, "6b8ce8f44bd3cf3106c31e087de544bde8ccd14866be0b8fdac186d46d59dda2"), looks := true }, kinds := [], alts := [], laidByText := true, laidKinds := [.data, .data, .data, .handle], laidTests := true, laidLooks := .later }
def ClockBackUptoCardSaid : Prop := Claim7.holds Tryz.pinned (.plain (OpenSpec.upto clockBackSpec)) clockBackUptoCard
end Rows
end Go.Proofs.YtafaacliphdndaaGreatDoor
