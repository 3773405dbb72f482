/-
  DERIVED. GIVEN WITH THE SEED: THE CARDS: each row of YtnaggcadmfmibaaDoorRows.lean that lists a variable, with what it lists TIED to the program's text (the seventh form; the later family's looks); each row that meets fmt, with fmt's text TOLD by the authors' own Lean function (tested against real Go, not proved from fmt's source: count such statements apart). THE CARD IS WHAT COUNTS. Prove the row's statement (the work); the ties are given (YtnaggcadmfmibaaDoorTie.lean); close each card by the builder's one call (the guide's Derived/Test/ToyasCard.lean, 'card_holds'). Laid BY PROGRAM, IN A SANDBOX (cutbox-door.mjs). By AI agents, Wed Nov 11 2026. No macro, syntax, notation, axiom, sorry.
-/
import Derived.Test.YtnaggcadmfmibaaDoorRows
import GoSem.ClaimSeven
namespace Go.Proofs.YtnaggcadmfmibaaDoor
namespace Rows

/-- THE TIED CARD OF 'almanaclaw.SpanSolves'. -/
def spanSolvesCard : Claim7 := { stood := { row := spanSolvesRow, standIns := [], harness := (true, "f70f432e0afa60c8a2b2564bcb9ce3f9d5b202ada691ba4b4e60366bdb7da319"), looks := true }, kinds := [], alts := [], laidByText := true, laidKinds := [.handle, .data], laidTests := true, laidLooks := .later }
def SpanSolvesCardSaid : Prop := Claim7.holds Tryd.pinned (.plain (OpenSpec.ofChange spanSolvesSpec)) spanSolvesCard

/-- THE TIED CARD OF 'almanackeep.SpanKeeps'. -/
def spanKeepsCard : Claim7 := { stood := { row := spanKeepsRow, standIns := [], harness := (true, "f70f432e0afa60c8a2b2564bcb9ce3f9d5b202ada691ba4b4e60366bdb7da319"), looks := true }, kinds := [], alts := [], laidByText := true, laidKinds := [.handle, .data], laidTests := true, laidLooks := .later }
def SpanKeepsCardSaid : Prop := Claim7.holds Tryd.pinned (.plain (OpenSpec.ofChange spanKeepsSpec)) spanKeepsCard

/-- THE SECOND FORM's CARD OF 'almanaclaw.SpanSolves'. -/
def spanSolvesUptoCard : Claim7 := { stood := { row := spanSolvesUptoRow, standIns := [], harness := (true, "f70f432e0afa60c8a2b2564bcb9ce3f9d5b202ada691ba4b4e60366bdb7da319"), looks := true }, kinds := [], alts := [], laidByText := true, laidKinds := [.handle, .data], laidTests := true, laidLooks := .later }
def SpanSolvesUptoCardSaid : Prop := Claim7.holds Tryd.pinned (.plain (OpenSpec.upto spanSolvesSpec)) spanSolvesUptoCard

/-- THE SECOND FORM's CARD OF 'almanackeep.SpanKeeps'. -/
def spanKeepsUptoCard : Claim7 := { stood := { row := spanKeepsUptoRow, standIns := [], harness := (true, "f70f432e0afa60c8a2b2564bcb9ce3f9d5b202ada691ba4b4e60366bdb7da319"), looks := true }, kinds := [], alts := [], laidByText := true, laidKinds := [.handle, .data], laidTests := true, laidLooks := .later }
def SpanKeepsUptoCardSaid : Prop := Claim7.holds Tryd.pinned (.plain (OpenSpec.upto spanKeepsSpec)) spanKeepsUptoCard
end Rows
end Go.Proofs.YtnaggcadmfmibaaDoor
