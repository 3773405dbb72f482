/-
  DERIVED. GIVEN WITH THE SEED: THE CARDS: each row of YtjmjabdokckdlaaDoorRows.lean that lists a variable, with what it lists TIED to the program's text (the seventh form; the later family's looks); each row that meets fmt, with fmt's text TOLD by the authors' own Lean function (tested against real Go, not proved from fmt's source: count such statements apart). THE CARD IS WHAT COUNTS. Prove the row's statement (the work); the ties are given (YtjmjabdokckdlaaDoorTie.lean); close each card by the builder's one call (the guide's Derived/Test/ToyasCard.lean, 'card_holds'). Laid BY PROGRAM, IN A SANDBOX (cutbox-door.mjs). By AI agents, Wed Nov 11 2026. No macro, syntax, notation, axiom, sorry.
-/
import Derived.Test.YtjmjabdokckdlaaDoorRows
import GoSem.ClaimSeven
namespace Go.Proofs.YtjmjabdokckdlaaDoor
namespace Rows

/-- THE TIED CARD OF 'almanaclaw.PlanTimes'. -/
def planTimesCard : Claim7 := { stood := { row := planTimesRow, standIns := [], harness := (true, "e82b320ea7046cef32fac103847f4377a19de8e4358b829b125bcb7c8499a9ac"), looks := true }, kinds := [], alts := [], laidByText := true, laidKinds := [.handle], laidTests := true, laidLooks := .later }
def PlanTimesCardSaid : Prop := Claim7.holds Tryd.pinned (.plain (OpenSpec.ofChange planTimesSpec)) planTimesCard

/-- THE TIED CARD OF 'almanaclaw.PlanLevels'. -/
def planLevelsCard : Claim7 := { stood := { row := planLevelsRow, standIns := [], harness := (true, "e82b320ea7046cef32fac103847f4377a19de8e4358b829b125bcb7c8499a9ac"), looks := true }, kinds := [], alts := [], laidByText := true, laidKinds := [.handle], laidTests := true, laidLooks := .later }
def PlanLevelsCardSaid : Prop := Claim7.holds Tryd.pinned (.plain (OpenSpec.ofChange planLevelsSpec)) planLevelsCard

/-- THE TIED CARD OF 'almanackeep.PlanLeast'. -/
def planLeastCard : Claim7 := { stood := { row := planLeastRow, standIns := [], harness := (true, "e82b320ea7046cef32fac103847f4377a19de8e4358b829b125bcb7c8499a9ac"), looks := true }, kinds := [], alts := [], laidByText := true, laidKinds := [.handle], laidTests := true, laidLooks := .later }
def PlanLeastCardSaid : Prop := Claim7.holds Tryd.pinned (.plain (OpenSpec.ofChange planLeastSpec)) planLeastCard

/-- THE TIED CARD OF 'almanackeep.PlanPath'. -/
def planPathCard : Claim7 := { stood := { row := planPathRow, standIns := [], harness := (true, "e82b320ea7046cef32fac103847f4377a19de8e4358b829b125bcb7c8499a9ac"), looks := true }, kinds := [], alts := [], laidByText := true, laidKinds := [.handle], laidTests := true, laidLooks := .later }
def PlanPathCardSaid : Prop := Claim7.holds Tryd.pinned (.plain (OpenSpec.ofChange planPathSpec)) planPathCard

/-- THE TIED CARD OF 'almanackeep.PlanEnough'. -/
def planEnoughCard : Claim7 := { stood := { row := planEnoughRow, standIns := [], harness := (true, "e82b320ea7046cef32fac103847f4377a19de8e4358b829b125bcb7c8499a9ac"), looks := true }, kinds := [], alts := [], laidByText := true, laidKinds := [.handle], laidTests := true, laidLooks := .later }
def PlanEnoughCardSaid : Prop := Claim7.holds Tryd.pinned (.plain (OpenSpec.ofChange planEnoughSpec)) planEnoughCard

/-- THE SECOND FORM's CARD OF 'almanaclaw.PlanTimes'. -/
def planTimesUptoCard : Claim7 := { stood := { row := planTimesUptoRow, standIns := [], harness := (true, "e82b320ea7046cef32fac103847f4377a19de8e4358b829b125bcb7c8499a9ac"), looks := true }, kinds := [], alts := [], laidByText := true, laidKinds := [.handle], laidTests := true, laidLooks := .later }
def PlanTimesUptoCardSaid : Prop := Claim7.holds Tryd.pinned (.plain (OpenSpec.upto planTimesSpec)) planTimesUptoCard

/-- THE SECOND FORM's CARD OF 'almanaclaw.PlanLevels'. -/
def planLevelsUptoCard : Claim7 := { stood := { row := planLevelsUptoRow, standIns := [], harness := (true, "e82b320ea7046cef32fac103847f4377a19de8e4358b829b125bcb7c8499a9ac"), looks := true }, kinds := [], alts := [], laidByText := true, laidKinds := [.handle], laidTests := true, laidLooks := .later }
def PlanLevelsUptoCardSaid : Prop := Claim7.holds Tryd.pinned (.plain (OpenSpec.upto planLevelsSpec)) planLevelsUptoCard

/-- THE SECOND FORM's CARD OF 'almanackeep.PlanLeast'. -/
def planLeastUptoCard : Claim7 := { stood := { row := planLeastUptoRow, standIns := [], harness := (true, "e82b320ea7046cef32fac103847f4377a19de8e4358b829b125bcb7c8499a9ac"), looks := true }, kinds := [], alts := [], laidByText := true, laidKinds := [.handle], laidTests := true, laidLooks := .later }
def PlanLeastUptoCardSaid : Prop := Claim7.holds Tryd.pinned (.plain (OpenSpec.upto planLeastSpec)) planLeastUptoCard

/-- THE SECOND FORM's CARD OF 'almanackeep.PlanPath'. -/
def planPathUptoCard : Claim7 := { stood := { row := planPathUptoRow, standIns := [], harness := (true, "e82b320ea7046cef32fac103847f4377a19de8e4358b829b125bcb7c8499a9ac"), looks := true }, kinds := [], alts := [], laidByText := true, laidKinds := [.handle], laidTests := true, laidLooks := .later }
def PlanPathUptoCardSaid : Prop := Claim7.holds Tryd.pinned (.plain (OpenSpec.upto planPathSpec)) planPathUptoCard

/-- THE SECOND FORM's CARD OF 'almanackeep.PlanEnough'. -/
def planEnoughUptoCard : Claim7 := { stood := { row := planEnoughUptoRow, standIns := [], harness := (true, "e82b320ea7046cef32fac103847f4377a19de8e4358b829b125bcb7c8499a9ac"), looks := true }, kinds := [], alts := [], laidByText := true, laidKinds := [.handle], laidTests := true, laidLooks := .later }
def PlanEnoughUptoCardSaid : Prop := Claim7.holds Tryd.pinned (.plain (OpenSpec.upto planEnoughSpec)) planEnoughUptoCard
end Rows
end Go.Proofs.YtjmjabdokckdlaaDoor
