/- package plain: what the statements call: DaysLeap, DaysMonths, DaysLength. -/
import Derived.Test.YtkfjhflbbmmlkaaGreatDoorDaysA
namespace Go.Proofs.YtkfjhflbbmmlkaaGreatDoor
open Go.RowKit Go.Shelf

end Go.Proofs.YtkfjhflbbmmlkaaGreatDoor
