/- package plain: what the statements call: DaysLeap, DaysMonths, DaysLength. -/
import Derived.Test.YtcffomellimmiaaGreatDoorDaysA
namespace Go.Proofs.YtcffomellimmiaaGreatDoor
open Go.RowKit Go.Shelf

end Go.Proofs.YtcffomellimmiaaGreatDoor
