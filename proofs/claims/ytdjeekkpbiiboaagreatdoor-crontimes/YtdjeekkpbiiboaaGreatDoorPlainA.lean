/- package plain: what the statements call: DaysLeap, DaysMonths, DaysLength. -/
import Derived.Test.YtdjeekkpbiiboaaGreatDoorDaysA
namespace Go.Proofs.YtdjeekkpbiiboaaGreatDoor
open Go.RowKit Go.Shelf

end Go.Proofs.YtdjeekkpbiiboaaGreatDoor
