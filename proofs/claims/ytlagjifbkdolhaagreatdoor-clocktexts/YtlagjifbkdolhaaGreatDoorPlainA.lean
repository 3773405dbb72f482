/- package plain: what the statements call: DaysLeap, DaysMonths, DaysLength. -/
import Derived.Test.YtlagjifbkdolhaaGreatDoorDaysA
namespace Go.Proofs.YtlagjifbkdolhaaGreatDoor
open Go.RowKit Go.Shelf

end Go.Proofs.YtlagjifbkdolhaaGreatDoor
