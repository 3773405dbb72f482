/- package plain: what the statements call: DaysLeap, DaysMonths, DaysLength. -/
import Derived.Test.YtkfjhflbbmmlkaaDoorDaysA
namespace Go.Proofs.YtkfjhflbbmmlkaaDoor
open Go.RowKit Go.Shelf

end Go.Proofs.YtkfjhflbbmmlkaaDoor
