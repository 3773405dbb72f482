/- DaysMeet: each day has a date, and is that date's day; the next day has the next date. -/
import Derived.Test.YtdjeekkpbiiboaaGreatDoorDaysKeep
namespace Go.Proofs.YtdjeekkpbiiboaaGreatDoor
open Go.RowKit Go.Shelf
set_option linter.unusedVariables false

end Go.Proofs.YtdjeekkpbiiboaaGreatDoor
