/- DaysMeet: each day has a date, and is that date's day; the next day has the next date. -/
import Derived.Test.YtcffomellimmiaaGreatDoorDaysKeep
namespace Go.Proofs.YtcffomellimmiaaGreatDoor
open Go.RowKit Go.Shelf
set_option linter.unusedVariables false

end Go.Proofs.YtcffomellimmiaaGreatDoor
