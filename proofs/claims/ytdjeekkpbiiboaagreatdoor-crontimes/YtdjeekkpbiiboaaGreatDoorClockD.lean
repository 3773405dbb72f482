/- package clock: Tell. -/
import Derived.Test.YtdjeekkpbiiboaaGreatDoorClockC
import Derived.Test.YtdjeekkpbiiboaaGreatDoorLeaps
import Derived.Deep.RegionWith
namespace Go.Proofs.YtdjeekkpbiiboaaGreatDoor
open Go.RowKit Go.Shelf
set_option linter.unusedVariables false
set_option linter.unusedSimpArgs false

end Go.Proofs.YtdjeekkpbiiboaaGreatDoor
