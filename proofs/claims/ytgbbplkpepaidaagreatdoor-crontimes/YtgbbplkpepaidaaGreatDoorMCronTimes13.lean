/- package clock: Tell. -/
import Derived.Test.YtgbbplkpepaidaaGreatDoorMCronTimes12
import Derived.Test.YtgbbplkpepaidaaGreatDoorMCronTimes6
import Derived.Deep.RegionWith
namespace Go.Proofs.YtgbbplkpepaidaaGreatDoor
open Go.RowKit Go.Shelf
set_option linter.unusedVariables false
set_option linter.unusedSimpArgs false

end Go.Proofs.YtgbbplkpepaidaaGreatDoor
