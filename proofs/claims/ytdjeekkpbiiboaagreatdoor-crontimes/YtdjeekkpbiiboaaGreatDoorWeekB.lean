/- Weeks: days.Week, Weeks, OfWeek. -/
import Derived.Test.YtdjeekkpbiiboaaGreatDoorWeekA
namespace Go.Proofs.YtdjeekkpbiiboaaGreatDoor
open Go.RowKit Go.Shelf
set_option linter.unusedVariables false

/-- what is wrong with a week and a weekday -/
def werr (y n d : Int) : Int := if y < -20000 ∨ 20000 < y then 4 else if n < 1 ∨ (fmon (y + 1) - fmon y) / 7 < n ∨ d < 1 ∨ 7 < d then 3 else if fmon y + 7 * (n - 1) + d - 1 < -4000000 ∨ 4000000 < fmon y + 7 * (n - 1) + d - 1 then 4 else 0
end Go.Proofs.YtdjeekkpbiiboaaGreatDoor
