/- package days: Leap, Months, Length, Day, Of, by their contracts. -/
import Derived.Test.YtcffomellimmiaaGreatDoorDates3
import Derived.Test.YtcffomellimmiaaGreatDoorTell
namespace Go.Proofs.YtcffomellimmiaaGreatDoor
open Go.RowKit Go.Shelf

/-- what is wrong with a month -/
def merr (c y m : Int) : Int := if c < 1 ∨ 10 < c then 2 else if y < -20000 ∨ 20000 < y then 4 else if m < 1 ∨ Alm.months c y < m then 3 else 0
end Go.Proofs.YtcffomellimmiaaGreatDoor
