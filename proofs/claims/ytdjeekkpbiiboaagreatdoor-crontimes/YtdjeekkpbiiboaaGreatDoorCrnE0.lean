/- package cron: the number of what Check says. -/
import Derived.Test.YtdjeekkpbiiboaaGreatDoorCrnDm
namespace Go.Proofs.YtdjeekkpbiiboaaGreatDoor
/-- the number of an error -/
def argN (b : Bool) : Int := if b then 0 else 1
end Go.Proofs.YtdjeekkpbiiboaaGreatDoor
