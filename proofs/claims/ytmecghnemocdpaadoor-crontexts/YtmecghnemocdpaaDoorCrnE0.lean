/- package cron: the number of what Check says. -/
import Derived.Test.YtmecghnemocdpaaDoorCrnDm
namespace Go.Proofs.YtmecghnemocdpaaDoor
/-- the number of an error -/
def argN (b : Bool) : Int := if b then 0 else 1
end Go.Proofs.YtmecghnemocdpaaDoor
