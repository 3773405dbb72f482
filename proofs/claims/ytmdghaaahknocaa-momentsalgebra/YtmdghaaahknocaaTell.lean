/- api.Tell by its contracts: 0 of no error, k of the Errno k. -/
import Derived.Test.YtmdghaaahknocaaAs
namespace Go.Proofs.Ytmdghaaahknocaa
open Go.RowKit Go.Extern.Stop Go.Stop Go.Extern

end Go.Proofs.Ytmdghaaahknocaa
