/- the law MomentsAlgebra. -/
import Derived.Test.YtmdghaaahknocaaMomLs
import Derived.Test.YtmdghaaahknocaaMomLg
namespace Go.Proofs.Ytmdghaaahknocaa
open Go.RowKit Go.Shelf
theorem malg_walk (sv1 sv2 sv3 sv4 : Value) (z1 z2 z3 : List (Int × Int)) (ts : List Int) (w : World) (k1 : SpsW w sv1 z1) (k2 : SpsW w sv2 z2) (k3 : SpsW w sv3 z3) (k4 : IntsW w sv4 ts) :
    Calls Try.prog 3 #[sv1, sv2, sv3, sv4] w fun e w' => e = .returned (.bool true) ∧ Below w.heap.size w w' := by
  rcases Nat.lt_or_ge 512 ts.length with h | h
  · exact malg_g sv1 sv2 sv3 sv4 z1 z2 z3 ts w k1 k2 k3 k4 h
  · exact malg_s sv1 sv2 sv3 sv4 z1 z2 z3 ts w k1 k2 k3 k4 h
end Go.Proofs.Ytmdghaaahknocaa
