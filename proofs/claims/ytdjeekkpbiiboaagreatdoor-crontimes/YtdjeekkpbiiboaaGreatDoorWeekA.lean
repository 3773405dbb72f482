/- Weeks: the first Monday of a year. -/
import Derived.Test.YtdjeekkpbiiboaaGreatDoorDaysMeet
namespace Go.Proofs.YtdjeekkpbiiboaaGreatDoor
open Go.RowKit Go.Shelf
set_option linter.unusedVariables false

theorem field3 (g0 : Nat) (l0 : Array Value) (g1 : Nat) (l1 : Array Value) (g2 : Nat) (l2 : Array Value) (g3 : Nat) (l3 : Array Value) (W : World) :
    Sem.run Tryz.prog (Instr.field 94 (.agg #[fv g0 l0, fv g1 l1, fv g2 l2, fv g3 l3]) 3) W = .ok (fv g3 l3) W := by
  kernel_rfl

/-- the day with which the weeks of a year begin -/
def fmon (y : Int) : Int := Alm.start 1 y + 3 - (Alm.start 1 y + 3 + 3) % 7
theorem fmon_bd (y : Int) (y1 : -20001 ≤ y) (y2 : y ≤ 20001) : -10000000 ≤ fmon y ∧ fmon y ≤ 10000000 := by
  unfold fmon; simp [Alm.start, Alm.gahead]; omega
end Go.Proofs.YtdjeekkpbiiboaaGreatDoor
