/- The reference: leap years, months, lengths. -/
import Derived.Test.YtdjeekkpbiiboaaGreatDoorRefD
import Derived.Test.YtdjeekkpbiiboaaGreatDoorDaysA
namespace Go.Proofs.YtdjeekkpbiiboaaGreatDoor
open Go.RowKit Go.Shelf
set_option linter.unusedVariables false
set_option linter.unusedSimpArgs false

theorem yerr_zero (c y : Int) (h1 : 1 ≤ c) (h2 : c ≤ 10) (y1 : -20000 ≤ y) (y2 : y ≤ 20000) : yerr c y = 0 := by
  unfold yerr; rw [if_neg (by omega), if_neg (by omega)]
theorem yerr_ne (c y : Int) (h : c < 1 ∨ 10 < c ∨ y < -20000 ∨ 20000 < y) : yerr c y ≠ 0 := by
  unfold yerr; (repeat' split) <;> omega
end Go.Proofs.YtdjeekkpbiiboaaGreatDoor
