/- The reference: the day of a date. -/
import Derived.Test.YtgbbplkpepaidaaGreatDoorMCronTimes17
import Derived.Test.YtgbbplkpepaidaaGreatDoorMCronTimes29
namespace Go.Proofs.YtgbbplkpepaidaaGreatDoor
open Go.RowKit Go.Shelf
set_option linter.unusedVariables false
set_option linter.unusedSimpArgs false

theorem yerr_zero (c y : Int) (h1 : 1 ≤ c) (h2 : c ≤ 10) (y1 : -20000 ≤ y) (y2 : y ≤ 20000) : yerr c y = 0 := by
  unfold yerr; rw [if_neg (by omega), if_neg (by omega)]
theorem yerr_ne (c y : Int) (h : c < 1 ∨ 10 < c ∨ y < -20000 ∨ 20000 < y) : yerr c y ≠ 0 := by
  unfold yerr; (repeat' split) <;> omega
end Go.Proofs.YtgbbplkpepaidaaGreatDoor
namespace Go.Proofs.YtgbbplkpepaidaaGreatDoor
open Go.RowKit Go.Shelf
set_option linter.unusedVariables false
set_option linter.unusedSimpArgs false

theorem rthere_any (n : Int) (w : World) (v e : Int) (h : (-4000000 ≤ n ∧ n ≤ 4000000 ∧ v = n ∧ e = 0) ∨ ((n < -4000000 ∨ 4000000 < n) ∧ v = 0 ∧ e = 4)) :
    Calls Tryz.prog 63 #[.int .i64 n] w fun r w' => r = .returned (.tuple #[.int .i64 v, .int .i64 e]) ∧ w' = w := by
  rcases h with ⟨a, b, rfl, rfl⟩ | ⟨a, rfl, rfl⟩
  · exact there_ok v w a b
  · exact there_no n w a
end Go.Proofs.YtgbbplkpepaidaaGreatDoor
