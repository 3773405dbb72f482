/- The reference: the day of a date. -/
import Derived.Test.YtdjeekkpbiiboaaGreatDoorRefE
import Derived.Test.YtdjeekkpbiiboaaGreatDoorDaysB
namespace Go.Proofs.YtdjeekkpbiiboaaGreatDoor
open Go.RowKit Go.Shelf
set_option linter.unusedVariables false
set_option linter.unusedSimpArgs false

theorem rthere_any (n : Int) (w : World) (v e : Int) (h : (-4000000 ≤ n ∧ n ≤ 4000000 ∧ v = n ∧ e = 0) ∨ ((n < -4000000 ∨ 4000000 < n) ∧ v = 0 ∧ e = 4)) :
    Calls Tryz.prog 63 #[.int .i64 n] w fun r w' => r = .returned (.tuple #[.int .i64 v, .int .i64 e]) ∧ w' = w := by
  rcases h with ⟨a, b, rfl, rfl⟩ | ⟨a, rfl, rfl⟩
  · exact there_ok v w a b
  · exact there_no n w a
end Go.Proofs.YtdjeekkpbiiboaaGreatDoor
