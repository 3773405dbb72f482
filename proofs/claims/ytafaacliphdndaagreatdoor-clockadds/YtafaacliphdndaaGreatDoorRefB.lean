/- The reference's first days and rounds. -/
import Derived.Test.YtafaacliphdndaaGreatDoorRefA
namespace Go.Proofs.YtafaacliphdndaaGreatDoor
open Go.RowKit Go.Shelf

set_option maxHeartbeats 2000000 in
theorem first_any (c : Int) (w : World) (h1 : 1 ≤ c) (h2 : c ≤ 10) : Calls Tryz.prog 77 #[.int .i64 c] w fun e w' => e = .returned (.int .i64 (Alm.first c)) ∧ Below w.heap.size w w' := by
  have hc : c = 1 ∨ c = 2 ∨ c = 3 ∨ c = 4 ∨ c = 5 ∨ c = 6 ∨ c = 7 ∨ c = 8 ∨ c = 9 ∨ c = 10 := by omega
  rcases hc with rfl | rfl | rfl | rfl | rfl | rfl | rfl | rfl | rfl | rfl
  all_goals
    go_enter Tryz.func77, Tryz.ntmps77
    go_wp2
    go_ret
    exact ⟨ret_int (by simp [Alm.first]), (Below.refl _ w).alloc (Nat.le_refl _) _⟩
set_option maxHeartbeats 2000000 in
theorem rround_any (c : Int) (w : World) (h1 : 1 ≤ c) (h2 : c ≤ 10) : Calls Tryz.prog 81 #[.int .i64 c] w fun e w' => e = .returned (.tuple #[.int .i64 (Alm.rYears c), .int .i64 (Alm.rDays c)]) ∧ w' = w := by
  have hc : c = 1 ∨ c = 2 ∨ c = 3 ∨ c = 4 ∨ c = 5 ∨ c = 6 ∨ c = 7 ∨ c = 8 ∨ c = 9 ∨ c = 10 := by omega
  rcases hc with rfl | rfl | rfl | rfl | rfl | rfl | rfl | rfl | rfl | rfl
  all_goals
    go_enter Tryz.func81, Tryz.ntmps81
    go_wp2
    go_ret2
    exact ⟨rfl, rfl⟩
end Go.Proofs.YtafaacliphdndaaGreatDoor
