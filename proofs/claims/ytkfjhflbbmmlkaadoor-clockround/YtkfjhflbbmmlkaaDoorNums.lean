/- Contracts of the functions on numbers alone (no memory): weekdays, leap years, the Hebrew moon, what is there. -/
import Derived.Test.YtkfjhflbbmmlkaaDoorBase
import Derived.Test.YtkfjhflbbmmlkaaDoorPlain
namespace Go.Proofs.YtkfjhflbbmmlkaaDoor
open Go.RowKit

/-! ### what is there -/
theorem checkDay_ok (n : Int) (w : World) (h1 : -4000000 ≤ n) (h2 : n ≤ 4000000) :
    Calls Tryd.prog 30 #[.int .i64 n] w fun e w' => e = .returned .nilIface ∧ w' = w := by
  go_enter Tryd.func30, Tryd.ntmps30
  go_wp2
  go_ret
  exact ⟨rfl, rfl⟩
theorem checkDay_no (n : Int) (w : World) (h : n < -4000000 ∨ 4000000 < n) :
    Calls Tryd.prog 30 #[.int .i64 n] w fun e w' => e = .returned (.iface 25 (.int .i64 4)) ∧ w' = w := by
  rcases h with h | h
  all_goals
    go_enter Tryd.func30, Tryd.ntmps30
    go_wp2
    go_ret
    exact ⟨rfl, rfl⟩
theorem checkYear_ok (n : Int) (w : World) (h1 : -20000 ≤ n) (h2 : n ≤ 20000) :
    Calls Tryd.prog 54 #[.int .i64 n] w fun e w' => e = .returned .nilIface ∧ w' = w := by
  go_enter Tryd.func54, Tryd.ntmps54
  go_wp2
  go_ret
  exact ⟨rfl, rfl⟩
theorem checkYear_no (n : Int) (w : World) (h : n < -20000 ∨ 20000 < n) :
    Calls Tryd.prog 54 #[.int .i64 n] w fun e w' => e = .returned (.iface 25 (.int .i64 4)) ∧ w' = w := by
  rcases h with h | h
  all_goals
    go_enter Tryd.func54, Tryd.ntmps54
    go_wp2
    go_ret
    exact ⟨rfl, rfl⟩
theorem ifThere_ok (n : Int) (w : World) (h1 : -4000000 ≤ n) (h2 : n ≤ 4000000) :
    Calls Tryd.prog 38 #[.int .i64 n] w fun e w' => e = .returned (.tuple #[.int .i64 n, .nilIface]) ∧ w' = w := by
  go_enter Tryd.func38, Tryd.ntmps38
  go_wp2_with (go_at_call 30; refine (checkDay_ok n _ h1 h2).mono ?_; rintro e w' ⟨rfl, rfl⟩)
  go_ret2
  exact ⟨rfl, rfl⟩
theorem ifThere_no (n : Int) (w : World) (h : n < -4000000 ∨ 4000000 < n) :
    Calls Tryd.prog 38 #[.int .i64 n] w fun e w' => e = .returned (.tuple #[.int .i64 0, .iface 25 (.int .i64 4)]) ∧ w' = w := by
  go_enter Tryd.func38, Tryd.ntmps38
  go_wp2_with (go_at_call 30; refine (checkDay_no n _ h).mono ?_; rintro e w' ⟨rfl, rfl⟩)
  go_ret2
  exact ⟨rfl, rfl⟩
/-- what is wrong with a calendar and a year: 0, if nothing is -/
def yerr (c y : Int) : Int := if c < 1 ∨ 10 < c then 2 else if y < -20000 ∨ 20000 < y then 4 else 0
/-! ### leap years -/
/-! ### the Hebrew moon -/
theorem moon_any (y : Int) (w : World) (h1 : -100002 ≤ y) (h2 : y ≤ 100002) :
    Calls Tryd.prog 79 #[.int .i64 y] w fun e w' => e = .returned (.int .i64 (Alm.moon y)) ∧ w' = w := by
  go_enter Tryd.func79, Tryd.ntmps79
  go_wp2_with (first | (go_at_call 59; refine (mod_any _ _ _ (by omega) (by omega)).mono ?_; rintro e w' ⟨rfl, rfl⟩) | (go_at_call 61; refine (floor_any _ _ _ (by omega) (by omega) (by omega) (by omega)).mono ?_; rintro e w' ⟨rfl, rfl⟩))
  all_goals
    go_ret
    exact ⟨ret_int (by unfold Alm.moon Alm.moonD; split <;> omega), rfl⟩
theorem hstart_any (y : Int) (w : World) (h1 : -100001 ≤ y) (h2 : y ≤ 100001) :
    Calls Tryd.prog 69 #[.int .i64 y] w fun e w' => e = .returned (.int .i64 (Alm.start 7 y)) ∧ w' = w := by
  have b1 := Alm.moon_bd (y + 1) (by omega) (by omega)
  have b2 := Alm.moon_bd y (by omega) (by omega)
  have b3 := Alm.moon_bd (y - 1) (by omega) (by omega)
  go_enter Tryd.func69, Tryd.ntmps69
  go_wp2_with (go_at_call 79; refine (moon_any _ _ (by omega) (by omega)).mono ?_; rintro e w' ⟨rfl, rfl⟩)
  all_goals
    go_ret
    refine ⟨ret_int ?_, rfl⟩
    simp only [beq_iff_eq, beq_eq_false_iff_ne, ne_eq] at *
    simp [Alm.start, Alm.heb, *]
    try omega
end Go.Proofs.YtkfjhflbbmmlkaaDoor
