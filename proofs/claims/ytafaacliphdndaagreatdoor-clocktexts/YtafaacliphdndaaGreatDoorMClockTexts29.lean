/- The reference: leap years, months, lengths. -/
import Derived.Test.YtafaacliphdndaaGreatDoorMClockTexts22
import Derived.Test.YtafaacliphdndaaGreatDoorMClockTexts28
namespace Go.Proofs.YtafaacliphdndaaGreatDoor
open Go.RowKit Go.Shelf
set_option linter.unusedVariables false
set_option linter.unusedSimpArgs false

theorem yerr_zero (c y : Int) (h1 : 1 ≤ c) (h2 : c ≤ 10) (y1 : -20000 ≤ y) (y2 : y ≤ 20000) : yerr c y = 0 := by
  unfold yerr; rw [if_neg (by omega), if_neg (by omega)]
theorem yerr_ne (c y : Int) (h : c < 1 ∨ 10 < c ∨ y < -20000 ∨ 20000 < y) : yerr c y ≠ 0 := by
  unfold yerr; (repeat' split) <;> omega
theorem rlength_ok (c y m : Int) (w : World) (h1 : 1 ≤ c) (h2 : c ≤ 10) (y1 : -20000 ≤ y) (y2 : y ≤ 20000) (m1 : 1 ≤ m) (m2 : m ≤ Alm.months c y) :
    Calls Tryz.prog 52 #[.int .i64 c, .int .i64 y, .int .i64 m] w fun e w' => e = .returned (.tuple #[.int .i64 (Alm.mlen c y m), .int .i64 0]) ∧ Below w.heap.size w w' := by
  have k := fun W => year_any c y W
  rw [yerr_zero c y h1 h2 y1 y2] at k
  obtain ⟨j, rfl⟩ : ∃ j : Nat, m = (j : Int) + 1 := ⟨(m - 1).toNat, by omega⟩
  have em : Alm.months c y = (Alm.lens c y).length := rfl
  have mo := Alm.months_bd c y
  have hj : j < (Alm.lens c y).length := by omega
  have hg := mlen_get c y j hj
  have KL := hide (fun W => lens_any c y W h1 h2 (by omega) (by omega))
  go_enter Tryz.func52, Tryz.ntmps52
  go_wp2_with (go_at_call 27; refine (k _).mono ?_; rintro e w' ⟨rfl, rfl⟩)
  refine (KL.out _).mono ?_
  rintro e W ⟨b, cap, rfl, hR, hc1, hc2, hbb, hb⟩
  have hcell := hR j hj
  rw [hg] at hcell
  have n1 : ¬ ((j : Int) + 1 < 1) := by omega
  have n2 : ¬ (((Alm.lens c y).length : Int) < (j : Int) + 1) := by omega
  have n3 : (j : Int) < (Alm.lens c y).length := by omega
  have n4 : (Alm.lens c y).length ≤ 13 := by omega
  unfold maxLen at hc2
  clear hR KL k em mo hg m2
  generalize (Alm.lens c y).length = n at *
  go_wp2
  go_ret2
  exact ⟨rfl, hb⟩
theorem rlength_no (c y m : Int) (w : World) (h : c < 1 ∨ 10 < c ∨ y < -20000 ∨ 20000 < y ∨ m < 1 ∨ Alm.months c y < m) :
    Calls Tryz.prog 52 #[.int .i64 c, .int .i64 y, .int .i64 m] w fun e w' => e = .returned (.tuple #[.int .i64 0, .int .i64 (merr c y m)]) ∧ Below w.heap.size w w' := by
  by_cases hc : c < 1 ∨ 10 < c ∨ y < -20000 ∨ 20000 < y
  · have e : merr c y m = yerr c y := by unfold merr yerr; (repeat' split) <;> first | rfl | omega
    rw [e]
    have k := fun W => year_any c y W
    have hk := yerr_ne c y hc
    clear e
    generalize yerr c y = q at *
    have g : (q != 0) = true := by simpa using hk
    clear hk h hc
    go_enter Tryz.func52, Tryz.ntmps52
    go_wp2_with (go_at_call 27; refine (k _).mono ?_; rintro e w' ⟨rfl, rfl⟩)
    go_ret2
    exact ⟨rfl, Below.refl _ _⟩
  · have hm : m < 1 ∨ Alm.months c y < m := by omega
    have e : merr c y m = 3 := by unfold merr; rw [if_neg (by omega), if_neg (by omega), if_pos hm]
    rw [e]
    have k := fun W => year_any c y W
    rw [yerr_zero c y (by omega) (by omega) (by omega) (by omega)] at k
    have KL := hide (fun W => lens_any c y W (by omega) (by omega) (by omega) (by omega))
    have em : Alm.months c y = (Alm.lens c y).length := rfl
    have mo := Alm.months_bd c y
    rw [em] at hm mo
    have hm' : m < 1 ∨ (1 ≤ m ∧ ((Alm.lens c y).length : Int) < m) := by omega
    clear h hc e em hm
    rcases hm' with hm | ⟨hm0, hm⟩
    all_goals
      go_enter Tryz.func52, Tryz.ntmps52
      go_wp2_with (go_at_call 27; refine (k _).mono ?_; rintro e w' ⟨rfl, rfl⟩)
      refine (KL.out _).mono ?_
      rintro e W ⟨b, cap, rfl, hR, hc1, hc2, hbb, hb⟩
      unfold maxLen at hc2
      clear hR KL k
      generalize (Alm.lens c y).length = n at *
      go_wp2
      go_ret2
      exact ⟨rfl, hb⟩
end Go.Proofs.YtafaacliphdndaaGreatDoor
