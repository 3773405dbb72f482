/- Weeks: package plain. -/
import Derived.Test.YtcidhedmbcoafaaDoorWeekB
namespace Go.Proofs.YtcidhedmbcoafaaDoor
open Go.RowKit Go.Shelf
set_option linter.unusedVariables false

theorem pweek_ok (day Y : Int) (w : World) (d1 : -4000000 ≤ day) (d2 : day ≤ 4000000) (hy : yr 1 (day - ((day + 3) % 7 + 1) + 4) Y) (y1 : -20000 ≤ Y) (y2 : Y < 20000) :
    Calls Tryd.prog 24 #[.int .i64 day] w fun e w' => e = .returned (.tuple #[.int .i64 Y, .int .i64 ((day - fmon Y) / 7 + 1), .int .i64 ((day + 3) % 7 + 1), .int .i64 0]) ∧ Below w.heap.size w w' := by
  go_enter Tryd.func24, Tryd.ntmps24
  go_wp2_with fail
  refine (week_ok day Y _ d1 d2 hy y1 y2).mono ?_
  rintro e W ⟨rfl, hb⟩
  go_wp2_with fail
  refine (tell_nil _).mono ?_
  rintro e W2 ⟨rfl, hb2⟩
  go_wp2
  exact bodyPost_ret (v := .tuple #[.int .i64 Y, .int .i64 ((day - fmon Y) / 7 + 1), .int .i64 ((day + 3) % 7 + 1), .int .i64 0]) (by simp [results, Tryd.results24, go_sem]) rfl ⟨rfl, hb.trans (hb2.mono hb.size)⟩
theorem pweek_no (day : Int) (w : World) (hd : Hd w) (h : day < -4000000 ∨ 4000000 < day) :
    Calls Tryd.prog 24 #[.int .i64 day] w fun e w' => e = .returned (.tuple #[.int .i64 0, .int .i64 0, .int .i64 0, .int .i64 4]) ∧ Below w.heap.size w w' := by
  go_enter Tryd.func24, Tryd.ntmps24
  go_wp2_with fail
  refine (week_no day _ h).mono ?_
  rintro e W ⟨rfl, hb⟩
  have hd2 := hd.later hb
  go_wp2_with fail
  refine (tell_err _ _ hd2).mono ?_
  rintro e W2 ⟨rfl, hb2⟩
  go_wp2
  exact bodyPost_ret (v := .tuple #[.int .i64 0, .int .i64 0, .int .i64 0, .int .i64 4]) (by simp [results, Tryd.results24, go_sem]) rfl ⟨rfl, hb.trans (hb2.mono hb.size)⟩
theorem pweeks_ok (y : Int) (w : World) (y1 : -20000 ≤ y) (y2 : y ≤ 20000) :
    Calls Tryd.prog 26 #[.int .i64 y] w fun e w' => e = .returned (.tuple #[.int .i64 ((fmon (y + 1) - fmon y) / 7), .int .i64 0]) ∧ Below w.heap.size w w' := by
  go_enter Tryd.func26, Tryd.ntmps26
  go_wp2_with fail
  refine (weeks_ok y _ y1 y2).mono ?_
  rintro e W ⟨rfl, hb⟩
  go_wp2_with fail
  refine (tell_nil _).mono ?_
  rintro e W2 ⟨rfl, hb2⟩
  go_wp2
  go_ret2
  exact ⟨rfl, hb.trans (hb2.mono hb.size)⟩
theorem pofWeek_ok (y n d : Int) (w : World) (h : werr y n d = 0) :
    Calls Tryd.prog 28 #[.int .i64 y, .int .i64 n, .int .i64 d] w fun e w' => e = .returned (.tuple #[.int .i64 (fmon y + 7 * (n - 1) + d - 1), .int .i64 0]) ∧ Below w.heap.size w w' := by
  go_enter Tryd.func28, Tryd.ntmps28
  go_wp2_with fail
  refine (ofWeek_ok y n d _ h).mono ?_
  rintro e W ⟨rfl, hb⟩
  go_wp2_with fail
  refine (tell_nil _).mono ?_
  rintro e W2 ⟨rfl, hb2⟩
  go_wp2
  go_ret2
  exact ⟨rfl, hb.trans (hb2.mono hb.size)⟩

/-! ### the mathematics of weeks -/
theorem start1_succ (Y : Int) : Alm.start 1 (Y + 1) = Alm.start 1 Y + 365 ∨ Alm.start 1 (Y + 1) = Alm.start 1 Y + 366 := by
  have h := Alm.start_succ 1 Y (by omega) (by omega)
  have l := Alm.l01_bd 1 Y
  rw [h]; unfold Alm.ylen Alm.base; simp; omega
theorem week_math (day Y : Int) (hy : yr 1 (day - ((day + 3) % 7 + 1) + 4) Y) :
    fmon Y + 7 * ((day - fmon Y) / 7 + 1 - 1) + ((day + 3) % 7 + 1) - 1 = day ∧ 1 ≤ (day - fmon Y) / 7 + 1 ∧ (day - fmon Y) / 7 + 1 ≤ (fmon (Y + 1) - fmon Y) / 7 ∧ ((fmon (Y + 1) - fmon Y) / 7 = 52 ∨ (fmon (Y + 1) - fmon Y) / 7 = 53) := by
  obtain ⟨a, b⟩ := hy
  have s := start1_succ Y
  unfold fmon
  generalize Alm.start 1 (Y + 1) = s1 at *
  generalize Alm.start 1 Y = s0 at *
  refine ⟨?_, ?_, ?_, ?_⟩ <;> omega
theorem week_next (day Y Z : Int) (hy : yr 1 (day - ((day + 3) % 7 + 1) + 4) Y) (hz : yr 1 (day + 7 - ((day + 7 + 3) % 7 + 1) + 4) Z) :
    (Z = Y ∧ (day + 7 - fmon Z) / 7 + 1 = (day - fmon Y) / 7 + 1 + 1) ∨ (Z = Y + 1 ∧ (day + 7 - fmon Z) / 7 + 1 = 1 ∧ (day - fmon Y) / 7 + 1 = (fmon (Y + 1) - fmon Y) / 7) := by
  have s := start1_succ Y
  have e : (day + 7 + 3) % 7 = (day + 3) % 7 := by omega
  rw [e] at hz
  by_cases h : day + 7 - ((day + 3) % 7 + 1) + 4 < Alm.start 1 (Y + 1)
  · have : Z = Y := Alm.year_unique 1 _ _ _ (by omega) (by omega) hz.1 hz.2 (by have := hy.1; omega) h
    subst this
    left; exact ⟨rfl, by omega⟩
  · have s2 := start1_succ (Y + 1)
    have : Z = Y + 1 := Alm.year_unique 1 _ _ _ (by omega) (by omega) hz.1 hz.2 (by omega) (by have := hy.2; omega)
    subst this
    right
    refine ⟨rfl, ?_⟩
    obtain ⟨a, b⟩ := hy
    clear hz e s2
    unfold fmon
    generalize Alm.start 1 (Y + 1) = s1 at *
    generalize Alm.start 1 Y = s0 at *
    constructor <;> omega
end Go.Proofs.YtcidhedmbcoafaaDoor
