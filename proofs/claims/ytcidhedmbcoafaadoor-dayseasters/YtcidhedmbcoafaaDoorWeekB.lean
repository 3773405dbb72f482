/- Weeks: days.Week, Weeks, OfWeek. -/
import Derived.Test.YtcidhedmbcoafaaDoorWeekA
namespace Go.Proofs.YtcidhedmbcoafaaDoor
open Go.RowKit Go.Shelf
set_option linter.unusedVariables false

set_option maxRecDepth 100000 in
theorem week_ok (day Y : Int) (w : World) (d1 : -4000000 ≤ day) (d2 : day ≤ 4000000) (hy : yr 1 (day - ((day + 3) % 7 + 1) + 4) Y) (y1 : -20000 ≤ Y) (y2 : Y < 20000) :
    Calls Tryd.prog 53 #[.int .i64 day] w fun e w' => e = .returned (.tuple #[.int .i64 Y, .int .i64 ((day - fmon Y) / 7 + 1), .int .i64 ((day + 3) % 7 + 1), .nilIface]) ∧ Below w.heap.size w w' := by
  have fb := fmon_bd Y (by omega) (by omega)
  have kf := fun W => fmon_any Y W (by omega) (by omega)
  have Hy := hide hy
  clear hy
  generalize fmon Y = fm at *
  have KF := hide kf
  clear kf
  go_enter Tryd.func53, Tryd.ntmps53
  go_wp2_with (first | (go_at_call 58; refine (weekday_any _ _).mono ?_; rintro e w' ⟨rfl, rfl⟩) | (go_at_call 72; refine (checkDay_ok day _ d1 d2).mono ?_; rintro e w' ⟨rfl, rfl⟩))
  refine (gregorian_any _).mono ?_
  rintro e W ⟨g0, l0, g1, l1, g2, l2, g3, l3, rfl, hc, hb⟩
  have k1 := hide (yearOf_any g0 l0 g1 l1 g2 l2 g3 l3 1 (day - ((day + 3) % 7 + 1) + 4) Y _ _ hc (fun k hk => by have := hb.size; simp at hk ⊢; omega) (by omega) (by omega) Hy.out y1 (by omega))
  clear hc
  go_wp2_with fail
  refine k1.out.mono ?_
  rintro e W2 ⟨rfl, hb2⟩
  have hbW := hb.trans (hb2.mono hb.size)
  go_wp2_with fail
  refine (KF.out _).mono ?_
  rintro e W3 ⟨rfl, hb3⟩
  go_wp2_with (go_at_call 76; refine (floor_any _ _ _ (by omega) (by omega) (by omega) (by omega)).mono ?_; rintro e w' ⟨rfl, rfl⟩)
  exact bodyPost_ret (v := .tuple #[.int .i64 Y, .int .i64 ((day - fm) / 7 + 1), .int .i64 ((day + 3) % 7 + 1), .nilIface]) (by simp [results, Tryd.results53, go_sem]) rfl ⟨rfl, hbW.trans (hb3.mono hbW.size)⟩
theorem week_no (day : Int) (w : World) (h : day < -4000000 ∨ 4000000 < day) :
    Calls Tryd.prog 53 #[.int .i64 day] w fun e w' => e = .returned (.tuple #[.int .i64 0, .int .i64 0, .int .i64 0, .iface 23 (.int .i64 4)]) ∧ Below w.heap.size w w' := by
  go_enter Tryd.func53, Tryd.ntmps53
  go_wp2_with (go_at_call 72; refine (checkDay_no day _ h).mono ?_; rintro e w' ⟨rfl, rfl⟩)
  exact bodyPost_ret (v := .tuple #[.int .i64 0, .int .i64 0, .int .i64 0, .iface 23 (.int .i64 4)]) (by simp [results, Tryd.results53, go_sem]) rfl ⟨rfl, Below.refl _ _⟩
theorem weeks_ok (y : Int) (w : World) (y1 : -20000 ≤ y) (y2 : y ≤ 20000) :
    Calls Tryd.prog 56 #[.int .i64 y] w fun e w' => e = .returned (.tuple #[.int .i64 ((fmon (y + 1) - fmon y) / 7), .nilIface]) ∧ Below w.heap.size w w' := by
  have fb := fmon_bd y (by omega) (by omega)
  have fb1 := fmon_bd (y + 1) (by omega) (by omega)
  have KF := hide (fun W => fmon_any y W (by omega) (by omega))
  have KG := hide (fun W => fmon_any (y + 1) W (by omega) (by omega))
  generalize fmon (y + 1) = fm1 at *
  generalize fmon y = fm at *
  go_enter Tryd.func56, Tryd.ntmps56
  go_wp2_with (go_at_call 78; refine (checkYear_ok y _ y1 y2).mono ?_; rintro e w' ⟨rfl, rfl⟩)
  refine (KG.out _).mono ?_
  rintro e W ⟨rfl, hb⟩
  go_wp2_with fail
  refine (KF.out _).mono ?_
  rintro e W2 ⟨rfl, hb2⟩
  go_wp2_with (go_at_call 76; refine (floor_any _ _ _ (by omega) (by omega) (by omega) (by omega)).mono ?_; rintro e w' ⟨rfl, rfl⟩)
  go_ret2
  exact ⟨rfl, hb.trans (hb2.mono hb.size)⟩
theorem weeks_no (y : Int) (w : World) (h : y < -20000 ∨ 20000 < y) :
    Calls Tryd.prog 56 #[.int .i64 y] w fun e w' => e = .returned (.tuple #[.int .i64 0, .iface 23 (.int .i64 4)]) ∧ Below w.heap.size w w' := by
  go_enter Tryd.func56, Tryd.ntmps56
  go_wp2_with (go_at_call 78; refine (checkYear_no y _ h).mono ?_; rintro e w' ⟨rfl, rfl⟩)
  go_ret2
  exact ⟨rfl, Below.refl _ _⟩
/-- what is wrong with a week and a weekday -/
def werr (y n d : Int) : Int := if y < -20000 ∨ 20000 < y then 4 else if n < 1 ∨ (fmon (y + 1) - fmon y) / 7 < n ∨ d < 1 ∨ 7 < d then 3 else if fmon y + 7 * (n - 1) + d - 1 < -4000000 ∨ 4000000 < fmon y + 7 * (n - 1) + d - 1 then 4 else 0
set_option maxHeartbeats 1000000 in
theorem ofWeek_ok (y n d : Int) (w : World) (h : werr y n d = 0) :
    Calls Tryd.prog 57 #[.int .i64 y, .int .i64 n, .int .i64 d] w fun e w' => e = .returned (.tuple #[.int .i64 (fmon y + 7 * (n - 1) + d - 1), .nilIface]) ∧ Below w.heap.size w w' := by
  unfold werr at h
  split at h <;> try omega
  split at h <;> try omega
  split at h <;> try omega
  rename_i h1 h2 h3
  clear h
  have y1 : -20000 ≤ y := by omega
  have y2 : y ≤ 20000 := by omega
  have fb := fmon_bd y (by omega) (by omega)
  have fb1 := fmon_bd (y + 1) (by omega) (by omega)
  have KW := hide (fun W => weeks_ok y W (by omega) (by omega))
  have KF := hide (fun W => fmon_any y W (by omega) (by omega))
  generalize (fmon (y + 1) - fmon y) / 7 = k at *
  generalize fmon y = fm at *
  have n1 : 1 ≤ n := by omega
  have n2 : n ≤ k := by omega
  have e1 : 1 ≤ d := by omega
  have e2 : d ≤ 7 := by omega
  have t1 : -4000000 ≤ fm + 7 * (n - 1) + d - 1 := by omega
  have t2 : fm + 7 * (n - 1) + d - 1 ≤ 4000000 := by omega
  clear h1 h2 h3
  go_enter Tryd.func57, Tryd.ntmps57
  go_wp2_with fail
  refine (KW.out _).mono ?_
  rintro e W ⟨rfl, hb⟩
  go_wp2_with fail
  refine (KF.out _).mono ?_
  rintro e W2 ⟨rfl, hb2⟩
  go_wp2_with (go_at_call 68; refine (ifThere_ok _ _ t1 t2).mono ?_; rintro e w' ⟨rfl, rfl⟩)
  go_ret2
  exact ⟨rfl, hb.trans (hb2.mono hb.size)⟩
end Go.Proofs.YtcidhedmbcoafaaDoor
