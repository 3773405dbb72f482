/- Weeks: days.Week, Weeks, OfWeek. -/
import Derived.Test.YtcffomellimmiaaGreatDoorWeekA
namespace Go.Proofs.YtcffomellimmiaaGreatDoor
open Go.RowKit Go.Shelf
set_option linter.unusedVariables false

theorem weeks_ok (y : Int) (w : World) (y1 : -20000 ≤ y) (y2 : y ≤ 20000) :
    Calls Tryz.prog 177 #[.int .i64 y] w fun e w' => e = .returned (.tuple #[.int .i64 ((fmon (y + 1) - fmon y) / 7), .nilIface]) ∧ Below w.heap.size w w' := by
  have fb := fmon_bd y (by omega) (by omega)
  have fb1 := fmon_bd (y + 1) (by omega) (by omega)
  have KF := hide (fun W => fmon_any y W (by omega) (by omega))
  have KG := hide (fun W => fmon_any (y + 1) W (by omega) (by omega))
  generalize fmon (y + 1) = fm1 at *
  generalize fmon y = fm at *
  go_enter Tryz.func177, Tryz.ntmps177
  go_wp2_with (go_at_call 187; refine (checkYear_ok y _ y1 y2).mono ?_; rintro e w' ⟨rfl, rfl⟩)
  refine (KG.out _).mono ?_
  rintro e W ⟨rfl, hb⟩
  go_wp2_with fail
  refine (KF.out _).mono ?_
  rintro e W2 ⟨rfl, hb2⟩
  go_wp2_with (go_at_call 153; refine (floor_any _ _ _ (by omega) (by omega) (by omega) (by omega)).mono ?_; rintro e w' ⟨rfl, rfl⟩)
  go_ret2
  exact ⟨rfl, hb.trans (hb2.mono hb.size)⟩
theorem weeks_no (y : Int) (w : World) (h : y < -20000 ∨ 20000 < y) :
    Calls Tryz.prog 177 #[.int .i64 y] w fun e w' => e = .returned (.tuple #[.int .i64 0, .iface 25 (.int .i64 4)]) ∧ Below w.heap.size w w' := by
  go_enter Tryz.func177, Tryz.ntmps177
  go_wp2_with (go_at_call 187; refine (checkYear_no y _ h).mono ?_; rintro e w' ⟨rfl, rfl⟩)
  go_ret2
  exact ⟨rfl, Below.refl _ _⟩
/-- what is wrong with a week and a weekday -/
def werr (y n d : Int) : Int := if y < -20000 ∨ 20000 < y then 4 else if n < 1 ∨ (fmon (y + 1) - fmon y) / 7 < n ∨ d < 1 ∨ 7 < d then 3 else if fmon y + 7 * (n - 1) + d - 1 < -4000000 ∨ 4000000 < fmon y + 7 * (n - 1) + d - 1 then 4 else 0
set_option maxHeartbeats 1000000 in
theorem ofWeek_ok (y n d : Int) (w : World) (h : werr y n d = 0) :
    Calls Tryz.prog 142 #[.int .i64 y, .int .i64 n, .int .i64 d] w fun e w' => e = .returned (.tuple #[.int .i64 (fmon y + 7 * (n - 1) + d - 1), .nilIface]) ∧ Below w.heap.size w w' := by
  unfold werr at h
  split at h <;> try omega
  split at h <;> try omega
  split at h <;> try omega
  rename_i h1 h2 h3
  clear h
  have y1 : -20000 ≤ y := by omega
  have y2 : y ≤ 20000 := by omega
  have fb := fmon_bd y (by omega) (by omega)
  have fb1 := fmon_bd (y + 1) (by omega) (by omega)
  have KW := hide (fun W => weeks_ok y W (by omega) (by omega))
  have KF := hide (fun W => fmon_any y W (by omega) (by omega))
  generalize (fmon (y + 1) - fmon y) / 7 = k at *
  generalize fmon y = fm at *
  have n1 : 1 ≤ n := by omega
  have n2 : n ≤ k := by omega
  have e1 : 1 ≤ d := by omega
  have e2 : d ≤ 7 := by omega
  have t1 : -4000000 ≤ fm + 7 * (n - 1) + d - 1 := by omega
  have t2 : fm + 7 * (n - 1) + d - 1 ≤ 4000000 := by omega
  clear h1 h2 h3
  go_enter Tryz.func142, Tryz.ntmps142
  go_wp2_with fail
  refine (KW.out _).mono ?_
  rintro e W ⟨rfl, hb⟩
  go_wp2_with fail
  refine (KF.out _).mono ?_
  rintro e W2 ⟨rfl, hb2⟩
  go_wp2_with (go_at_call 178; refine (ifThere_ok _ _ t1 t2).mono ?_; rintro e w' ⟨rfl, rfl⟩)
  go_ret2
  exact ⟨rfl, hb.trans (hb2.mono hb.size)⟩
end Go.Proofs.YtcffomellimmiaaGreatDoor
