/- Weeks: package plain. -/
import Derived.Test.YtafaacliphdndaaGreatDoorMClockTexts33
namespace Go.Proofs.YtafaacliphdndaaGreatDoor
open Go.RowKit Go.Shelf
set_option linter.unusedVariables false

theorem field3 (g0 : Nat) (l0 : Array Value) (g1 : Nat) (l1 : Array Value) (g2 : Nat) (l2 : Array Value) (g3 : Nat) (l3 : Array Value) (W : World) :
    Sem.run Tryz.prog (Instr.field 148 (.agg #[fv g0 l0, fv g1 l1, fv g2 l2, fv g3 l3]) 3) W = .ok (fv g3 l3) W := by
  kernel_rfl

/-- the day with which the weeks of a year begin -/
def fmon (y : Int) : Int := Alm.start 1 y + 3 - (Alm.start 1 y + 3 + 3) % 7
theorem fmon_bd (y : Int) (y1 : -20001 ≤ y) (y2 : y ≤ 20001) : -10000000 ≤ fmon y ∧ fmon y ≤ 10000000 := by
  unfold fmon; simp [Alm.start, Alm.gahead]; omega
set_option maxRecDepth 100000 in
theorem fmon_any (y : Int) (w : World) (y1 : -20001 ≤ y) (y2 : y ≤ 20001) :
    Calls Tryz.prog 178 #[.int .i64 y] w fun e w' => e = .returned (.int .i64 (fmon y)) ∧ Below w.heap.size w w' := by
  have sb := Alm.start_bd 1 y (by omega) (by omega) (by omega) (by omega)
  go_enter Tryz.func178, Tryz.ntmps178
  go_wp2_with fail
  refine (gregorian_any _).mono ?_
  rintro e W ⟨g0, l0, g1, l1, g2, l2, g3, l3, rfl, hc, hb⟩
  have en := hc.start.enters
  have k1 := hc.start.calls _ y (Since.refl _ _) (by omega) (by omega)
  clear hc
  have E := hide (show Alm.start 1 y + 3 - ((Alm.start 1 y + 3 + 3) % 7 + 1) + 1 = fmon y by unfold fmon; omega)
  generalize Alm.start 1 y = st at *
  go_wp2_with (first | (go_at_call 183; refine (weekday_any _ _).mono ?_; rintro e w' ⟨rfl, rfl⟩) | (go_at_fn g3; refine k1.mono ?_; rintro e w' ⟨rfl, q, rfl⟩))
  rw [field3]
  go_wp2_with (first | (go_at_call 183; refine (weekday_any _ _).mono ?_; rintro e w' ⟨rfl, rfl⟩) | (go_at_fn g3; refine k1.mono ?_; rintro e w' ⟨rfl, q, rfl⟩))
  go_ret
  exact ⟨ret_int E.out, below_drewN hb _⟩
end Go.Proofs.YtafaacliphdndaaGreatDoor
namespace Go.Proofs.YtafaacliphdndaaGreatDoor
open Go.RowKit Go.Shelf
set_option linter.unusedVariables false

theorem weeks_ok (y : Int) (w : World) (y1 : -20000 ≤ y) (y2 : y ≤ 20000) :
    Calls Tryz.prog 177 #[.int .i64 y] w fun e w' => e = .returned (.tuple #[.int .i64 ((fmon (y + 1) - fmon y) / 7), .nilIface]) ∧ Below w.heap.size w w' := by
  have fb := fmon_bd y (by omega) (by omega)
  have fb1 := fmon_bd (y + 1) (by omega) (by omega)
  have KF := hide (fun W => fmon_any y W (by omega) (by omega))
  have KG := hide (fun W => fmon_any (y + 1) W (by omega) (by omega))
  generalize fmon (y + 1) = fm1 at *
  generalize fmon y = fm at *
  go_enter Tryz.func177, Tryz.ntmps177
  go_wp2_with (go_at_call 134; refine (checkYear_ok y _ y1 y2).mono ?_; rintro e w' ⟨rfl, rfl⟩)
  refine (KG.out _).mono ?_
  rintro e W ⟨rfl, hb⟩
  go_wp2_with fail
  refine (KF.out _).mono ?_
  rintro e W2 ⟨rfl, hb2⟩
  go_wp2_with (go_at_call 153; refine (floor_any _ _ _ (by omega) (by omega) (by omega) (by omega)).mono ?_; rintro e w' ⟨rfl, rfl⟩)
  go_ret2
  exact ⟨rfl, hb.trans (hb2.mono hb.size)⟩
theorem weeks_no (y : Int) (w : World) (h : y < -20000 ∨ 20000 < y) :
    Calls Tryz.prog 177 #[.int .i64 y] w fun e w' => e = .returned (.tuple #[.int .i64 0, .iface 25 (.int .i64 4)]) ∧ Below w.heap.size w w' := by
  go_enter Tryz.func177, Tryz.ntmps177
  go_wp2_with (go_at_call 134; refine (checkYear_no y _ h).mono ?_; rintro e w' ⟨rfl, rfl⟩)
  go_ret2
  exact ⟨rfl, Below.refl _ _⟩
/-- what is wrong with a week and a weekday -/
def werr (y n d : Int) : Int := if y < -20000 ∨ 20000 < y then 4 else if n < 1 ∨ (fmon (y + 1) - fmon y) / 7 < n ∨ d < 1 ∨ 7 < d then 3 else if fmon y + 7 * (n - 1) + d - 1 < -4000000 ∨ 4000000 < fmon y + 7 * (n - 1) + d - 1 then 4 else 0
set_option maxHeartbeats 1000000 in
theorem ofWeek_ok (y n d : Int) (w : World) (h : werr y n d = 0) :
    Calls Tryz.prog 145 #[.int .i64 y, .int .i64 n, .int .i64 d] w fun e w' => e = .returned (.tuple #[.int .i64 (fmon y + 7 * (n - 1) + d - 1), .nilIface]) ∧ Below w.heap.size w w' := by
  unfold werr at h
  split at h <;> try omega
  split at h <;> try omega
  split at h <;> try omega
  rename_i h1 h2 h3
  clear h
  have y1 : -20000 ≤ y := by omega
  have y2 : y ≤ 20000 := by omega
  have fb := fmon_bd y (by omega) (by omega)
  have fb1 := fmon_bd (y + 1) (by omega) (by omega)
  have KW := hide (fun W => weeks_ok y W (by omega) (by omega))
  have KF := hide (fun W => fmon_any y W (by omega) (by omega))
  generalize (fmon (y + 1) - fmon y) / 7 = k at *
  generalize fmon y = fm at *
  have n1 : 1 ≤ n := by omega
  have n2 : n ≤ k := by omega
  have e1 : 1 ≤ d := by omega
  have e2 : d ≤ 7 := by omega
  have t1 : -4000000 ≤ fm + 7 * (n - 1) + d - 1 := by omega
  have t2 : fm + 7 * (n - 1) + d - 1 ≤ 4000000 := by omega
  clear h1 h2 h3
  go_enter Tryz.func145, Tryz.ntmps145
  go_wp2_with fail
  refine (KW.out _).mono ?_
  rintro e W ⟨rfl, hb⟩
  go_wp2_with fail
  refine (KF.out _).mono ?_
  rintro e W2 ⟨rfl, hb2⟩
  go_wp2_with (go_at_call 99; refine (ifThere_ok _ _ t1 t2).mono ?_; rintro e w' ⟨rfl, rfl⟩)
  go_ret2
  exact ⟨rfl, hb.trans (hb2.mono hb.size)⟩
end Go.Proofs.YtafaacliphdndaaGreatDoor
namespace Go.Proofs.YtafaacliphdndaaGreatDoor
open Go.RowKit Go.Shelf
set_option linter.unusedVariables false

/-! ### the mathematics of weeks -/
theorem start1_succ (Y : Int) : Alm.start 1 (Y + 1) = Alm.start 1 Y + 365 ∨ Alm.start 1 (Y + 1) = Alm.start 1 Y + 366 := by
  have h := Alm.start_succ 1 Y (by omega) (by omega)
  have l := Alm.l01_bd 1 Y
  rw [h]; unfold Alm.ylen Alm.base; simp; omega
theorem week_math (day Y : Int) (hy : yr 1 (day - ((day + 3) % 7 + 1) + 4) Y) :
    fmon Y + 7 * ((day - fmon Y) / 7 + 1 - 1) + ((day + 3) % 7 + 1) - 1 = day ∧ 1 ≤ (day - fmon Y) / 7 + 1 ∧ (day - fmon Y) / 7 + 1 ≤ (fmon (Y + 1) - fmon Y) / 7 ∧ ((fmon (Y + 1) - fmon Y) / 7 = 52 ∨ (fmon (Y + 1) - fmon Y) / 7 = 53) := by
  obtain ⟨a, b⟩ := hy
  have s := start1_succ Y
  unfold fmon
  generalize Alm.start 1 (Y + 1) = s1 at *
  generalize Alm.start 1 Y = s0 at *
  refine ⟨?_, ?_, ?_, ?_⟩ <;> omega
theorem week_next (day Y Z : Int) (hy : yr 1 (day - ((day + 3) % 7 + 1) + 4) Y) (hz : yr 1 (day + 7 - ((day + 7 + 3) % 7 + 1) + 4) Z) :
    (Z = Y ∧ (day + 7 - fmon Z) / 7 + 1 = (day - fmon Y) / 7 + 1 + 1) ∨ (Z = Y + 1 ∧ (day + 7 - fmon Z) / 7 + 1 = 1 ∧ (day - fmon Y) / 7 + 1 = (fmon (Y + 1) - fmon Y) / 7) := by
  have s := start1_succ Y
  have e : (day + 7 + 3) % 7 = (day + 3) % 7 := by omega
  rw [e] at hz
  by_cases h : day + 7 - ((day + 3) % 7 + 1) + 4 < Alm.start 1 (Y + 1)
  · have : Z = Y := Alm.year_unique 1 _ _ _ (by omega) (by omega) hz.1 hz.2 (by have := hy.1; omega) h
    subst this
    left; exact ⟨rfl, by omega⟩
  · have s2 := start1_succ (Y + 1)
    have : Z = Y + 1 := Alm.year_unique 1 _ _ _ (by omega) (by omega) hz.1 hz.2 (by omega) (by have := hy.2; omega)
    subst this
    right
    refine ⟨rfl, ?_⟩
    obtain ⟨a, b⟩ := hy
    clear hz e s2
    unfold fmon
    generalize Alm.start 1 (Y + 1) = s1 at *
    generalize Alm.start 1 Y = s0 at *
    constructor <;> omega
end Go.Proofs.YtafaacliphdndaaGreatDoor
