/- Easter: the moons, days.Easter, plain.DaysEaster. -/
import Derived.Test.YtcidhedmbcoafaaDoorWeekC
namespace Go.Proofs.YtcidhedmbcoafaaDoor
open Go.RowKit Go.Shelf
set_option linter.unusedVariables false
set_option linter.unusedSimpArgs false

/-- how many days the full moon is ahead of the 19 April: in the east, in the west -/
def eMoon (y : Int) : Int := (14 + 11 * (y % 19)) % 30
def wMoon0 (y : Int) : Int := (14 + 11 * (y % 19) - 3 * (y / 100 + 1) / 4 + (5 + 8 * (y / 100 + 1)) / 25) % 30
def wMoon (y : Int) : Int := if wMoon0 y = 0 ∨ (wMoon0 y = 1 ∧ 10 < y % 19) then wMoon0 y + 1 else wMoon0 y
theorem eMoon_bd (y : Int) : 1 ≤ eMoon y ∧ eMoon y ≤ 29 := by
  unfold eMoon
  have h1 := Int.emod_nonneg y (b := 19) (by omega)
  have h2 := Int.emod_lt_of_pos y (b := 19) (by omega)
  generalize y % 19 = g at *
  omega
theorem wMoon_bd (y : Int) : 1 ≤ wMoon y ∧ wMoon y ≤ 29 := by
  unfold wMoon
  have h1 : 0 ≤ wMoon0 y ∧ wMoon0 y ≤ 29 := by unfold wMoon0; omega
  split <;> omega
theorem eastMoon_any (y : Int) (w : World) (y1 : 1 ≤ y) (y2 : y ≤ 20000) :
    Calls Tryd.prog 81 #[.int .i64 y] w fun e w' => e = .returned (.int .i64 (eMoon y)) ∧ w' = w := by
  go_enter Tryd.func81, Tryd.ntmps81
  go_wp2_with (go_at_call 79; refine (mod_any _ _ _ (by omega) (by omega)).mono ?_; rintro e w' ⟨rfl, rfl⟩)
  go_ret
  exact ⟨rfl, rfl⟩
set_option maxHeartbeats 1000000 in
theorem westMoon_any (y : Int) (w : World) (y1 : 1 ≤ y) (y2 : y ≤ 20000) :
    Calls Tryd.prog 80 #[.int .i64 y] w fun e w' => e = .returned (.int .i64 (wMoon y)) ∧ w' = w := by
  go_enter Tryd.func80, Tryd.ntmps80
  go_wp2_with (first | (go_at_call 79; refine (mod_any _ _ _ (by omega) (by omega)).mono ?_; rintro e w' ⟨rfl, rfl⟩) | (go_at_call 76; refine (floor_any _ _ _ (by omega) (by omega) (by omega) (by omega)).mono ?_; rintro e w' ⟨rfl, rfl⟩))
  all_goals
    go_ret
    refine ⟨ret_int ?_, rfl⟩
    try simp only [beq_iff_eq, beq_eq_false_iff_ne, ne_eq] at *
    unfold wMoon wMoon0
    split <;> omega

def eCal (e : Bool) : Int := if e then 2 else 1
def eAhead (e : Bool) (y : Int) : Int := if e then eMoon y else wMoon y
def eDay (e : Bool) (y : Int) : Int := dnum (eCal e) y 4 19 - eAhead e y + 7 - ((dnum (eCal e) y 4 19 - eAhead e y + 3) % 7 + 1) % 7
def eErr (e : Bool) (y : Int) : Int := if y < 1 ∨ 20000 < y then 4 else if derr (eCal e) y 4 19 ≠ 0 then derr (eCal e) y 4 19 else if eDay e y < -4000000 ∨ 4000000 < eDay e y then 4 else 0
set_option maxRecDepth 100000 in
set_option maxHeartbeats 1000000 in
theorem easter_out (e : Bool) (y : Int) (w : World) (h : y < 1 ∨ 20000 < y) :
    Calls Tryd.prog 60 #[.int .i64 y, .bool e] w fun r w' => r = .returned (.tuple #[.int .i64 0, .iface 23 (.int .i64 4)]) ∧ Below w.heap.size w w' := by
  rcases h with h | h
  all_goals
    go_enter Tryd.func60, Tryd.ntmps60
    go_wp2
    go_ret2
    exact ⟨rfl, Below.refl _ _⟩
set_option maxRecDepth 100000 in
set_option maxHeartbeats 800000 in
theorem easter_west (y n a : Int) (w : World) (v1 v2 : Value) (y1 : 1 ≤ y) (y2 : y ≤ 20000) (n1 : -4000000 ≤ n) (n2 : n ≤ 4000000) (a1 : 1 ≤ a) (a2 : a ≤ 29)
    (km : ∀ W, Calls Tryd.prog 80 #[.int .i64 y] W fun e w' => e = .returned (.int .i64 a) ∧ w' = W)
    (ko : ∀ W, Calls Tryd.prog 80 #[.int .i64 y] W fun e w' => e = .returned (.int .i64 (wMoon y)) ∧ w' = W)
    (kd : ∀ W, Calls Tryd.prog 45 #[.agg #[.int .i64 1, .int .i64 y, .int .i64 4, .int .i64 19]] W fun e w' => e = .returned (.tuple #[.int .i64 n, .nilIface]) ∧ Below W.heap.size W w')
    (kt : ∀ x W, x = n - a + 7 - ((n - a + 3) % 7 + 1) % 7 → Calls Tryd.prog 68 #[.int .i64 x] W fun e w' => e = .returned (.tuple #[v1, v2]) ∧ w' = W) :
    Calls Tryd.prog 60 #[.int .i64 y, .bool false] w fun r w' => r = .returned (.tuple #[v1, v2]) ∧ Below w.heap.size w w' := by
  have KM := hide km
  have KO := hide ko
  have KD := hide kd
  have KT := hide kt
  clear km kd kt ko
  generalize wMoon y = wm at *
  go_enter Tryd.func60, Tryd.ntmps60
  go_wp2_with (first | (go_at_call 80; refine (KM.out _).mono ?_; rintro e w' ⟨rfl, rfl⟩) | (go_at_call 80; refine (KO.out _).mono ?_; rintro e w' ⟨rfl, rfl⟩))
  refine (KD.out _).mono ?_
  rintro e W ⟨rfl, hb⟩
  go_wp2_with (first | (go_at_call 58; refine (weekday_any _ _).mono ?_; rintro e w' ⟨rfl, rfl⟩) | (go_at_call 68; refine (KT.out _ _ (by first | omega | (rw [Int.tmod_eq_emod_of_nonneg (by omega)]; omega))).mono ?_; rintro e w' ⟨rfl, rfl⟩))
  go_ret2
  refine ⟨rfl, ?_⟩
  first | exact (((Below.refl _ w).alloc (Nat.le_refl _) _).trans (hb.mono (by simp))) | exact ((((Below.refl _ w).alloc (Nat.le_refl _) _).setCell (by simp) _).trans (hb.mono (by simp)))
set_option maxRecDepth 100000 in
set_option maxHeartbeats 800000 in
theorem easter_east (y n a : Int) (w : World) (v1 v2 : Value) (y1 : 1 ≤ y) (y2 : y ≤ 20000) (n1 : -4000000 ≤ n) (n2 : n ≤ 4000000) (a1 : 1 ≤ a) (a2 : a ≤ 29)
    (km : ∀ W, Calls Tryd.prog 81 #[.int .i64 y] W fun e w' => e = .returned (.int .i64 a) ∧ w' = W)
    (ko : ∀ W, Calls Tryd.prog 80 #[.int .i64 y] W fun e w' => e = .returned (.int .i64 (wMoon y)) ∧ w' = W)
    (kd : ∀ W, Calls Tryd.prog 45 #[.agg #[.int .i64 2, .int .i64 y, .int .i64 4, .int .i64 19]] W fun e w' => e = .returned (.tuple #[.int .i64 n, .nilIface]) ∧ Below W.heap.size W w')
    (kt : ∀ x W, x = n - a + 7 - ((n - a + 3) % 7 + 1) % 7 → Calls Tryd.prog 68 #[.int .i64 x] W fun e w' => e = .returned (.tuple #[v1, v2]) ∧ w' = W) :
    Calls Tryd.prog 60 #[.int .i64 y, .bool true] w fun r w' => r = .returned (.tuple #[v1, v2]) ∧ Below w.heap.size w w' := by
  have KM := hide km
  have KO := hide ko
  have KD := hide kd
  have KT := hide kt
  clear km kd kt ko
  generalize wMoon y = wm at *
  go_enter Tryd.func60, Tryd.ntmps60
  go_wp2_with (first | (go_at_call 81; refine (KM.out _).mono ?_; rintro e w' ⟨rfl, rfl⟩) | (go_at_call 80; refine (KO.out _).mono ?_; rintro e w' ⟨rfl, rfl⟩))
  refine (KD.out _).mono ?_
  rintro e W ⟨rfl, hb⟩
  go_wp2_with (first | (go_at_call 58; refine (weekday_any _ _).mono ?_; rintro e w' ⟨rfl, rfl⟩) | (go_at_call 68; refine (KT.out _ _ (by first | omega | (rw [Int.tmod_eq_emod_of_nonneg (by omega)]; omega))).mono ?_; rintro e w' ⟨rfl, rfl⟩))
  go_ret2
  refine ⟨rfl, ?_⟩
  first | exact (((Below.refl _ w).alloc (Nat.le_refl _) _).trans (hb.mono (by simp))) | exact ((((Below.refl _ w).alloc (Nat.le_refl _) _).setCell (by simp) _).trans (hb.mono (by simp)))
end Go.Proofs.YtcidhedmbcoafaaDoor
