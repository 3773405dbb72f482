/- DaysWeek: weeks are of seven days, and no day is left out. -/
import Derived.Test.YtemhjdhoioafdaaDoorWeekC
namespace Go.Proofs.YtemhjdhoioafdaaDoor
open Go.RowKit Go.Shelf
set_option linter.unusedVariables false

set_option maxRecDepth 100000 in
set_option maxHeartbeats 2000000 in
theorem wk_none (day : Int) (w : World) (hd : Hd w) (h : day < -4000000 ∨ 4000000 < day) :
    Calls Tryd.prog 11 #[.int .i64 day] w fun e w' => e = .returned (.bool true) ∧ Below w.heap.size w w' := by
  have K1 := hide (pweek_no day w hd h)
  rcases h with h | h
  all_goals
    go_enter Tryd.func11, Tryd.ntmps11
    go_wp2_with fail
    refine K1.out.mono ?_
    rintro e W ⟨rfl, hb⟩
    go_wp2
    go_ret
    exact ⟨rfl, hb⟩
set_option maxRecDepth 100000 in
set_option maxHeartbeats 2000000 in
theorem wk_last (day Y n wd : Int) (w : World) (d1 : -4000000 ≤ day) (d2 : day ≤ 4000000) (d3 : 4000000 < day + 7) (hw : wd = (day + 3) % 7 + 1)
    (k1 : ∀ W, Calls Tryd.prog 24 #[.int .i64 day] W fun e w' => e = .returned (.tuple #[.int .i64 Y, .int .i64 n, .int .i64 wd, .int .i64 0]) ∧ Below W.heap.size W w')
    (k2 : ∀ W, Calls Tryd.prog 28 #[.int .i64 Y, .int .i64 n, .int .i64 wd] W fun e w' => e = .returned (.tuple #[.int .i64 day, .int .i64 0]) ∧ Below W.heap.size W w') :
    Calls Tryd.prog 11 #[.int .i64 day] w fun e w' => e = .returned (.bool true) ∧ Below w.heap.size w w' := by
  have K1 := hide k1
  have K2 := hide k2
  have g : (wd != (day + 3) % 7 + 1) = false := by rw [bne_eq_false_iff_eq]; exact hw
  clear k1 k2 hw
  go_enter Tryd.func11, Tryd.ntmps11
  go_wp2_with fail
  refine (K1.out _).mono ?_
  rintro e W ⟨rfl, hb⟩
  go_wp2_with fail
  refine (K2.out _).mono ?_
  rintro e W2 ⟨rfl, hb2⟩
  have hbW := hb.trans (hb2.mono hb.size)
  go_wp2_with (go_at_call 30; refine (pweekday_any _ _).mono ?_; rintro e w' ⟨rfl, rfl⟩)
  go_ret
  exact ⟨rfl, hbW⟩
set_option maxRecDepth 100000 in
set_option maxHeartbeats 2000000 in
theorem wk_next (day Y n wd Z x k : Int) (w : World) (d1 : -4000000 ≤ day) (d2 : day ≤ 4000000) (d3 : day + 7 ≤ 4000000) (hw : wd = (day + 3) % 7 + 1) (hk : k = 52 ∨ k = 53) (y1 : -20000 ≤ Y) (y2 : Y ≤ 20000) (n1 : 1 ≤ n) (n2 : n ≤ k)
    (hz : (Z = Y ∧ x = n + 1) ∨ (Z = Y + 1 ∧ x = 1 ∧ n = k))
    (k1 : ∀ W, Calls Tryd.prog 24 #[.int .i64 day] W fun e w' => e = .returned (.tuple #[.int .i64 Y, .int .i64 n, .int .i64 wd, .int .i64 0]) ∧ Below W.heap.size W w')
    (k2 : ∀ W, Calls Tryd.prog 28 #[.int .i64 Y, .int .i64 n, .int .i64 wd] W fun e w' => e = .returned (.tuple #[.int .i64 day, .int .i64 0]) ∧ Below W.heap.size W w')
    (k3 : ∀ W, Calls Tryd.prog 24 #[.int .i64 (day + 7)] W fun e w' => e = .returned (.tuple #[.int .i64 Z, .int .i64 x, .int .i64 wd, .int .i64 0]) ∧ Below W.heap.size W w')
    (k4 : ∀ W, Calls Tryd.prog 26 #[.int .i64 Y] W fun e w' => e = .returned (.tuple #[.int .i64 k, .int .i64 0]) ∧ Below W.heap.size W w') :
    Calls Tryd.prog 11 #[.int .i64 day] w fun e w' => e = .returned (.bool true) ∧ Below w.heap.size w w' := by
  have K1 := hide k1
  have K2 := hide k2
  have K3 := hide k3
  have K4 := hide k4
  have g : (wd != (day + 3) % 7 + 1) = false := by rw [bne_eq_false_iff_eq]; exact hw
  clear k1 k2 k3 k4 hw
  rcases hz with ⟨z1, z2⟩ | ⟨z1, z2, z3⟩ <;> rcases hk with hk | hk
  all_goals
    subst z1 z2
    try subst z3
    subst hk
    go_enter Tryd.func11, Tryd.ntmps11
    go_wp2_with fail
    refine (K1.out _).mono ?_
    rintro e W ⟨rfl, hb⟩
    go_wp2_with fail
    refine (K2.out _).mono ?_
    rintro e W2 ⟨rfl, hb2⟩
    have hbW := hb.trans (hb2.mono hb.size)
    go_wp2_with (go_at_call 30; refine (pweekday_any _ _).mono ?_; rintro e w' ⟨rfl, rfl⟩)
    refine (K3.out _).mono ?_
    rintro e W3 ⟨rfl, hb3⟩
    have hbW3 := hbW.trans (hb3.mono hbW.size)
    go_wp2_with fail
    refine (K4.out _).mono ?_
    rintro e W4 ⟨rfl, hb4⟩
    have hbW4 := hbW3.trans (hb4.mono hbW3.size)
    go_wp2
    go_ret
    exact ⟨by simp, hbW4⟩
theorem week_walk (day : Int) (w : World) (hd : Hd w) :
    Calls Tryd.prog 11 #[.int .i64 day] w fun e w' => e = .returned (.bool true) ∧ Below w.heap.size w w' := by
  by_cases h : day < -4000000 ∨ 4000000 < day
  · exact wk_none day w hd h
  · obtain ⟨Y, hy, y1, y2⟩ := yr_ex 1 (day - ((day + 3) % 7 + 1) + 4) (by omega) (by omega) (by omega) (by omega)
    obtain ⟨m1, m2, m3, m4⟩ := week_math day Y hy
    have hwe : werr Y ((day - fmon Y) / 7 + 1) ((day + 3) % 7 + 1) = 0 := by
      unfold werr
      rw [m1, if_neg (by omega), if_neg (by omega), if_neg (by omega)]
    have k1 := fun W => pweek_ok day Y W (by omega) (by omega) hy y1 y2
    have k2 := fun W => pofWeek_ok Y _ _ W hwe
    rw [m1] at k2
    by_cases h7 : 4000000 < day + 7
    · exact wk_last day Y _ _ w (by omega) (by omega) h7 rfl k1 k2
    · obtain ⟨Z, hz, z1, z2⟩ := yr_ex 1 (day + 7 - ((day + 7 + 3) % 7 + 1) + 4) (by omega) (by omega) (by omega) (by omega)
      have k3 := fun W => pweek_ok (day + 7) Z W (by omega) (by omega) hz z1 z2
      have e : (day + 7 + 3) % 7 = (day + 3) % 7 := by omega
      rw [e] at k3
      exact wk_next day Y _ _ Z _ _ w (by omega) (by omega) (by omega) rfl m4 y1 (by omega) m2 m3 (week_next day Y Z hy hz) k1 k2 k3 (fun W => pweeks_ok Y W y1 (by omega))
end Go.Proofs.YtemhjdhoioafdaaDoor
