/- DaysWeeks: weekdays and weeks. -/
import Derived.Test.YtcidhedmbcoafaaDoorRefH
import Derived.Test.YtcidhedmbcoafaaDoorWeekC
namespace Go.Proofs.YtcidhedmbcoafaaDoor
open Go.RowKit Go.Shelf
set_option linter.unusedVariables false
set_option linter.unusedSimpArgs false

theorem ofWeek_out (y n d : Int) (w : World) (h : y < -20000 ∨ 20000 < y) :
    Calls Tryd.prog 57 #[.int .i64 y, .int .i64 n, .int .i64 d] w fun e w' => e = .returned (.tuple #[.int .i64 0, .iface 23 (.int .i64 4)]) ∧ Below w.heap.size w w' := by
  have KW := hide (fun W => weeks_no y W h)
  clear h
  go_enter Tryd.func57, Tryd.ntmps57
  go_wp2_with fail
  refine (KW.out _).mono ?_
  rintro e W ⟨rfl, hb⟩
  go_wp2
  go_ret2
  exact ⟨rfl, hb⟩
theorem ofWeek_bad (y n d : Int) (w : World) (y1 : -20000 ≤ y) (y2 : y ≤ 20000) (h : n < 1 ∨ (1 ≤ n ∧ (fmon (y + 1) - fmon y) / 7 < n) ∨ (1 ≤ n ∧ n ≤ (fmon (y + 1) - fmon y) / 7 ∧ d < 1) ∨ (1 ≤ n ∧ n ≤ (fmon (y + 1) - fmon y) / 7 ∧ 1 ≤ d ∧ 7 < d)) :
    Calls Tryd.prog 57 #[.int .i64 y, .int .i64 n, .int .i64 d] w fun e w' => e = .returned (.tuple #[.int .i64 0, .iface 23 (.int .i64 3)]) ∧ Below w.heap.size w w' := by
  have KW := hide (fun W => weeks_ok y W y1 y2)
  generalize (fmon (y + 1) - fmon y) / 7 = k at *
  rcases h with h | ⟨h0, h⟩ | ⟨h0, h3, h⟩ | ⟨h0, h3, h4, h⟩
  all_goals
    go_enter Tryd.func57, Tryd.ntmps57
    go_wp2_with fail
    refine (KW.out _).mono ?_
    rintro e W ⟨rfl, hb⟩
    go_wp2
    go_ret2
    exact ⟨rfl, hb⟩
theorem ofWeek_far (y n d : Int) (w : World) (y1 : -20000 ≤ y) (y2 : y ≤ 20000) (n1 : 1 ≤ n) (n2 : n ≤ (fmon (y + 1) - fmon y) / 7) (e1 : 1 ≤ d) (e2 : d ≤ 7) (h : fmon y + 7 * (n - 1) + d - 1 < -4000000 ∨ 4000000 < fmon y + 7 * (n - 1) + d - 1) :
    Calls Tryd.prog 57 #[.int .i64 y, .int .i64 n, .int .i64 d] w fun e w' => e = .returned (.tuple #[.int .i64 0, .iface 23 (.int .i64 4)]) ∧ Below w.heap.size w w' := by
  have KW := hide (fun W => weeks_ok y W y1 y2)
  have KF := hide (fun W => fmon_any y W (by omega) (by omega))
  have fb := fmon_bd y (by omega) (by omega)
  have fb1 := fmon_bd (y + 1) (by omega) (by omega)
  have kb : (fmon (y + 1) - fmon y) / 7 ≤ 5000000 := by omega
  have KT := hide (fun W => ifThere_no (fmon y + 7 * (n - 1) + d - 1) W h)
  clear h
  generalize (fmon (y + 1) - fmon y) / 7 = k at *
  generalize fmon y = fm at *
  go_enter Tryd.func57, Tryd.ntmps57
  go_wp2_with fail
  refine (KW.out _).mono ?_
  rintro e W ⟨rfl, hb⟩
  go_wp2_with fail
  refine (KF.out _).mono ?_
  rintro e W2 ⟨rfl, hb2⟩
  go_wp2_with fail
  refine (KT.out _).mono ?_
  rintro e w' ⟨rfl, rfl⟩
  go_wp2
  go_ret2
  exact ⟨rfl, hb.trans (hb2.mono hb.size)⟩
theorem ofWeek_no (y n d : Int) (w : World) (h : werr y n d ≠ 0) :
    Calls Tryd.prog 57 #[.int .i64 y, .int .i64 n, .int .i64 d] w fun e w' => e = .returned (.tuple #[.int .i64 0, .iface 23 (.int .i64 (werr y n d))]) ∧ Below w.heap.size w w' := by
  by_cases hy : y < -20000 ∨ 20000 < y
  · have e : werr y n d = 4 := by unfold werr; rw [if_pos hy]
    rw [e]; exact ofWeek_out y n d w hy
  · by_cases h1 : n < 1 ∨ (fmon (y + 1) - fmon y) / 7 < n ∨ d < 1 ∨ 7 < d
    · have e : werr y n d = 3 := by unfold werr; rw [if_neg hy, if_pos h1]
      rw [e]; exact ofWeek_bad y n d w (by omega) (by omega) (by omega)
    · by_cases h2 : fmon y + 7 * (n - 1) + d - 1 < -4000000 ∨ 4000000 < fmon y + 7 * (n - 1) + d - 1
      · have e : werr y n d = 4 := by unfold werr; rw [if_neg hy, if_neg h1, if_pos h2]
        rw [e]; exact ofWeek_far y n d w (by omega) (by omega) (by omega) (by omega) (by omega) (by omega) h2
      · exact absurd (by unfold werr; rw [if_neg hy, if_neg h1, if_neg h2]) h
theorem pweeks_no (y : Int) (w : World) (hd : Hd w) (h : y < -20000 ∨ 20000 < y) :
    Calls Tryd.prog 26 #[.int .i64 y] w fun e w' => e = .returned (.tuple #[.int .i64 0, .int .i64 4]) ∧ Below w.heap.size w w' := by
  go_enter Tryd.func26, Tryd.ntmps26
  go_wp2_with fail
  refine (weeks_no y _ h).mono ?_
  rintro e W ⟨rfl, hb⟩
  go_wp2_with fail
  refine (tell_err _ _ (hd.later hb)).mono ?_
  rintro e W2 ⟨rfl, hb2⟩
  go_wp2
  go_ret2
  exact ⟨rfl, hb.trans (hb2.mono hb.size)⟩
theorem pofWeek_no (y n d : Int) (w : World) (hd : Hd w) (h : werr y n d ≠ 0) :
    Calls Tryd.prog 28 #[.int .i64 y, .int .i64 n, .int .i64 d] w fun e w' => e = .returned (.tuple #[.int .i64 0, .int .i64 (werr y n d)]) ∧ Below w.heap.size w w' := by
  go_enter Tryd.func28, Tryd.ntmps28
  go_wp2_with fail
  refine (ofWeek_no y n d _ h).mono ?_
  rintro e W ⟨rfl, hb⟩
  go_wp2_with fail
  refine (tell_err _ _ (hd.later hb)).mono ?_
  rintro e W2 ⟨rfl, hb2⟩
  go_wp2
  go_ret2
  exact ⟨rfl, hb.trans (hb2.mono hb.size)⟩
theorem pofWeek_val (y n d : Int) (w : World) (hd : Hd w) :
    Calls Tryd.prog 28 #[.int .i64 y, .int .i64 n, .int .i64 d] w fun e w' => e = .returned (.tuple #[.int .i64 (wval y n d), .int .i64 (werr y n d)]) ∧ Below w.heap.size w w' := by
  by_cases h : werr y n d = 0
  · rw [show wval y n d = fmon y + 7 * (n - 1) + d - 1 from by unfold wval; rw [if_pos h], h]
    exact pofWeek_ok y n d w h
  · rw [show wval y n d = 0 from by unfold wval; rw [if_neg h]]
    exact pofWeek_no y n d w hd h

set_option maxRecDepth 100000 in
set_option maxHeartbeats 3200000 in
theorem weeks_steps (day y n d a b c e k g x i : Int) (w : World) (hd : Hd w)
    (k1 : ∀ W, Hd W → Calls Tryd.prog 24 #[.int .i64 day] W fun r w' => r = .returned (.tuple #[.int .i64 a, .int .i64 b, .int .i64 c, .int .i64 e]) ∧ Below W.heap.size W w')
    (k2 : ∀ W, Calls Tryd.prog 25 #[.int .i64 day] W fun r w' => r = .returned (.tuple #[.int .i64 a, .int .i64 b, .int .i64 c, .int .i64 e]) ∧ Below W.heap.size W w')
    (k3 : ∀ W, Hd W → Calls Tryd.prog 26 #[.int .i64 y] W fun r w' => r = .returned (.tuple #[.int .i64 k, .int .i64 g]) ∧ Below W.heap.size W w')
    (k4 : ∀ W, Calls Tryd.prog 27 #[.int .i64 y] W fun r w' => r = .returned (.tuple #[.int .i64 k, .int .i64 g]) ∧ Below W.heap.size W w')
    (k5 : ∀ W, Hd W → Calls Tryd.prog 28 #[.int .i64 y, .int .i64 n, .int .i64 d] W fun r w' => r = .returned (.tuple #[.int .i64 x, .int .i64 i]) ∧ Below W.heap.size W w')
    (k6 : ∀ W, Calls Tryd.prog 29 #[.int .i64 y, .int .i64 n, .int .i64 d] W fun r w' => r = .returned (.tuple #[.int .i64 x, .int .i64 i]) ∧ Below W.heap.size W w') :
    Calls Tryd.prog 6 #[.int .i64 day, .int .i64 y, .int .i64 n, .int .i64 d] w fun r w' => r = .returned (.bool true) ∧ Below w.heap.size w w' := by
  have K1 := hide k1
  have K2 := hide k2
  have K3 := hide k3
  have K4 := hide k4
  have K5 := hide k5
  have K6 := hide k6
  clear k1 k2 k3 k4 k5 k6
  go_enter Tryd.func6, Tryd.ntmps6
  go_wp2_with fail
  refine (K1.out _ hd).mono ?_
  rintro r W1 ⟨rfl, b1⟩
  go_wp2_with fail
  refine (K2.out _).mono ?_
  rintro r W2 ⟨rfl, b2⟩
  have c2 := b1.trans (b2.mono b1.size)
  go_wp2_with fail
  refine (K3.out _ (hd.later c2)).mono ?_
  rintro r W3 ⟨rfl, b3⟩
  have c3 := c2.trans (b3.mono c2.size)
  go_wp2_with fail
  refine (K4.out _).mono ?_
  rintro r W4 ⟨rfl, b4⟩
  have c4 := c3.trans (b4.mono c3.size)
  go_wp2_with fail
  refine (K5.out _ (hd.later c4)).mono ?_
  rintro r W5 ⟨rfl, b5⟩
  have c5 := c4.trans (b5.mono c4.size)
  go_wp2_with fail
  refine (K6.out _).mono ?_
  rintro r W6 ⟨rfl, b6⟩
  have c6 := c5.trans (b6.mono c5.size)
  clear K1 K2 K3 K4 K5 K6
  go_wp2_with (first | (go_at_call 30; refine (pweekday_any _ _).mono ?_; rintro e w' ⟨rfl, rfl⟩) | (go_at_call 31; refine (rweekday_any _ _).mono ?_; rintro e w' ⟨rfl, rfl⟩))
  go_ret
  exact ⟨rfl, c6⟩
theorem dweeks_walk (day y n d : Int) (w : World) (hd : Hd w) :
    Calls Tryd.prog 6 #[.int .i64 day, .int .i64 y, .int .i64 n, .int .i64 d] w fun r w' => r = .returned (.bool true) ∧ Below w.heap.size w w' := by
  have k5 := fun W hW => pofWeek_val y n d W hW
  have k6 := fun W => rofWeek_val y n d W
  have hw : ∃ a b c e : Int, (∀ W, Hd W → Calls Tryd.prog 24 #[.int .i64 day] W fun r w' => r = .returned (.tuple #[.int .i64 a, .int .i64 b, .int .i64 c, .int .i64 e]) ∧ Below W.heap.size W w') ∧ (∀ W, Calls Tryd.prog 25 #[.int .i64 day] W fun r w' => r = .returned (.tuple #[.int .i64 a, .int .i64 b, .int .i64 c, .int .i64 e]) ∧ Below W.heap.size W w') := by
    by_cases h : day < -4000000 ∨ 4000000 < day
    · exact ⟨_, _, _, _, fun W hW => pweek_no day W hW h, fun W => rweek_no day W h⟩
    · obtain ⟨Y, hy, y1, y2⟩ := yr_ex 1 (day - ((day + 3) % 7 + 1) + 4) (by omega) (by omega) (by omega) (by omega)
      exact ⟨_, _, _, _, fun W _ => pweek_ok day Y W (by omega) (by omega) hy y1 y2, fun W => rweek_ok day Y W (by omega) (by omega) hy y1 y2⟩
  obtain ⟨a, b, c, e, k1, k2⟩ := hw
  by_cases hy : y < -20000 ∨ 20000 < y
  · exact weeks_steps day y n d a b c e _ _ _ _ w hd k1 k2 (fun W hW => pweeks_no y W hW hy) (fun W => rweeks_no y W hy) k5 k6
  · exact weeks_steps day y n d a b c e _ _ _ _ w hd k1 k2 (fun W _ => pweeks_ok y W (by omega) (by omega)) (fun W => rweeks_ok y W (by omega) (by omega)) k5 k6
end Go.Proofs.YtcidhedmbcoafaaDoor
