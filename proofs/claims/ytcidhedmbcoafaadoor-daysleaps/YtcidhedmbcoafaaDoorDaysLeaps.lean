/- DaysLeaps: leap years, and how long years and months are. -/
import Derived.Test.YtcidhedmbcoafaaDoorRefE
import Derived.Test.YtcidhedmbcoafaaDoorPlainA
namespace Go.Proofs.YtcidhedmbcoafaaDoor
open Go.RowKit Go.Shelf
set_option linter.unusedVariables false
set_option linter.unusedSimpArgs false

set_option maxHeartbeats 1600000 in
theorem leaps_steps (c y m : Int) (w : World) (hd : Hd w) (a : Bool) (e n g p i : Int)
    (k1 : ∀ W, Hd W → Calls Tryd.prog 14 #[.int .i64 c, .int .i64 y] W fun r w' => r = .returned (.tuple #[.bool a, .int .i64 e]) ∧ Below W.heap.size W w')
    (k2 : ∀ W, Calls Tryd.prog 15 #[.int .i64 c, .int .i64 y] W fun r w' => r = .returned (.tuple #[.bool a, .int .i64 e]) ∧ Below W.heap.size W w')
    (k3 : ∀ W, Hd W → Calls Tryd.prog 16 #[.int .i64 c, .int .i64 y] W fun r w' => r = .returned (.tuple #[.int .i64 n, .int .i64 g]) ∧ Below W.heap.size W w')
    (k4 : ∀ W, Calls Tryd.prog 17 #[.int .i64 c, .int .i64 y] W fun r w' => r = .returned (.tuple #[.int .i64 n, .int .i64 g]) ∧ Below W.heap.size W w')
    (k5 : ∀ W, Hd W → Calls Tryd.prog 18 #[.int .i64 c, .int .i64 y, .int .i64 m] W fun r w' => r = .returned (.tuple #[.int .i64 p, .int .i64 i]) ∧ Below W.heap.size W w')
    (k6 : ∀ W, Calls Tryd.prog 19 #[.int .i64 c, .int .i64 y, .int .i64 m] W fun r w' => r = .returned (.tuple #[.int .i64 p, .int .i64 i]) ∧ Below W.heap.size W w') :
    Calls Tryd.prog 3 #[.int .i64 c, .int .i64 y, .int .i64 m] w fun r w' => r = .returned (.bool true) ∧ Below w.heap.size w w' := by
  have K1 := hide k1
  have K2 := hide k2
  have K3 := hide k3
  have K4 := hide k4
  have K5 := hide k5
  have K6 := hide k6
  clear k1 k2 k3 k4 k5 k6
  go_enter Tryd.func3, Tryd.ntmps3
  go_wp2_with fail
  refine (K1.out _ hd).mono ?_
  rintro r W1 ⟨rfl, b1⟩
  go_wp2_with fail
  refine (K2.out _).mono ?_
  rintro r W2 ⟨rfl, b2⟩
  have c2 := b1.trans (b2.mono b1.size)
  go_wp2_with fail
  refine (K3.out _ (hd.later c2)).mono ?_
  rintro r W3 ⟨rfl, b3⟩
  have c3 := c2.trans (b3.mono c2.size)
  go_wp2_with fail
  refine (K4.out _).mono ?_
  rintro r W4 ⟨rfl, b4⟩
  have c4 := c3.trans (b4.mono c3.size)
  go_wp2_with fail
  refine (K5.out _ (hd.later c4)).mono ?_
  rintro r W5 ⟨rfl, b5⟩
  have c5 := c4.trans (b5.mono c4.size)
  go_wp2_with fail
  refine (K6.out _).mono ?_
  rintro r W6 ⟨rfl, b6⟩
  have c6 := c5.trans (b6.mono c5.size)
  clear K1 K2 K3 K4 K5 K6
  go_wp2
  go_ret
  exact ⟨rfl, c6⟩
theorem leaps_walk (c y m : Int) (w : World) (hd : Hd w) :
    Calls Tryd.prog 3 #[.int .i64 c, .int .i64 y, .int .i64 m] w fun r w' => r = .returned (.bool true) ∧ Below w.heap.size w w' := by
  by_cases h : c < 1 ∨ 10 < c ∨ y < -20000 ∨ 20000 < y
  · exact leaps_steps c y m w hd _ _ _ _ _ _ (fun W hW => pleap_no c y W hW h) (fun W => rleap_no c y W h) (fun W hW => pmonths_no c y W hW h) (fun W => rmonths_no c y W h)
      (fun W hW => plength_no c y m W hW (by omega)) (fun W => rlength_no c y m W (by omega))
  · by_cases hm : m < 1 ∨ Alm.months c y < m
    · exact leaps_steps c y m w hd _ _ _ _ _ _ (fun W hW => pleap_ok c y W (by omega) (by omega) (by omega) (by omega)) (fun W => rleap_ok c y W (by omega) (by omega) (by omega) (by omega)) (fun W hW => pmonths_ok c y W (by omega) (by omega) (by omega) (by omega)) (fun W => rmonths_ok c y W (by omega) (by omega) (by omega) (by omega))
        (fun W hW => plength_no c y m W hW (by omega)) (fun W => rlength_no c y m W (by omega))
    · exact leaps_steps c y m w hd _ _ _ _ _ _ (fun W hW => pleap_ok c y W (by omega) (by omega) (by omega) (by omega)) (fun W => rleap_ok c y W (by omega) (by omega) (by omega) (by omega)) (fun W hW => pmonths_ok c y W (by omega) (by omega) (by omega) (by omega)) (fun W => rmonths_ok c y W (by omega) (by omega) (by omega) (by omega))
        (fun W hW => plength_ok c y m W (by omega) (by omega) (by omega) (by omega) (by omega) (by omega)) (fun W => rlength_ok c y m W (by omega) (by omega) (by omega) (by omega) (by omega) (by omega))
end Go.Proofs.YtcidhedmbcoafaaDoor
