/- DaysDates: the number of a date. -/
import Derived.Test.YtcidhedmbcoafaaDoorRefF
import Derived.Test.YtcidhedmbcoafaaDoorPlainB
namespace Go.Proofs.YtcidhedmbcoafaaDoor
open Go.RowKit Go.Shelf
set_option linter.unusedVariables false
set_option linter.unusedSimpArgs false

set_option maxHeartbeats 1600000 in
theorem dates_steps (c y m d a q : Int) (w : World) (hd : Hd w)
    (k1 : ∀ W, Hd W → Calls Tryd.prog 20 #[.agg #[.int .i64 c, .int .i64 y, .int .i64 m, .int .i64 d]] W fun r w' => r = .returned (.tuple #[.int .i64 a, .int .i64 q]) ∧ Below W.heap.size W w')
    (k2 : ∀ W, Calls Tryd.prog 21 #[.agg #[.int .i64 c, .int .i64 y, .int .i64 m, .int .i64 d]] W fun r w' => r = .returned (.tuple #[.int .i64 a, .int .i64 q]) ∧ Below W.heap.size W w') :
    Calls Tryd.prog 4 #[.agg #[.int .i64 c, .int .i64 y, .int .i64 m, .int .i64 d]] w fun r w' => r = .returned (.bool true) ∧ Below w.heap.size w w' := by
  have hB0 : Below w.heap.size w (w.alloc (.cells #[.int .i64 c, .int .i64 y, .int .i64 m, .int .i64 d] 31)) := (Below.refl _ w).alloc (Nat.le_refl _) _
  have K1 := k1 _ (hd.later hB0)
  have K2 := hide k2
  clear k1 k2
  go_enter Tryd.func4, Tryd.ntmps4
  go_wp2_with fail
  refine K1.mono ?_
  rintro e W ⟨rfl, hb⟩
  have q0 : ∀ j, W.cell? ⟨w.heap.size, j, none⟩ = (w.alloc (.cells #[.int .i64 c, .int .i64 y, .int .i64 m, .int .i64 d] 31)).cell? ⟨w.heap.size, j, none⟩ := fun j => hb.cell (p := ⟨w.heap.size, j, none⟩) (by simp)
  have e0 : W.cell? ⟨w.heap.size, 0, none⟩ = some (.int .i64 c) := by rw [q0]; simp
  have e1 : W.cell? ⟨w.heap.size, 1, none⟩ = some (.int .i64 y) := by rw [q0]; simp
  have e2 : W.cell? ⟨w.heap.size, 2, none⟩ = some (.int .i64 m) := by rw [q0]; simp
  have e3 : W.cell? ⟨w.heap.size, 3, none⟩ = some (.int .i64 d) := by rw [q0]; simp
  have hb1 := hB0.trans (hb.mono (by simp))
  clear q0 K1 hb
  go_wp2_with fail
  refine (K2.out _).mono ?_
  rintro e W2 ⟨rfl, hb2⟩
  clear e0 e1 e2 e3 K2
  go_wp2
  go_ret
  exact ⟨rfl, hb1.trans (hb2.mono hb1.size)⟩
theorem dates_walk (c y m d : Int) (w : World) (hd : Hd w) :
    Calls Tryd.prog 4 #[.agg #[.int .i64 c, .int .i64 y, .int .i64 m, .int .i64 d]] w fun r w' => r = .returned (.bool true) ∧ Below w.heap.size w w' := by
  by_cases h : derr c y m d = 0
  · exact dates_steps c y m d _ _ w hd (fun W _ => pday_ok c y m d W h) (fun W => rday_ok c y m d W h)
  · exact dates_steps c y m d _ _ w hd (fun W hW => pday_no c y m d W hW h) (fun W => rday_no c y m d W h)
end Go.Proofs.YtcidhedmbcoafaaDoor
