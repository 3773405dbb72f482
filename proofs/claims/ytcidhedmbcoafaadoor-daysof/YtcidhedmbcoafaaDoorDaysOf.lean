/- DaysOf: the date of a day. -/
import Derived.Test.YtcidhedmbcoafaaDoorRefG
namespace Go.Proofs.YtcidhedmbcoafaaDoor
open Go.RowKit Go.Shelf
set_option linter.unusedVariables false
set_option linter.unusedSimpArgs false

set_option maxHeartbeats 1600000 in
theorem ofs_steps (c day v0 v1 v2 v3 q : Int) (w : World) (hd : Hd w)
    (k1 : ∀ W, Hd W → Calls Tryd.prog 22 #[.int .i64 c, .int .i64 day] W fun r w' => r = .returned (.tuple #[.agg #[.int .i64 v0, .int .i64 v1, .int .i64 v2, .int .i64 v3], .int .i64 q]) ∧ Below W.heap.size W w')
    (k2 : ∀ W, Calls Tryd.prog 23 #[.int .i64 c, .int .i64 day] W fun r w' => r = .returned (.tuple #[.agg #[.int .i64 v0, .int .i64 v1, .int .i64 v2, .int .i64 v3], .int .i64 q]) ∧ Below W.heap.size W w') :
    Calls Tryd.prog 5 #[.int .i64 c, .int .i64 day] w fun r w' => r = .returned (.bool true) ∧ Below w.heap.size w w' := by
  have K1 := k1 _ hd
  have K2 := hide k2
  clear k1 k2
  go_enter Tryd.func5, Tryd.ntmps5
  go_wp2_with fail
  refine K1.mono ?_
  rintro e W ⟨rfl, hb⟩
  clear K1
  go_wp2_with fail
  refine (K2.out _).mono ?_
  rintro e W2 ⟨rfl, hb2⟩
  have q0 : ∀ j, W2.cell? ⟨W.heap.size, j, none⟩ = (W.alloc (.cells #[.int .i64 v0, .int .i64 v1, .int .i64 v2, .int .i64 v3] 31)).cell? ⟨W.heap.size, j, none⟩ := fun j => hb2.cell (p := ⟨W.heap.size, j, none⟩) (by simp)
  have e0 : W2.cell? ⟨W.heap.size, 0, none⟩ = some (.int .i64 v0) := by rw [q0]; simp
  have e1 : W2.cell? ⟨W.heap.size, 1, none⟩ = some (.int .i64 v1) := by rw [q0]; simp
  have e2 : W2.cell? ⟨W.heap.size, 2, none⟩ = some (.int .i64 v2) := by rw [q0]; simp
  have e3 : W2.cell? ⟨W.heap.size, 3, none⟩ = some (.int .i64 v3) := by rw [q0]; simp
  have hz : W.heap.size < W2.heap.size := by have := hb2.size; simp at this; omega
  have hs := hb.size
  have hB2 : Below w.heap.size w W2 := (hb.alloc hs _).trans (hb2.mono (by simp; omega))
  clear K2 q0 hb2
  go_wp2
  go_ret
  exact ⟨rfl, hB2.alloc (by omega) _⟩
theorem ofs_walk (c day : Int) (w : World) (hd : Hd w) :
    Calls Tryd.prog 5 #[.int .i64 c, .int .i64 day] w fun r w' => r = .returned (.bool true) ∧ Below w.heap.size w w' := by
  by_cases h : c < 1 ∨ 10 < c ∨ day < -4000000 ∨ 4000000 < day
  · exact ofs_steps c day _ _ _ _ _ w hd (fun W hW => pof_no c day W hW h) (fun W => rof_no c day W h)
  · obtain ⟨y, m, d, hD, y1, y2⟩ := date_ex c day w (by omega) (by omega) (by omega) (by omega)
    exact ofs_steps c day _ _ _ _ _ w hd (fun W _ => pof_ok c day y m d W (by omega) (by omega) (by omega) (by omega) hD) (fun W => rof_ok c day y m d W (by omega) (by omega) (by omega) (by omega) y1 y2 hD)
end Go.Proofs.YtcidhedmbcoafaaDoor
