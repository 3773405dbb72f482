/- ClockParts: times, their days and clocks. -/
import Derived.Test.YtkfjhflbbmmlkaaGreatDoorClockI
namespace Go.Proofs.YtkfjhflbbmmlkaaGreatDoor
open Go.RowKit Go.Shelf
set_option linter.unusedVariables false
set_option linter.unusedSimpArgs false

theorem two_boxes7 (V W : World) (T U : TypeId) (v0 v1 v2 v3 c0 c1 c2 : Value) (hb : Below ((V.alloc (.cells #[v0, v1, v2, v3] T)).alloc (.cells #[c0, c1, c2] U)).heap.size ((V.alloc (.cells #[v0, v1, v2, v3] T)).alloc (.cells #[c0, c1, c2] U)) W) :
    (W.cell? ⟨V.heap.size, 0, none⟩ = some v0 ∧ W.cell? ⟨V.heap.size, 1, none⟩ = some v1 ∧ W.cell? ⟨V.heap.size, 2, none⟩ = some v2 ∧ W.cell? ⟨V.heap.size, 3, none⟩ = some v3) ∧
    (W.cell? ⟨V.heap.size + 1, 0, none⟩ = some c0 ∧ W.cell? ⟨V.heap.size + 1, 1, none⟩ = some c1 ∧ W.cell? ⟨V.heap.size + 1, 2, none⟩ = some c2) ∧ V.heap.size + 1 < W.heap.size := by
  refine ⟨⟨?_, ?_, ?_, ?_⟩, ⟨?_, ?_, ?_⟩, by have := hb.size; simp at this; omega⟩
  · rw [hb.cell (p := ⟨V.heap.size, 0, none⟩) (by simp; omega)]; simp [go_sem]
  · rw [hb.cell (p := ⟨V.heap.size, 1, none⟩) (by simp; omega)]; simp [go_sem]
  · rw [hb.cell (p := ⟨V.heap.size, 2, none⟩) (by simp; omega)]; simp [go_sem]
  · rw [hb.cell (p := ⟨V.heap.size, 3, none⟩) (by simp; omega)]; simp [go_sem]
  · rw [hb.cell (p := ⟨V.heap.size + 1, 0, none⟩) (by simp)]; simp [go_sem]
  · rw [hb.cell (p := ⟨V.heap.size + 1, 1, none⟩) (by simp)]; simp [go_sem]
  · rw [hb.cell (p := ⟨V.heap.size + 1, 2, none⟩) (by simp)]; simp [go_sem]
set_option maxRecDepth 100000 in
set_option maxHeartbeats 8000000 in
theorem cparts_steps (t day s h m x a b e j g v i d0 d1 d2 d3 k0 k1 k2 q : Int) (w : World) (hd : Hd w)
    (p1 : ∀ W, Hd W → Calls Tryz.prog 9 #[.int .i64 t] W fun r w' => r = .returned (.tuple #[.int .i64 a, .int .i64 b, .int .i64 e]) ∧ Below W.heap.size W w')
    (p2 : ∀ W, Calls Tryz.prog 10 #[.int .i64 t] W fun r w' => r = .returned (.tuple #[.int .i64 a, .int .i64 b, .int .i64 e]) ∧ w' = W)
    (p3 : ∀ W, Hd W → Calls Tryz.prog 11 #[.int .i64 day, .int .i64 s] W fun r w' => r = .returned (.tuple #[.int .i64 j, .int .i64 g]) ∧ Below W.heap.size W w')
    (p4 : ∀ W, Calls Tryz.prog 12 #[.int .i64 day, .int .i64 s] W fun r w' => r = .returned (.tuple #[.int .i64 j, .int .i64 g]) ∧ w' = W)
    (p5 : ∀ W, Hd W → Calls Tryz.prog 13 #[.int .i64 day, .agg #[.int .i64 h, .int .i64 m, .int .i64 x]] W fun r w' => r = .returned (.tuple #[.int .i64 v, .int .i64 i]) ∧ Below W.heap.size W w')
    (p6 : ∀ W, Calls Tryz.prog 14 #[.int .i64 day, .agg #[.int .i64 h, .int .i64 m, .int .i64 x]] W fun r w' => r = .returned (.tuple #[.int .i64 v, .int .i64 i]) ∧ Below W.heap.size W w')
    (p7 : ∀ W, Hd W → Calls Tryz.prog 15 #[.int .i64 t] W fun r w' => r = .returned (.tuple #[.agg #[.int .i64 d0, .int .i64 d1, .int .i64 d2, .int .i64 d3], .agg #[.int .i64 k0, .int .i64 k1, .int .i64 k2], .int .i64 q]) ∧ Below W.heap.size W w')
    (p8 : ∀ W, Calls Tryz.prog 16 #[.int .i64 t] W fun r w' => r = .returned (.tuple #[.agg #[.int .i64 d0, .int .i64 d1, .int .i64 d2, .int .i64 d3], .agg #[.int .i64 k0, .int .i64 k1, .int .i64 k2], .int .i64 q]) ∧ Below W.heap.size W w') :
    Calls Tryz.prog 3 #[.int .i64 t, .int .i64 day, .int .i64 s, .agg #[.int .i64 h, .int .i64 m, .int .i64 x]] w fun r w' => r = .returned (.bool true) ∧ Below w.heap.size w w' := by
  have hB0 : Below w.heap.size w (w.alloc (.cells #[.int .i64 h, .int .i64 m, .int .i64 x] 24)) := (Below.refl _ w).alloc (Nat.le_refl _) _
  have P1 := hide (p1 _ (hd.later hB0))
  have P2 := hide p2
  have P3 := hide p3
  have P4 := hide p4
  have P5 := hide p5
  have P6 := hide p6
  have P7 := hide p7
  have P8 := hide p8
  clear p1 p2 p3 p4 p5 p6 p7 p8
  go_enter Tryz.func3, Tryz.ntmps3
  go_wp2_with fail
  refine P1.out.mono ?_
  rintro r W1 ⟨rfl, b1⟩
  have hs1 : w.heap.size < W1.heap.size := by have := b1.size; simp at this; omega
  have y0 : W1.cell? ⟨w.heap.size, 0, none⟩ = some (.int .i64 h) := by rw [b1.cell (p := ⟨w.heap.size, 0, none⟩) (by simp)]; simp
  have y1 : W1.cell? ⟨w.heap.size, 1, none⟩ = some (.int .i64 m) := by rw [b1.cell (p := ⟨w.heap.size, 1, none⟩) (by simp)]; simp
  have y2 : W1.cell? ⟨w.heap.size, 2, none⟩ = some (.int .i64 x) := by rw [b1.cell (p := ⟨w.heap.size, 2, none⟩) (by simp)]; simp
  have c1 := hB0.trans (b1.mono (by simp))
  clear b1 P1 hB0
  go_wp2_with fail
  refine (P2.out _).mono ?_
  rintro r w1 ⟨rfl, rfl⟩
  go_wp2_with fail
  refine (P3.out _ (hd.later c1)).mono ?_
  rintro r W3 ⟨rfl, b3⟩
  have c3 := c1.trans (b3.mono c1.size)
  have hs3 : w.heap.size < W3.heap.size := Nat.lt_of_lt_of_le hs1 b3.size
  have y0 := (b3.cell (p := ⟨w.heap.size, 0, none⟩) hs1).trans y0
  have y1 := (b3.cell (p := ⟨w.heap.size, 1, none⟩) hs1).trans y1
  have y2 := (b3.cell (p := ⟨w.heap.size, 2, none⟩) hs1).trans y2
  clear b3 P2 P3
  go_wp2_with fail
  refine (P4.out _).mono ?_
  rintro r w3 ⟨rfl, rfl⟩
  go_wp2_with fail
  refine (P5.out _ (hd.later c3)).mono ?_
  rintro r W5 ⟨rfl, b5⟩
  have c5 := c3.trans (b5.mono c3.size)
  have y0 := (b5.cell (p := ⟨w.heap.size, 0, none⟩) hs3).trans y0
  have y1 := (b5.cell (p := ⟨w.heap.size, 1, none⟩) hs3).trans y1
  have y2 := (b5.cell (p := ⟨w.heap.size, 2, none⟩) hs3).trans y2
  clear b5 P4 P5
  go_wp2_with fail
  refine (P6.out _).mono ?_
  rintro r W6 ⟨rfl, b6⟩
  have c6 := c5.trans (b6.mono c5.size)
  clear b6 P6 y0 y1 y2
  go_wp2_with fail
  refine (P7.out _ (hd.later c6)).mono ?_
  rintro r W7 ⟨rfl, b7⟩
  have c7 := c6.trans (b7.mono c6.size)
  have c7' := (c7.alloc c7.size (.cells #[.int .i64 d0, .int .i64 d1, .int .i64 d2, .int .i64 d3] 33)).alloc (by have := c7.size; simp; omega) (.cells #[.int .i64 k0, .int .i64 k1, .int .i64 k2] 24)
  have hs7 := c7.size
  clear b7 P7 c6 c5 c3 c1
  go_wp2_with fail
  refine (P8.out _).mono ?_
  rintro r W8 ⟨rfl, b8⟩
  obtain ⟨⟨z0, z1, z2, z3⟩, ⟨u0, u1, u2⟩, hs8⟩ := two_boxes7 W7 W8 _ _ _ _ _ _ _ _ _ b8
  have c8 := c7'.trans (b8.mono (by simp; omega))
  have hs9 : W7.heap.size < W8.heap.size := by omega
  clear b8 P8 c7 c7'
  go_wp2
  go_ret
  exact ⟨rfl, (c8.alloc (by omega) _).alloc (by simp; omega) _⟩

theorem cparts_walk (t day s h m x : Int) (w : World) (hd : Hd w) (b1 : -9223372036854775808 ≤ t) (b2 : t < 9223372036854775808) :
    Calls Tryz.prog 3 #[.int .i64 t, .int .i64 day, .int .i64 s, .agg #[.int .i64 h, .int .i64 m, .int .i64 x]] w fun r w' => r = .returned (.bool true) ∧ Below w.heap.size w w' := by
  have p3 := fun W hW => pjoin_gen day s _ _ W hW (fun W' => cjoin_any day s W')
  have p4 := fun W => rjoin_any day s W
  have hc : ∃ v i : Int, (∀ W, Hd W → Calls Tryz.prog 13 #[.int .i64 day, .agg #[.int .i64 h, .int .i64 m, .int .i64 x]] W fun r w' => r = .returned (.tuple #[.int .i64 v, .int .i64 i]) ∧ Below W.heap.size W w') ∧ (∀ W, Calls Tryz.prog 14 #[.int .i64 day, .agg #[.int .i64 h, .int .i64 m, .int .i64 x]] W fun r w' => r = .returned (.tuple #[.int .i64 v, .int .i64 i]) ∧ Below W.heap.size W w') := by
    by_cases hb : cbad h m x
    · exact ⟨0, 3, fun W hW => pcof_gen day h m x 0 3 W hW (fun W' => cOf_bad day h m x W' hb), fun W => rclockOf_bad day h m x W hb⟩
    · unfold cbad at hb
      exact ⟨_, _, fun W hW => pcof_gen day h m x _ _ W hW (fun W' => cOf_ok day h m x W' (by omega) (by omega) (by omega) (by omega) (by omega) (by omega)), fun W => rclockOf_ok day h m x W (by omega) (by omega) (by omega) (by omega) (by omega) (by omega)⟩
  obtain ⟨v, i, p5, p6⟩ := hc
  by_cases ht : t < -345600000000 ∨ 345600086399 < t
  · exact cparts_steps t day s h m x 0 0 4 _ _ v i _ _ _ _ _ _ _ 4 w hd (fun W hW => psplit_gen t 0 0 4 W hW (fun W' => split_no t W' ht)) (fun W => rsplit_no t W b1 b2 ht) p3 p4 p5 p6
      (fun W hW => pctell_gen t _ _ _ _ _ _ _ 4 W hW (fun W' => tell_late t W' ht)) (fun W => rtell_no t W b1 b2 ht)
  · obtain ⟨y, mo, d, hD, y1, y2⟩ := date_ex1 (t / 86400) w (by omega) (by omega)
    exact cparts_steps t day s h m x _ _ 0 _ _ v i _ _ _ _ _ _ _ 0 w hd (fun W hW => psplit_gen t _ _ 0 W hW (fun W' => split_ok t W' (by omega) (by omega))) (fun W => rsplit_ok t W (by omega) (by omega)) p3 p4 p5 p6
      (fun W hW => pctell_gen t _ _ _ _ _ _ _ 0 W hW (fun W' => ctell_ok t y mo d W' (by omega) (by omega) hD)) (fun W => rtell_ok t y mo d W (by omega) (by omega) y1 y2 hD)
end Go.Proofs.YtkfjhflbbmmlkaaGreatDoor
