/- package clock: months that are added to a day. -/
import Derived.Test.YtafaacliphdndaaGreatDoorMClockTexts10
namespace Go.Proofs.YtafaacliphdndaaGreatDoor
open Go.RowKit
set_option linter.unusedVariables false
set_option linter.unusedSimpArgs false

theorem box4 (W X : World) (T : TypeId) (v0 v1 v2 v3 : Value) (hb : Below (W.alloc (.cells #[v0, v1, v2, v3] T)).heap.size (W.alloc (.cells #[v0, v1, v2, v3] T)) X) :
    (X.cell? ⟨W.heap.size, 0, none⟩ = some v0 ∧ X.cell? ⟨W.heap.size, 1, none⟩ = some v1 ∧ X.cell? ⟨W.heap.size, 2, none⟩ = some v2 ∧ X.cell? ⟨W.heap.size, 3, none⟩ = some v3) ∧ (∀ j, X.frozen? ⟨W.heap.size, j, none⟩ = false) ∧ W.heap.size < X.heap.size := by
  refine ⟨⟨?_, ?_, ?_, ?_⟩, fun j => ?_, by have := hb.size; simp at this; omega⟩
  · rw [hb.cell (p := ⟨W.heap.size, 0, none⟩) (by simp)]; simp
  · rw [hb.cell (p := ⟨W.heap.size, 1, none⟩) (by simp)]; simp
  · rw [hb.cell (p := ⟨W.heap.size, 2, none⟩) (by simp)]; simp
  · rw [hb.cell (p := ⟨W.heap.size, 3, none⟩) (by simp)]; simp
  · rw [hb.frozen (p := ⟨W.heap.size, j, none⟩) (by simp)]; simp
set_option maxRecDepth 100000 in
set_option maxHeartbeats 3200000 in
theorem addMonths_steps (day y m d n : Int) (v1 v2 : Value) (w : World) (d1 : -4000000 ≤ day) (d2 : day ≤ 4000000) (y1 : -20000 ≤ y) (y2 : y ≤ 20000) (m1 : 1 ≤ m) (m2 : m ≤ 12) (n1 : -20000000000000 ≤ n) (n2 : n ≤ 20000000000000) (l : Int) (hl : 1 ≤ l ∧ l ≤ 31) (hd : 1 ≤ d ∧ d ≤ 31)
    (ko : ∀ W, Calls Tryz.prog 69 #[.int .i64 1, .int .i64 day] W fun e w' => e = .returned (.tuple #[.agg #[.int .i64 1, .int .i64 y, .int .i64 m, .int .i64 d], .nilIface]) ∧ Below W.heap.size W w')
    (kl : ∀ W, Calls Tryz.prog 70 #[.int .i64 1, .int .i64 ((12 * y + m - 1 + n) / 12), .int .i64 ((12 * y + m - 1 + n) % 12 + 1)] W fun e w' => e = .returned (.tuple #[.int .i64 l, .nilIface]) ∧ Below W.heap.size W w')
    (kd : ∀ W, Calls Tryz.prog 71 #[.agg #[.int .i64 1, .int .i64 ((12 * y + m - 1 + n) / 12), .int .i64 ((12 * y + m - 1 + n) % 12 + 1), .int .i64 (min d l)]] W fun e w' => e = .returned (.tuple #[v1, v2]) ∧ Below W.heap.size W w') :
    Calls Tryz.prog 44 #[.int .i64 day, .int .i64 n] w fun e w' => e = .returned (.tuple #[v1, v2]) ∧ Below w.heap.size w w' := by
  have KO := hide ko
  have KL := hide kl
  have KD := hide kd
  clear ko kl kd
  go_enter Tryz.func44, Tryz.ntmps44
  go_wp2_with fail
  refine (KO.out _).mono ?_
  rintro e W ⟨rfl, hb⟩
  have hB0 := hb.alloc hb.size (.cells #[.int .i64 1, .int .i64 y, .int .i64 m, .int .i64 d] 55)
  have hsz := hb.size
  clear hb KO
  go_wp2_with fail
  refine (monthOf_c 1 y m d _ (by omega) (by omega) (by omega) (by omega)).mono ?_
  rintro e X ⟨rfl, hx⟩
  obtain ⟨⟨a0, a1, a2, a3⟩, fz, hs⟩ := box4 W X _ _ _ _ _ hx
  have hBX := hB0.trans (hx.mono (by simp; omega))
  clear hx hB0
  go_wp2_with (first | (go_at_call 67; refine (cfloor_any _ _ _ (by omega) (by omega) (by omega) (by omega)).mono ?_; rintro e w' ⟨rfl, rfl⟩) | (go_at_call 68; refine (cmod_any _ _ _ (by omega) (by omega)).mono ?_; rintro e w' ⟨rfl, rfl⟩))
  generalize (12 * y + m - 1 + n) / 12 = Y at *
  generalize (12 * y + m - 1 + n) % 12 + 1 = M at *
  refine (KL.out _).mono ?_
  rintro e X2 ⟨rfl, hx2⟩
  have hs2 : W.heap.size < X2.heap.size := by have := hx2.size; simp [World.setCell] at this; omega
  have g0 : X2.cell? ⟨W.heap.size, 0, none⟩ = some (.int .i64 1) := by rw [hx2.cell (p := ⟨W.heap.size, 0, none⟩) (by simp [World.setCell]; omega)]; simp [go_sem, a0, a1, a2, a3]
  have g1 : X2.cell? ⟨W.heap.size, 1, none⟩ = some (.int .i64 Y) := by rw [hx2.cell (p := ⟨W.heap.size, 1, none⟩) (by simp [World.setCell]; omega)]; simp [go_sem, a0, a1, a2, a3]
  have g2 : X2.cell? ⟨W.heap.size, 2, none⟩ = some (.int .i64 M) := by rw [hx2.cell (p := ⟨W.heap.size, 2, none⟩) (by simp [World.setCell]; omega)]; simp [go_sem, a0, a1, a2, a3]
  have g3 : X2.cell? ⟨W.heap.size, 3, none⟩ = some (.int .i64 d) := by rw [hx2.cell (p := ⟨W.heap.size, 3, none⟩) (by simp [World.setCell]; omega)]; simp [go_sem, a0, a1, a2, a3]
  have z3 : X2.frozen? ⟨W.heap.size, 3, none⟩ = false := by rw [hx2.frozen (p := ⟨W.heap.size, 3, none⟩) (by simp [World.setCell]; omega)]; simp [go_sem, fz]
  have hB2 : Below w.heap.size w X2 := ((hBX.setCell hsz _).setCell hsz _).trans (hx2.mono (by simp [World.setCell]; omega))
  clear hx2 a0 a1 a2 a3 fz hBX KL
  by_cases hdl : d ≤ l
  · rw [Int.min_eq_left hdl] at KD
    go_wp2_with fail
    refine (KD.out _).mono ?_
    rintro e X3 ⟨rfl, hx3⟩
    have hB3 := (hB2.setCell (p := ⟨W.heap.size, 3, none⟩) hsz (.int .i64 d)).trans (hx3.mono (by simp [World.setCell]; omega))
    clear hx3 KD hB2
    go_wp2
    go_ret2
    exact ⟨rfl, hB3⟩
  · rw [Int.min_eq_right (by omega)] at KD
    go_wp2_with fail
    refine (KD.out _).mono ?_
    rintro e X3 ⟨rfl, hx3⟩
    have hB3 := (hB2.setCell (p := ⟨W.heap.size, 3, none⟩) hsz (.int .i64 l)).trans (hx3.mono (by simp [World.setCell]; omega))
    clear hx3 KD hB2
    go_wp2
    go_ret2
    exact ⟨rfl, hB3⟩
set_option maxRecDepth 100000 in
set_option maxHeartbeats 3200000 in
theorem addMonths_far (day y m d n q : Int) (w : World) (d1 : -4000000 ≤ day) (d2 : day ≤ 4000000) (y1 : -20000 ≤ y) (y2 : y ≤ 20000) (m1 : 1 ≤ m) (m2 : m ≤ 12) (n1 : -20000000000000 ≤ n) (n2 : n ≤ 20000000000000)
    (ko : ∀ W, Calls Tryz.prog 69 #[.int .i64 1, .int .i64 day] W fun e w' => e = .returned (.tuple #[.agg #[.int .i64 1, .int .i64 y, .int .i64 m, .int .i64 d], .nilIface]) ∧ Below W.heap.size W w')
    (kl : ∀ W, Calls Tryz.prog 70 #[.int .i64 1, .int .i64 ((12 * y + m - 1 + n) / 12), .int .i64 ((12 * y + m - 1 + n) % 12 + 1)] W fun e w' => e = .returned (.tuple #[.int .i64 0, .iface 25 (.int .i64 q)]) ∧ Below W.heap.size W w') :
    Calls Tryz.prog 44 #[.int .i64 day, .int .i64 n] w fun e w' => e = .returned (.tuple #[.int .i64 0, .iface 25 (.int .i64 q)]) ∧ Below w.heap.size w w' := by
  have KO := hide ko
  have KL := hide kl
  clear ko kl
  go_enter Tryz.func44, Tryz.ntmps44
  go_wp2_with fail
  refine (KO.out _).mono ?_
  rintro e W ⟨rfl, hb⟩
  have hB0 := hb.alloc hb.size (.cells #[.int .i64 1, .int .i64 y, .int .i64 m, .int .i64 d] 55)
  have hsz := hb.size
  clear hb KO
  go_wp2_with fail
  refine (monthOf_c 1 y m d _ (by omega) (by omega) (by omega) (by omega)).mono ?_
  rintro e X ⟨rfl, hx⟩
  obtain ⟨⟨a0, a1, a2, a3⟩, fz, hs⟩ := box4 W X _ _ _ _ _ hx
  have hBX := hB0.trans (hx.mono (by simp; omega))
  clear hx hB0
  go_wp2_with (first | (go_at_call 67; refine (cfloor_any _ _ _ (by omega) (by omega) (by omega) (by omega)).mono ?_; rintro e w' ⟨rfl, rfl⟩) | (go_at_call 68; refine (cmod_any _ _ _ (by omega) (by omega)).mono ?_; rintro e w' ⟨rfl, rfl⟩))
  refine (KL.out _).mono ?_
  rintro e X2 ⟨rfl, hx2⟩
  have hB2 : Below w.heap.size w X2 := ((hBX.setCell hsz _).setCell hsz _).trans (hx2.mono (by simp [World.setCell]; omega))
  clear hx2 a0 a1 a2 a3 fz hBX KL
  go_wp2
  go_ret2
  exact ⟨rfl, hB2⟩
end Go.Proofs.YtafaacliphdndaaGreatDoor
