/- package clock: Add, out of what addMonths answers. -/
import Derived.Test.YtafaacliphdndaaGreatDoorMClockBack14
namespace Go.Proofs.YtafaacliphdndaaGreatDoor
open Go.RowKit
set_option linter.unusedVariables false
set_option linter.unusedSimpArgs false

theorem box4 (W X : World) (T : TypeId) (v0 v1 v2 v3 : Value) (hb : Below (W.alloc (.cells #[v0, v1, v2, v3] T)).heap.size (W.alloc (.cells #[v0, v1, v2, v3] T)) X) :
    (X.cell? ⟨W.heap.size, 0, none⟩ = some v0 ∧ X.cell? ⟨W.heap.size, 1, none⟩ = some v1 ∧ X.cell? ⟨W.heap.size, 2, none⟩ = some v2 ∧ X.cell? ⟨W.heap.size, 3, none⟩ = some v3) ∧ (∀ j, X.frozen? ⟨W.heap.size, j, none⟩ = false) ∧ W.heap.size < X.heap.size := by
  refine ⟨⟨?_, ?_, ?_, ?_⟩, fun j => ?_, by have := hb.size; simp at this; omega⟩
  · rw [hb.cell (p := ⟨W.heap.size, 0, none⟩) (by simp)]; simp
  · rw [hb.cell (p := ⟨W.heap.size, 1, none⟩) (by simp)]; simp
  · rw [hb.cell (p := ⟨W.heap.size, 2, none⟩) (by simp)]; simp
  · rw [hb.cell (p := ⟨W.heap.size, 3, none⟩) (by simp)]; simp
  · rw [hb.frozen (p := ⟨W.heap.size, j, none⟩) (by simp)]; simp
set_option maxRecDepth 100000 in
set_option maxHeartbeats 3200000 in
theorem addMonths_steps (day y m d n : Int) (v1 v2 : Value) (w : World) (d1 : -4000000 ≤ day) (d2 : day ≤ 4000000) (y1 : -20000 ≤ y) (y2 : y ≤ 20000) (m1 : 1 ≤ m) (m2 : m ≤ 12) (n1 : -20000000000000 ≤ n) (n2 : n ≤ 20000000000000) (l : Int) (hl : 1 ≤ l ∧ l ≤ 31) (hd : 1 ≤ d ∧ d ≤ 31)
    (ko : ∀ W, Calls Tryz.prog 69 #[.int .i64 1, .int .i64 day] W fun e w' => e = .returned (.tuple #[.agg #[.int .i64 1, .int .i64 y, .int .i64 m, .int .i64 d], .nilIface]) ∧ Below W.heap.size W w')
    (kl : ∀ W, Calls Tryz.prog 70 #[.int .i64 1, .int .i64 ((12 * y + m - 1 + n) / 12), .int .i64 ((12 * y + m - 1 + n) % 12 + 1)] W fun e w' => e = .returned (.tuple #[.int .i64 l, .nilIface]) ∧ Below W.heap.size W w')
    (kd : ∀ W, Calls Tryz.prog 71 #[.agg #[.int .i64 1, .int .i64 ((12 * y + m - 1 + n) / 12), .int .i64 ((12 * y + m - 1 + n) % 12 + 1), .int .i64 (min d l)]] W fun e w' => e = .returned (.tuple #[v1, v2]) ∧ Below W.heap.size W w') :
    Calls Tryz.prog 44 #[.int .i64 day, .int .i64 n] w fun e w' => e = .returned (.tuple #[v1, v2]) ∧ Below w.heap.size w w' := by
  have KO := hide ko
  have KL := hide kl
  have KD := hide kd
  clear ko kl kd
  go_enter Tryz.func44, Tryz.ntmps44
  go_wp2_with fail
  refine (KO.out _).mono ?_
  rintro e W ⟨rfl, hb⟩
  have hB0 := hb.alloc hb.size (.cells #[.int .i64 1, .int .i64 y, .int .i64 m, .int .i64 d] 55)
  have hsz := hb.size
  clear hb KO
  go_wp2_with fail
  refine (monthOf_c 1 y m d _ (by omega) (by omega) (by omega) (by omega)).mono ?_
  rintro e X ⟨rfl, hx⟩
  obtain ⟨⟨a0, a1, a2, a3⟩, fz, hs⟩ := box4 W X _ _ _ _ _ hx
  have hBX := hB0.trans (hx.mono (by simp; omega))
  clear hx hB0
  go_wp2_with (first | (go_at_call 67; refine (cfloor_any _ _ _ (by omega) (by omega) (by omega) (by omega)).mono ?_; rintro e w' ⟨rfl, rfl⟩) | (go_at_call 68; refine (cmod_any _ _ _ (by omega) (by omega)).mono ?_; rintro e w' ⟨rfl, rfl⟩))
  generalize (12 * y + m - 1 + n) / 12 = Y at *
  generalize (12 * y + m - 1 + n) % 12 + 1 = M at *
  refine (KL.out _).mono ?_
  rintro e X2 ⟨rfl, hx2⟩
  have hs2 : W.heap.size < X2.heap.size := by have := hx2.size; simp [World.setCell] at this; omega
  have g0 : X2.cell? ⟨W.heap.size, 0, none⟩ = some (.int .i64 1) := by rw [hx2.cell (p := ⟨W.heap.size, 0, none⟩) (by simp [World.setCell]; omega)]; simp [go_sem, a0, a1, a2, a3]
  have g1 : X2.cell? ⟨W.heap.size, 1, none⟩ = some (.int .i64 Y) := by rw [hx2.cell (p := ⟨W.heap.size, 1, none⟩) (by simp [World.setCell]; omega)]; simp [go_sem, a0, a1, a2, a3]
  have g2 : X2.cell? ⟨W.heap.size, 2, none⟩ = some (.int .i64 M) := by rw [hx2.cell (p := ⟨W.heap.size, 2, none⟩) (by simp [World.setCell]; omega)]; simp [go_sem, a0, a1, a2, a3]
  have g3 : X2.cell? ⟨W.heap.size, 3, none⟩ = some (.int .i64 d) := by rw [hx2.cell (p := ⟨W.heap.size, 3, none⟩) (by simp [World.setCell]; omega)]; simp [go_sem, a0, a1, a2, a3]
  have z3 : X2.frozen? ⟨W.heap.size, 3, none⟩ = false := by rw [hx2.frozen (p := ⟨W.heap.size, 3, none⟩) (by simp [World.setCell]; omega)]; simp [go_sem, fz]
  have hB2 : Below w.heap.size w X2 := ((hBX.setCell hsz _).setCell hsz _).trans (hx2.mono (by simp [World.setCell]; omega))
  clear hx2 a0 a1 a2 a3 fz hBX KL
  by_cases hdl : d ≤ l
  · rw [Int.min_eq_left hdl] at KD
    go_wp2_with fail
    refine (KD.out _).mono ?_
    rintro e X3 ⟨rfl, hx3⟩
    have hB3 := (hB2.setCell (p := ⟨W.heap.size, 3, none⟩) hsz (.int .i64 d)).trans (hx3.mono (by simp [World.setCell]; omega))
    clear hx3 KD hB2
    go_wp2
    go_ret2
    exact ⟨rfl, hB3⟩
  · rw [Int.min_eq_right (by omega)] at KD
    go_wp2_with fail
    refine (KD.out _).mono ?_
    rintro e X3 ⟨rfl, hx3⟩
    have hB3 := (hB2.setCell (p := ⟨W.heap.size, 3, none⟩) hsz (.int .i64 l)).trans (hx3.mono (by simp [World.setCell]; omega))
    clear hx3 KD hB2
    go_wp2
    go_ret2
    exact ⟨rfl, hB3⟩
set_option maxRecDepth 100000 in
set_option maxHeartbeats 3200000 in
theorem addMonths_far (day y m d n q : Int) (w : World) (d1 : -4000000 ≤ day) (d2 : day ≤ 4000000) (y1 : -20000 ≤ y) (y2 : y ≤ 20000) (m1 : 1 ≤ m) (m2 : m ≤ 12) (n1 : -20000000000000 ≤ n) (n2 : n ≤ 20000000000000)
    (ko : ∀ W, Calls Tryz.prog 69 #[.int .i64 1, .int .i64 day] W fun e w' => e = .returned (.tuple #[.agg #[.int .i64 1, .int .i64 y, .int .i64 m, .int .i64 d], .nilIface]) ∧ Below W.heap.size W w')
    (kl : ∀ W, Calls Tryz.prog 70 #[.int .i64 1, .int .i64 ((12 * y + m - 1 + n) / 12), .int .i64 ((12 * y + m - 1 + n) % 12 + 1)] W fun e w' => e = .returned (.tuple #[.int .i64 0, .iface 25 (.int .i64 q)]) ∧ Below W.heap.size W w') :
    Calls Tryz.prog 44 #[.int .i64 day, .int .i64 n] w fun e w' => e = .returned (.tuple #[.int .i64 0, .iface 25 (.int .i64 q)]) ∧ Below w.heap.size w w' := by
  have KO := hide ko
  have KL := hide kl
  clear ko kl
  go_enter Tryz.func44, Tryz.ntmps44
  go_wp2_with fail
  refine (KO.out _).mono ?_
  rintro e W ⟨rfl, hb⟩
  have hB0 := hb.alloc hb.size (.cells #[.int .i64 1, .int .i64 y, .int .i64 m, .int .i64 d] 55)
  have hsz := hb.size
  clear hb KO
  go_wp2_with fail
  refine (monthOf_c 1 y m d _ (by omega) (by omega) (by omega) (by omega)).mono ?_
  rintro e X ⟨rfl, hx⟩
  obtain ⟨⟨a0, a1, a2, a3⟩, fz, hs⟩ := box4 W X _ _ _ _ _ hx
  have hBX := hB0.trans (hx.mono (by simp; omega))
  clear hx hB0
  go_wp2_with (first | (go_at_call 67; refine (cfloor_any _ _ _ (by omega) (by omega) (by omega) (by omega)).mono ?_; rintro e w' ⟨rfl, rfl⟩) | (go_at_call 68; refine (cmod_any _ _ _ (by omega) (by omega)).mono ?_; rintro e w' ⟨rfl, rfl⟩))
  refine (KL.out _).mono ?_
  rintro e X2 ⟨rfl, hx2⟩
  have hB2 : Below w.heap.size w X2 := ((hBX.setCell hsz _).setCell hsz _).trans (hx2.mono (by simp [World.setCell]; omega))
  clear hx2 a0 a1 a2 a3 fz hBX KL
  go_wp2
  go_ret2
  exact ⟨rfl, hB2⟩
end Go.Proofs.YtafaacliphdndaaGreatDoor
namespace Go.Proofs.YtafaacliphdndaaGreatDoor
open Go.RowKit
set_option linter.unusedVariables false
set_option linter.unusedSimpArgs false

/-- may a period's parts be? -/
def Small (y m n d s : Int) : Prop := (-1000000000000 ≤ y ∧ y ≤ 1000000000000) ∧ (-1000000000000 ≤ m ∧ m ≤ 1000000000000) ∧ (-1000000000000 ≤ n ∧ n ≤ 1000000000000) ∧ (-1000000000000 ≤ d ∧ d ≤ 1000000000000) ∧ (-1000000000000 ≤ s ∧ s ≤ 1000000000000)
theorem box5 (W X : World) (T : TypeId) (v0 v1 v2 v3 v4 : Value) (hb : Below (W.alloc (.cells #[v0, v1, v2, v3, v4] T)).heap.size (W.alloc (.cells #[v0, v1, v2, v3, v4] T)) X) :
    (X.cell? ⟨W.heap.size, 0, none⟩ = some v0 ∧ X.cell? ⟨W.heap.size, 1, none⟩ = some v1 ∧ X.cell? ⟨W.heap.size, 2, none⟩ = some v2 ∧ X.cell? ⟨W.heap.size, 3, none⟩ = some v3 ∧ X.cell? ⟨W.heap.size, 4, none⟩ = some v4) ∧ (∀ j, X.frozen? ⟨W.heap.size, j, none⟩ = false) ∧ W.heap.size < X.heap.size := by
  refine ⟨⟨?_, ?_, ?_, ?_, ?_⟩, fun j => ?_, by have := hb.size; simp at this; omega⟩
  · rw [hb.cell (p := ⟨W.heap.size, 0, none⟩) (by simp)]; simp
  · rw [hb.cell (p := ⟨W.heap.size, 1, none⟩) (by simp)]; simp
  · rw [hb.cell (p := ⟨W.heap.size, 2, none⟩) (by simp)]; simp
  · rw [hb.cell (p := ⟨W.heap.size, 3, none⟩) (by simp)]; simp
  · rw [hb.cell (p := ⟨W.heap.size, 4, none⟩) (by simp)]; simp
  · rw [hb.frozen (p := ⟨W.heap.size, j, none⟩) (by simp)]; simp
theorem bmid0 (n : Int) (w : World) (h1 : -4000000 ≤ n) (h2 : n ≤ 4000000) :
    Calls Tryz.prog 45 #[.int .i64 n, .int .i64 0] w fun e w' => e = .returned (.tuple #[.int .i64 (n * 86400), .nilIface]) ∧ w' = w := by
  have := bmid_ok n 0 w h1 h2 (by omega) (by omega) (by omega) (by omega)
  rw [Int.add_zero] at this; exact this
set_option maxRecDepth 100000 in
set_option maxHeartbeats 3200000 in
/-- where the months lead to a day that is there -/
theorem add_day (t y m n d s v : Int) (v1 v2 : Value) (w : World) (t1 : -345600000000 ≤ t) (t2 : t ≤ 345600086399) (hp : Small y m n d s) (v3 : -4000000 ≤ v) (v4 : v ≤ 4000000)
    (ka : ∀ W, Calls Tryz.prog 44 #[.int .i64 (t / 86400), .int .i64 (12 * y + m)] W fun e w' => e = .returned (.tuple #[.int .i64 v, .nilIface]) ∧ Below W.heap.size W w')
    (kb : (v + 7 * n + d < -4000000 ∨ 4000000 < v + 7 * n + d) ∧ v1 = .int .i64 0 ∧ v2 = .iface 25 (.int .i64 4) ∨ ((-4000000 ≤ v + 7 * n + d ∧ v + 7 * n + d ≤ 4000000) ∧ ∀ W, Calls Tryz.prog 46 #[.int .i64 ((v + 7 * n + d) * 86400 + (t % 86400 + s))] W fun e w' => e = .returned (.tuple #[v1, v2]) ∧ w' = W)) :
    Calls Tryz.prog 20 #[.int .i64 t, .agg #[.int .i64 y, .int .i64 m, .int .i64 n, .int .i64 d, .int .i64 s]] w fun e w' => e = .returned (.tuple #[v1, v2]) ∧ Below w.heap.size w w' := by
  obtain ⟨py, pm, pn, pd, ps⟩ := hp
  have hb0 : Below w.heap.size w (w.alloc (.cells #[.int .i64 y, .int .i64 m, .int .i64 n, .int .i64 d, .int .i64 s] 24)) := (Below.refl _ w).alloc (Nat.le_refl _) _
  have KA := hide ka
  have KB := hide kb
  clear ka kb
  go_enter Tryz.func20, Tryz.ntmps20
  go_wp2_with fail
  refine (check_ok y m n d s _ py pm pn pd ps).mono ?_
  rintro e X ⟨rfl, hx⟩
  obtain ⟨⟨a0, a1, a2, a3, a4⟩, fz, hs⟩ := box5 w X _ _ _ _ _ _ hx
  have hB := hb0.trans (hx.mono (by simp))
  clear hx fz hb0
  go_wp2_with (go_at_call 43; refine (split_ok t _ t1 t2).mono ?_; rintro e w' ⟨rfl, rfl⟩)
  refine (KA.out _).mono ?_
  rintro e X2 ⟨rfl, hx2⟩
  have b2 : X2.cell? ⟨w.heap.size, 2, none⟩ = some (.int .i64 n) := (hx2.cell (p := ⟨w.heap.size, 2, none⟩) hs).trans a2
  have b3 : X2.cell? ⟨w.heap.size, 3, none⟩ = some (.int .i64 d) := (hx2.cell (p := ⟨w.heap.size, 3, none⟩) hs).trans a3
  have b4 : X2.cell? ⟨w.heap.size, 4, none⟩ = some (.int .i64 s) := (hx2.cell (p := ⟨w.heap.size, 4, none⟩) hs).trans a4
  have hB2 := hB.trans (hx2.mono (Nat.le_of_lt hs))
  clear hx2 a0 a1 a2 a3 a4 hB KA
  rcases KB.out with ⟨hk, rfl, rfl⟩ | ⟨⟨k1, k2⟩, kt⟩
  · have KM := hide (fun W => bmid_far (v + 7 * n + d) 0 W hk)
    clear KB hk
    go_wp2_with fail
    refine (KM.out _).mono ?_
    rintro e w' ⟨rfl, rfl⟩
    go_wp2
    go_ret2
    exact ⟨rfl, hB2⟩
  · have KM := hide (fun W => bmid0 (v + 7 * n + d) W k1 k2)
    have KT := hide kt
    clear KB kt
    go_wp2_with fail
    refine (KM.out _).mono ?_
    rintro e w' ⟨rfl, rfl⟩
    go_wp2_with fail
    refine (KT.out _).mono ?_
    rintro e w' ⟨rfl, rfl⟩
    go_wp2
    go_ret2
    exact ⟨rfl, hB2⟩
set_option maxRecDepth 100000 in
set_option maxHeartbeats 3200000 in
/-- where they don't -/
theorem add_none (t y m n d s q : Int) (w : World) (t1 : -345600000000 ≤ t) (t2 : t ≤ 345600086399) (hp : Small y m n d s)
    (ka : ∀ W, Calls Tryz.prog 44 #[.int .i64 (t / 86400), .int .i64 (12 * y + m)] W fun e w' => e = .returned (.tuple #[.int .i64 0, .iface 25 (.int .i64 q)]) ∧ Below W.heap.size W w') :
    Calls Tryz.prog 20 #[.int .i64 t, .agg #[.int .i64 y, .int .i64 m, .int .i64 n, .int .i64 d, .int .i64 s]] w fun e w' => e = .returned (.tuple #[.int .i64 0, .iface 25 (.int .i64 q)]) ∧ Below w.heap.size w w' := by
  obtain ⟨py, pm, pn, pd, ps⟩ := hp
  have hb0 : Below w.heap.size w (w.alloc (.cells #[.int .i64 y, .int .i64 m, .int .i64 n, .int .i64 d, .int .i64 s] 24)) := (Below.refl _ w).alloc (Nat.le_refl _) _
  have KA := hide ka
  clear ka
  go_enter Tryz.func20, Tryz.ntmps20
  go_wp2_with fail
  refine (check_ok y m n d s _ py pm pn pd ps).mono ?_
  rintro e X ⟨rfl, hx⟩
  obtain ⟨⟨a0, a1, a2, a3, a4⟩, fz, hs⟩ := box5 w X _ _ _ _ _ _ hx
  have hB := hb0.trans (hx.mono (by simp))
  clear hx fz hb0
  go_wp2_with (go_at_call 43; refine (split_ok t _ t1 t2).mono ?_; rintro e w' ⟨rfl, rfl⟩)
  refine (KA.out _).mono ?_
  rintro e X2 ⟨rfl, hx2⟩
  have hB2 := hB.trans (hx2.mono (Nat.le_of_lt hs))
  clear hx2 a0 a1 a2 a3 a4 hB KA
  go_wp2
  go_ret2
  exact ⟨rfl, hB2⟩
theorem add_late (t y m n d s : Int) (w : World) (h : t < -345600000000 ∨ 345600086399 < t) (hp : Small y m n d s) :
    Calls Tryz.prog 20 #[.int .i64 t, .agg #[.int .i64 y, .int .i64 m, .int .i64 n, .int .i64 d, .int .i64 s]] w fun e w' => e = .returned (.tuple #[.int .i64 0, .iface 25 (.int .i64 4)]) ∧ Below w.heap.size w w' := by
  obtain ⟨py, pm, pn, pd, ps⟩ := hp
  have hb0 : Below w.heap.size w (w.alloc (.cells #[.int .i64 y, .int .i64 m, .int .i64 n, .int .i64 d, .int .i64 s] 24)) := (Below.refl _ w).alloc (Nat.le_refl _) _
  have KS := hide (fun W => split_no t W h)
  clear h
  go_enter Tryz.func20, Tryz.ntmps20
  go_wp2_with fail
  refine (check_ok y m n d s _ py pm pn pd ps).mono ?_
  rintro e X ⟨rfl, hx⟩
  have hB := hb0.trans (hx.mono (by simp))
  clear hx hb0
  go_wp2_with (go_at_call 43; refine (KS.out _).mono ?_; rintro e w' ⟨rfl, rfl⟩)
  go_ret2
  exact ⟨rfl, hB⟩
end Go.Proofs.YtafaacliphdndaaGreatDoor
