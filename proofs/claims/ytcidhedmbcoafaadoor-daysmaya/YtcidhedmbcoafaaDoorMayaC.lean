/- days.Maya. -/
import Derived.Test.YtcidhedmbcoafaaDoorMayaB
namespace Go.Proofs.YtcidhedmbcoafaaDoor
open Go.RowKit Go.Shelf
set_option linter.unusedVariables false
set_option linter.unusedSimpArgs false

theorem slotM (w W : World) (hb : Below (w.alloc (.cells #[.int .i64 0, .int .i64 0, .int .i64 0, .int .i64 0, .int .i64 0, .int .i64 0, .int .i64 0, .int .i64 0, .int .i64 0] 48)).heap.size (w.alloc (.cells #[.int .i64 0, .int .i64 0, .int .i64 0, .int .i64 0, .int .i64 0, .int .i64 0, .int .i64 0, .int .i64 0, .int .i64 0] 48)) W) :
    (W.cell? ⟨w.heap.size, 0, none⟩ = some (.int .i64 0) ∧ W.frozen? ⟨w.heap.size, 0, none⟩ = false) ∧ (W.cell? ⟨w.heap.size, 1, none⟩ = some (.int .i64 0) ∧ W.frozen? ⟨w.heap.size, 1, none⟩ = false) ∧ (W.cell? ⟨w.heap.size, 2, none⟩ = some (.int .i64 0) ∧ W.frozen? ⟨w.heap.size, 2, none⟩ = false) ∧ (W.cell? ⟨w.heap.size, 3, none⟩ = some (.int .i64 0) ∧ W.frozen? ⟨w.heap.size, 3, none⟩ = false) ∧ (W.cell? ⟨w.heap.size, 4, none⟩ = some (.int .i64 0) ∧ W.frozen? ⟨w.heap.size, 4, none⟩ = false) ∧ (W.cell? ⟨w.heap.size, 5, none⟩ = some (.int .i64 0) ∧ W.frozen? ⟨w.heap.size, 5, none⟩ = false) ∧ (W.cell? ⟨w.heap.size, 6, none⟩ = some (.int .i64 0) ∧ W.frozen? ⟨w.heap.size, 6, none⟩ = false) ∧ (W.cell? ⟨w.heap.size, 7, none⟩ = some (.int .i64 0) ∧ W.frozen? ⟨w.heap.size, 7, none⟩ = false) ∧ (W.cell? ⟨w.heap.size, 8, none⟩ = some (.int .i64 0) ∧ W.frozen? ⟨w.heap.size, 8, none⟩ = false) := by
  refine ⟨⟨?_, ?_⟩, ⟨?_, ?_⟩, ⟨?_, ?_⟩, ⟨?_, ?_⟩, ⟨?_, ?_⟩, ⟨?_, ?_⟩, ⟨?_, ?_⟩, ⟨?_, ?_⟩, ⟨?_, ?_⟩⟩
  · rw [hb.cell (p := ⟨w.heap.size, 0, none⟩) (by simp)]; simp
  · rw [hb.frozen (p := ⟨w.heap.size, 0, none⟩) (by simp)]; simp
  · rw [hb.cell (p := ⟨w.heap.size, 1, none⟩) (by simp)]; simp
  · rw [hb.frozen (p := ⟨w.heap.size, 1, none⟩) (by simp)]; simp
  · rw [hb.cell (p := ⟨w.heap.size, 2, none⟩) (by simp)]; simp
  · rw [hb.frozen (p := ⟨w.heap.size, 2, none⟩) (by simp)]; simp
  · rw [hb.cell (p := ⟨w.heap.size, 3, none⟩) (by simp)]; simp
  · rw [hb.frozen (p := ⟨w.heap.size, 3, none⟩) (by simp)]; simp
  · rw [hb.cell (p := ⟨w.heap.size, 4, none⟩) (by simp)]; simp
  · rw [hb.frozen (p := ⟨w.heap.size, 4, none⟩) (by simp)]; simp
  · rw [hb.cell (p := ⟨w.heap.size, 5, none⟩) (by simp)]; simp
  · rw [hb.frozen (p := ⟨w.heap.size, 5, none⟩) (by simp)]; simp
  · rw [hb.cell (p := ⟨w.heap.size, 6, none⟩) (by simp)]; simp
  · rw [hb.frozen (p := ⟨w.heap.size, 6, none⟩) (by simp)]; simp
  · rw [hb.cell (p := ⟨w.heap.size, 7, none⟩) (by simp)]; simp
  · rw [hb.frozen (p := ⟨w.heap.size, 7, none⟩) (by simp)]; simp
  · rw [hb.cell (p := ⟨w.heap.size, 8, none⟩) (by simp)]; simp
  · rw [hb.frozen (p := ⟨w.heap.size, 8, none⟩) (by simp)]; simp

/-- what the Maya call the n-th day of their count -/
def mname (n : Int) : Value := .agg #[.int .i64 (n / 144000), .int .i64 (n / 7200 % 20), .int .i64 (n / 360 % 20), .int .i64 (n / 20 % 18), .int .i64 (n % 20), .int .i64 (1 + (n + 348) % 365 / 20), .int .i64 ((n + 348) % 365 % 20), .int .i64 (1 + (n + 3) % 13), .int .i64 (1 + (n + 19) % 20)]
set_option maxRecDepth 100000 in
set_option maxHeartbeats 1600000 in
theorem maya_steps (day n : Int) (w : World) (n1 : 0 ≤ n) (n2 : n ≤ 6000000)
    (kc : ∀ W, Calls Tryd.prog 82 #[.int .i64 day] W fun e w' => e = .returned (.tuple #[.int .i64 n, .nilIface]) ∧ w' = W) :
    Calls Tryd.prog 61 #[.int .i64 day] w fun e w' => e = .returned (.tuple #[mname n, .nilIface]) ∧ Below w.heap.size w w' := by
  have KC := hide kc
  clear kc
  go_enter Tryd.func61, Tryd.ntmps61
  go_wp2_with (first | (go_at_call 82; refine (KC.out _).mono ?_; rintro e w' ⟨rfl, rfl⟩))
  refine (round_any n _ n1 (by omega)).mono ?_
  rintro e W ⟨rfl, hb⟩
  obtain ⟨⟨z0, n0⟩, ⟨z1, n1⟩, ⟨z2, n2⟩, ⟨z3, n3⟩, ⟨z4, n4⟩, ⟨z5, n5⟩, ⟨z6, n6⟩, ⟨z7, n7⟩, ⟨z8, n8⟩⟩ := slotM w W hb
  have sz : w.heap.size < W.heap.size := by have := hb.size; simp at this; omega
  have hb0 : Below w.heap.size w W := ((Below.refl _ w).alloc (Nat.le_refl _) _).trans (hb.mono (by simp))
  clear hb
  unfold rname
  go_wp2
  refine bodyPost_ret (v := .tuple #[mname n, .nilIface]) (by simp [results, Tryd.results61, go_sem, mname, z0, z1, z2, z3, z4, z5, z6, z7, z8]) rfl ⟨rfl, ?_⟩
  exact (((((((((hb0.setCell (Nat.le_refl _) _).setCell (Nat.le_refl _) _).setCell (Nat.le_refl _) _).setCell (Nat.le_refl _) _).setCell (Nat.le_refl _) _).setCell (Nat.le_refl _) _).setCell (Nat.le_refl _) _).setCell (Nat.le_refl _) _).setCell (Nat.le_refl _) _)
theorem maya_ok (day : Int) (w : World) (d1 : -1856305 ≤ day) (d2 : day ≤ 4000000) :
    Calls Tryd.prog 61 #[.int .i64 day] w fun e w' => e = .returned (.tuple #[mname (day + 1856305), .nilIface]) ∧ Below w.heap.size w w' :=
  maya_steps day _ w (by omega) (by omega) (fun W => count_ok day W d1 d2)
end Go.Proofs.YtcidhedmbcoafaaDoor
