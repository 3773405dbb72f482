/- package clock: Tell. -/
import Derived.Test.YtafaacliphdndaaGreatDoorMClockBack20
import Derived.Test.YtafaacliphdndaaGreatDoorMClockBack4
import Derived.Deep.RegionWith
namespace Go.Proofs.YtafaacliphdndaaGreatDoor
open Go.RowKit Go.Shelf
set_option linter.unusedVariables false
set_option linter.unusedSimpArgs false

theorem after_clk (w W X w' : World) (v0 v1 v2 v3 : Value) (n : Nat) (hX : X = (W.alloc (.cells #[v0, v1, v2, v3] 55)).drewN n) (hw : Below ((w.alloc (.cells #[.int .i64 0, .int .i64 0, .int .i64 0, .int .i64 0] 55)).alloc (.cells #[.int .i64 0, .int .i64 0, .int .i64 0] 68)).heap.size ((w.alloc (.cells #[.int .i64 0, .int .i64 0, .int .i64 0, .int .i64 0] 55)).alloc (.cells #[.int .i64 0, .int .i64 0, .int .i64 0] 68)) W) (h : Below X.heap.size X w') :
    (w'.cell? ⟨w.heap.size, 0, none⟩ = some (.int .i64 0) ∧ w'.cell? ⟨w.heap.size, 1, none⟩ = some (.int .i64 0) ∧ w'.cell? ⟨w.heap.size, 2, none⟩ = some (.int .i64 0) ∧ w'.cell? ⟨w.heap.size, 3, none⟩ = some (.int .i64 0)) ∧ (∀ j, w'.frozen? ⟨w.heap.size, j, none⟩ = false) ∧
    (w'.cell? ⟨w.heap.size + 1, 0, none⟩ = some (.int .i64 0) ∧ w'.cell? ⟨w.heap.size + 1, 1, none⟩ = some (.int .i64 0) ∧ w'.cell? ⟨w.heap.size + 1, 2, none⟩ = some (.int .i64 0)) ∧ (∀ j, w'.frozen? ⟨w.heap.size + 1, j, none⟩ = false) ∧
    (w'.cell? ⟨W.heap.size, 0, none⟩ = some v0 ∧ w'.cell? ⟨W.heap.size, 1, none⟩ = some v1 ∧ w'.cell? ⟨W.heap.size, 2, none⟩ = some v2 ∧ w'.cell? ⟨W.heap.size, 3, none⟩ = some v3) ∧ Hid (Below w.heap.size w w') := by
  subst hX
  have hs : w.heap.size + 1 < W.heap.size := by have := hw.size; simp at this; omega
  have h2 : Below (W.alloc (.cells #[v0, v1, v2, v3] 55)).heap.size (W.alloc (.cells #[v0, v1, v2, v3] 55)) w' := (below_drewN (Below.refl _ _) n).trans h
  have cc : ∀ k o, k < W.heap.size → w'.cell? ⟨k, o, none⟩ = W.cell? ⟨k, o, none⟩ := fun k o hk => by rw [h2.cell (p := ⟨k, o, none⟩) (by simp; omega), World.cell?_alloc_past _ _ _ hk]
  have ff : ∀ k o, k < W.heap.size → w'.frozen? ⟨k, o, none⟩ = W.frozen? ⟨k, o, none⟩ := fun k o hk => by rw [h2.frozen (p := ⟨k, o, none⟩) (by simp; omega), World.frozen?_alloc_old _ _ ⟨k, o, none⟩ (Nat.ne_of_lt hk)]
  have c2 : ∀ k o, k < w.heap.size + 2 → W.cell? ⟨k, o, none⟩ = ((w.alloc (.cells #[.int .i64 0, .int .i64 0, .int .i64 0, .int .i64 0] 55)).alloc (.cells #[.int .i64 0, .int .i64 0, .int .i64 0] 68)).cell? ⟨k, o, none⟩ := fun k o hk => hw.cell (p := ⟨k, o, none⟩) (by simp; omega)
  have f2 : ∀ k o, k < w.heap.size + 2 → W.frozen? ⟨k, o, none⟩ = ((w.alloc (.cells #[.int .i64 0, .int .i64 0, .int .i64 0, .int .i64 0] 55)).alloc (.cells #[.int .i64 0, .int .i64 0, .int .i64 0] 68)).frozen? ⟨k, o, none⟩ := fun k o hk => hw.frozen (p := ⟨k, o, none⟩) (by simp; omega)
  refine ⟨⟨?_, ?_, ?_, ?_⟩, fun j => ?_, ⟨?_, ?_, ?_⟩, fun j => ?_, ⟨?_, ?_, ?_, ?_⟩, ?_⟩
  · rw [cc _ _ (by omega), c2 _ _ (by omega)]; simp [go_sem]
  · rw [cc _ _ (by omega), c2 _ _ (by omega)]; simp [go_sem]
  · rw [cc _ _ (by omega), c2 _ _ (by omega)]; simp [go_sem]
  · rw [cc _ _ (by omega), c2 _ _ (by omega)]; simp [go_sem]
  · rw [ff _ _ (by omega), f2 _ _ (by omega)]; simp [go_sem]
  · rw [cc _ _ (by omega), c2 _ _ (by omega)]; simp [go_sem]
  · rw [cc _ _ (by omega), c2 _ _ (by omega)]; simp [go_sem]
  · rw [cc _ _ (by omega), c2 _ _ (by omega)]; simp [go_sem]
  · rw [ff _ _ (by omega), f2 _ _ (by omega)]; simp [go_sem]
  · rw [h2.cell (p := ⟨W.heap.size, 0, none⟩) (by simp)]; simp
  · rw [h2.cell (p := ⟨W.heap.size, 1, none⟩) (by simp)]; simp
  · rw [h2.cell (p := ⟨W.heap.size, 2, none⟩) (by simp)]; simp
  · rw [h2.cell (p := ⟨W.heap.size, 3, none⟩) (by simp)]; simp
  · exact (((((Below.refl _ w).alloc (Nat.le_refl _) _).alloc (by simp) _).trans (hw.mono (by simp; omega))).alloc (by omega) _).trans (h2.mono (by simp; omega))
set_option maxRecDepth 100000 in
set_option maxHeartbeats 8000000 in
theorem tell_steps (t v0 v1 v2 v3 : Int) (w : World) (t1 : -345600000000 ≤ t) (t2 : t ≤ 345600086399)
    (ko : ∀ W, Calls Tryz.prog 69 #[.int .i64 1, .int .i64 (t / 86400)] W fun e w' => e = .returned (.tuple #[.agg #[.int .i64 v0, .int .i64 v1, .int .i64 v2, .int .i64 v3], .nilIface]) ∧ Below W.heap.size W w') :
    Calls Tryz.prog 54 #[.int .i64 t] w fun e w' => e = .returned (.tuple #[.agg #[.int .i64 v0, .int .i64 v1, .int .i64 v2, .int .i64 v3], clk (t % 86400), .nilIface]) ∧ Below w.heap.size w w' := by
  have KS := fun W => split_ok t W t1 t2
  have s1 : 0 ≤ t % 86400 := by omega
  have s2 : t % 86400 < 86400 := by omega
  generalize t / 86400 = D at *
  generalize t % 86400 = s at *
  have KO := hide ko
  clear ko
  have KC := hide (fun W => clockOf_any s W (by omega) (by omega))
  unfold clk at KC
  go_enter Tryz.func54, Tryz.ntmps54
  go_wp2_with (go_at_call 43; refine (KS _).mono ?_; rintro e w' ⟨rfl, rfl⟩)
  refine (KO.out _).mono ?_
  rintro e W ⟨rfl, hw⟩
  have hs : w.heap.size + 1 < W.heap.size := by have := hw.size; simp at this; omega
  clear KO
  go_wp2_with fail
  go_region_with (go_at_call 59; refine (KC.out _).mono ?_; rintro e X ⟨rfl, hx⟩; obtain ⟨⟨a0, a1, a2, a3⟩, fa, ⟨b0, b1, b2⟩, fb, ⟨c0, c1, c2, c3⟩, hbf⟩ := after_clk w W _ X _ _ _ _ _ rfl hw hx; clear hx)
  all_goals
    have hbf := (show Hid (Below w.heap.size w _) by assumption)
    clear KC hw
    go_wp2
    refine bodyPost_ret (v := .tuple #[.agg #[.int .i64 v0, .int .i64 v1, .int .i64 v2, .int .i64 v3], .agg #[.int .i64 (s / 3600), .int .i64 (s % 3600 / 60), .int .i64 (s % 60)], .nilIface]) (by simp [results, Tryz.results54, go_sem, *]) rfl ⟨rfl, ?_⟩
    exact ((((((hbf.out.setCell (Nat.le_refl _) _).setCell (Nat.le_refl _) _).setCell (Nat.le_refl _) _).setCell (Nat.le_refl _) _).setCell (Nat.le_succ _) _).setCell (Nat.le_succ _) _).setCell (Nat.le_succ _) _
theorem tell_late (t : Int) (w : World) (h : t < -345600000000 ∨ 345600086399 < t) :
    Calls Tryz.prog 54 #[.int .i64 t] w fun e w' => e = .returned (.tuple #[.agg #[.int .i64 0, .int .i64 0, .int .i64 0, .int .i64 0], .agg #[.int .i64 0, .int .i64 0, .int .i64 0], .iface 25 (.int .i64 4)]) ∧ Below w.heap.size w w' := by
  have KS := fun W => split_no t W h
  have hb0 : Below w.heap.size w ((w.alloc (.cells #[.int .i64 0, .int .i64 0, .int .i64 0, .int .i64 0] 55)).alloc (.cells #[.int .i64 0, .int .i64 0, .int .i64 0] 68)) := ((Below.refl _ w).alloc (Nat.le_refl _) _).alloc (by simp) _
  clear h
  go_enter Tryz.func54, Tryz.ntmps54
  go_wp2_with (go_at_call 43; refine (KS _).mono ?_; rintro e w' ⟨rfl, rfl⟩)
  refine bodyPost_ret (v := .tuple #[.agg #[.int .i64 0, .int .i64 0, .int .i64 0, .int .i64 0], .agg #[.int .i64 0, .int .i64 0, .int .i64 0], .iface 25 (.int .i64 4)]) (by simp [results, Tryz.results54, go_sem]) rfl ⟨rfl, ?_⟩
  exact hb0
end Go.Proofs.YtafaacliphdndaaGreatDoor
