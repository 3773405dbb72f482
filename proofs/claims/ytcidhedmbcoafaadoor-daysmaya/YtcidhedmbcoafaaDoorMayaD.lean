/- days.Maya where there is no count; plain.DaysMaya, plain.DaysNextRound. -/
import Derived.Test.YtcidhedmbcoafaaDoorMayaC
import Derived.Test.YtcidhedmbcoafaaDoorPlainB
namespace Go.Proofs.YtcidhedmbcoafaaDoor
open Go.RowKit Go.Shelf
set_option linter.unusedVariables false
set_option linter.unusedSimpArgs false

set_option maxRecDepth 100000 in
set_option maxHeartbeats 1600000 in
theorem maya_no (day : Int) (w : World) (h : day < -1856305 ∨ 4000000 < day) :
    Calls Tryd.prog 61 #[.int .i64 day] w fun e w' => e = .returned (.tuple #[.agg #[.int .i64 0, .int .i64 0, .int .i64 0, .int .i64 0, .int .i64 0, .int .i64 0, .int .i64 0, .int .i64 0, .int .i64 0], .iface 23 (.int .i64 4)]) ∧ Below w.heap.size w w' := by
  have KC := hide (fun W => count_no day W h)
  clear h
  go_enter Tryd.func61, Tryd.ntmps61
  go_wp2_with (go_at_call 82; refine (KC.out _).mono ?_; rintro e w' ⟨rfl, rfl⟩)
  refine bodyPost_ret (v := .tuple #[.agg #[.int .i64 0, .int .i64 0, .int .i64 0, .int .i64 0, .int .i64 0, .int .i64 0, .int .i64 0, .int .i64 0, .int .i64 0], .iface 23 (.int .i64 4)]) (by simp [results, Tryd.results61, go_sem]) rfl ⟨rfl, ?_⟩
  have hb0 : Below w.heap.size w (w.alloc (.cells #[.int .i64 0, .int .i64 0, .int .i64 0, .int .i64 0, .int .i64 0, .int .i64 0, .int .i64 0, .int .i64 0, .int .i64 0] 48)) := (Below.refl _ w).alloc (Nat.le_refl _) _
  exact hb0

theorem after_tell9 (w W X w' : World) (v0 v1 v2 v3 v4 v5 v6 v7 v8 : Int) (n : Nat) (hX : X = (W.alloc (.cells #[.int .i64 v0, .int .i64 v1, .int .i64 v2, .int .i64 v3, .int .i64 v4, .int .i64 v5, .int .i64 v6, .int .i64 v7, .int .i64 v8] 48)).drewN n) (hs : w.heap.size < W.heap.size) (hb0 : Below w.heap.size w W) (hb3 : Below X.heap.size X w') (z0 : W.cell? ⟨w.heap.size, 0, none⟩ = some (.int .i64 0)) (n0 : W.frozen? ⟨w.heap.size, 0, none⟩ = false) (z1 : W.cell? ⟨w.heap.size, 1, none⟩ = some (.int .i64 0)) (n1 : W.frozen? ⟨w.heap.size, 1, none⟩ = false) (z2 : W.cell? ⟨w.heap.size, 2, none⟩ = some (.int .i64 0)) (n2 : W.frozen? ⟨w.heap.size, 2, none⟩ = false) (z3 : W.cell? ⟨w.heap.size, 3, none⟩ = some (.int .i64 0)) (n3 : W.frozen? ⟨w.heap.size, 3, none⟩ = false) (z4 : W.cell? ⟨w.heap.size, 4, none⟩ = some (.int .i64 0)) (n4 : W.frozen? ⟨w.heap.size, 4, none⟩ = false) (z5 : W.cell? ⟨w.heap.size, 5, none⟩ = some (.int .i64 0)) (n5 : W.frozen? ⟨w.heap.size, 5, none⟩ = false) (z6 : W.cell? ⟨w.heap.size, 6, none⟩ = some (.int .i64 0)) (n6 : W.frozen? ⟨w.heap.size, 6, none⟩ = false) (z7 : W.cell? ⟨w.heap.size, 7, none⟩ = some (.int .i64 0)) (n7 : W.frozen? ⟨w.heap.size, 7, none⟩ = false) (z8 : W.cell? ⟨w.heap.size, 8, none⟩ = some (.int .i64 0)) (n8 : W.frozen? ⟨w.heap.size, 8, none⟩ = false) :
    (w'.cell? ⟨w.heap.size, 0, none⟩ = some (.int .i64 0) ∧ w'.frozen? ⟨w.heap.size, 0, none⟩ = false ∧ w'.cell? ⟨w.heap.size, 1, none⟩ = some (.int .i64 0) ∧ w'.frozen? ⟨w.heap.size, 1, none⟩ = false ∧ w'.cell? ⟨w.heap.size, 2, none⟩ = some (.int .i64 0) ∧ w'.frozen? ⟨w.heap.size, 2, none⟩ = false ∧ w'.cell? ⟨w.heap.size, 3, none⟩ = some (.int .i64 0) ∧ w'.frozen? ⟨w.heap.size, 3, none⟩ = false ∧ w'.cell? ⟨w.heap.size, 4, none⟩ = some (.int .i64 0) ∧ w'.frozen? ⟨w.heap.size, 4, none⟩ = false ∧ w'.cell? ⟨w.heap.size, 5, none⟩ = some (.int .i64 0) ∧ w'.frozen? ⟨w.heap.size, 5, none⟩ = false ∧ w'.cell? ⟨w.heap.size, 6, none⟩ = some (.int .i64 0) ∧ w'.frozen? ⟨w.heap.size, 6, none⟩ = false ∧ w'.cell? ⟨w.heap.size, 7, none⟩ = some (.int .i64 0) ∧ w'.frozen? ⟨w.heap.size, 7, none⟩ = false ∧ w'.cell? ⟨w.heap.size, 8, none⟩ = some (.int .i64 0) ∧ w'.frozen? ⟨w.heap.size, 8, none⟩ = false) ∧ (w'.cell? ⟨W.heap.size, 0, none⟩ = some (.int .i64 v0) ∧ w'.cell? ⟨W.heap.size, 1, none⟩ = some (.int .i64 v1) ∧ w'.cell? ⟨W.heap.size, 2, none⟩ = some (.int .i64 v2) ∧ w'.cell? ⟨W.heap.size, 3, none⟩ = some (.int .i64 v3) ∧ w'.cell? ⟨W.heap.size, 4, none⟩ = some (.int .i64 v4) ∧ w'.cell? ⟨W.heap.size, 5, none⟩ = some (.int .i64 v5) ∧ w'.cell? ⟨W.heap.size, 6, none⟩ = some (.int .i64 v6) ∧ w'.cell? ⟨W.heap.size, 7, none⟩ = some (.int .i64 v7) ∧ w'.cell? ⟨W.heap.size, 8, none⟩ = some (.int .i64 v8)) ∧ Hid (Below w.heap.size w w') := by
  subst hX
  have h2 : Below (W.alloc (.cells #[.int .i64 v0, .int .i64 v1, .int .i64 v2, .int .i64 v3, .int .i64 v4, .int .i64 v5, .int .i64 v6, .int .i64 v7, .int .i64 v8] 48)).heap.size (W.alloc (.cells #[.int .i64 v0, .int .i64 v1, .int .i64 v2, .int .i64 v3, .int .i64 v4, .int .i64 v5, .int .i64 v6, .int .i64 v7, .int .i64 v8] 48)) w' := (below_drewN (Below.refl _ _) n).trans (hb3.mono (by simp))
  have cc : ∀ k o, k < W.heap.size + 1 → w'.cell? ⟨k, o, none⟩ = (W.alloc (.cells #[.int .i64 v0, .int .i64 v1, .int .i64 v2, .int .i64 v3, .int .i64 v4, .int .i64 v5, .int .i64 v6, .int .i64 v7, .int .i64 v8] 48)).cell? ⟨k, o, none⟩ := fun k o hk => h2.cell (p := ⟨k, o, none⟩) (by simpa using hk)
  have ff : ∀ k o, k < W.heap.size + 1 → w'.frozen? ⟨k, o, none⟩ = (W.alloc (.cells #[.int .i64 v0, .int .i64 v1, .int .i64 v2, .int .i64 v3, .int .i64 v4, .int .i64 v5, .int .i64 v6, .int .i64 v7, .int .i64 v8] 48)).frozen? ⟨k, o, none⟩ := fun k o hk => h2.frozen (p := ⟨k, o, none⟩) (by simpa using hk)
  refine ⟨⟨?_, ?_, ?_, ?_, ?_, ?_, ?_, ?_, ?_, ?_, ?_, ?_, ?_, ?_, ?_, ?_, ?_, ?_⟩, ⟨?_, ?_, ?_, ?_, ?_, ?_, ?_, ?_, ?_⟩, (hb0.alloc (by omega) _).trans (h2.mono (by simp; omega))⟩
  · rw [cc _ _ (by omega), World.cell?_alloc_past _ _ _ hs]; exact z0
  · rw [ff _ _ (by omega), World.frozen?_alloc_old _ _ ⟨w.heap.size, 0, none⟩ (Nat.ne_of_lt hs)]; exact n0
  · rw [cc _ _ (by omega), World.cell?_alloc_past _ _ _ hs]; exact z1
  · rw [ff _ _ (by omega), World.frozen?_alloc_old _ _ ⟨w.heap.size, 1, none⟩ (Nat.ne_of_lt hs)]; exact n1
  · rw [cc _ _ (by omega), World.cell?_alloc_past _ _ _ hs]; exact z2
  · rw [ff _ _ (by omega), World.frozen?_alloc_old _ _ ⟨w.heap.size, 2, none⟩ (Nat.ne_of_lt hs)]; exact n2
  · rw [cc _ _ (by omega), World.cell?_alloc_past _ _ _ hs]; exact z3
  · rw [ff _ _ (by omega), World.frozen?_alloc_old _ _ ⟨w.heap.size, 3, none⟩ (Nat.ne_of_lt hs)]; exact n3
  · rw [cc _ _ (by omega), World.cell?_alloc_past _ _ _ hs]; exact z4
  · rw [ff _ _ (by omega), World.frozen?_alloc_old _ _ ⟨w.heap.size, 4, none⟩ (Nat.ne_of_lt hs)]; exact n4
  · rw [cc _ _ (by omega), World.cell?_alloc_past _ _ _ hs]; exact z5
  · rw [ff _ _ (by omega), World.frozen?_alloc_old _ _ ⟨w.heap.size, 5, none⟩ (Nat.ne_of_lt hs)]; exact n5
  · rw [cc _ _ (by omega), World.cell?_alloc_past _ _ _ hs]; exact z6
  · rw [ff _ _ (by omega), World.frozen?_alloc_old _ _ ⟨w.heap.size, 6, none⟩ (Nat.ne_of_lt hs)]; exact n6
  · rw [cc _ _ (by omega), World.cell?_alloc_past _ _ _ hs]; exact z7
  · rw [ff _ _ (by omega), World.frozen?_alloc_old _ _ ⟨w.heap.size, 7, none⟩ (Nat.ne_of_lt hs)]; exact n7
  · rw [cc _ _ (by omega), World.cell?_alloc_past _ _ _ hs]; exact z8
  · rw [ff _ _ (by omega), World.frozen?_alloc_old _ _ ⟨w.heap.size, 8, none⟩ (Nat.ne_of_lt hs)]; exact n8
  · rw [cc _ _ (by omega)]; simp
  · rw [cc _ _ (by omega)]; simp
  · rw [cc _ _ (by omega)]; simp
  · rw [cc _ _ (by omega)]; simp
  · rw [cc _ _ (by omega)]; simp
  · rw [cc _ _ (by omega)]; simp
  · rw [cc _ _ (by omega)]; simp
  · rw [cc _ _ (by omega)]; simp
  · rw [cc _ _ (by omega)]; simp

set_option maxRecDepth 100000 in
set_option maxHeartbeats 4000000 in
theorem pmaya_steps (day : Int) (w : World) (v0 v1 v2 v3 v4 v5 v6 v7 v8 k : Int) (ev : Value)
    (hof : ∀ W, Calls Tryd.prog 61 #[.int .i64 day] W fun e w' => e = .returned (.tuple #[.agg #[.int .i64 v0, .int .i64 v1, .int .i64 v2, .int .i64 v3, .int .i64 v4, .int .i64 v5, .int .i64 v6, .int .i64 v7, .int .i64 v8], ev]) ∧ Below W.heap.size W w')
    (htl : ∀ W, Below w.heap.size w W → Calls Tryd.prog 39 #[ev] W fun e w' => e = .returned (.int .i64 k) ∧ Below W.heap.size W w') :
    Calls Tryd.prog 34 #[.int .i64 day] w fun e w' => e = .returned (.tuple #[.agg #[.int .i64 v0, .int .i64 v1, .int .i64 v2, .int .i64 v3, .int .i64 v4, .int .i64 v5, .int .i64 v6, .int .i64 v7, .int .i64 v8], .int .i64 k]) ∧ Below w.heap.size w w' := by
  go_enter Tryd.func34, Tryd.ntmps34
  go_wp2_with fail
  refine (hof _).mono ?_
  rintro e W ⟨rfl, hb⟩
  obtain ⟨⟨z0, n0⟩, ⟨z1, n1⟩, ⟨z2, n2⟩, ⟨z3, n3⟩, ⟨z4, n4⟩, ⟨z5, n5⟩, ⟨z6, n6⟩, ⟨z7, n7⟩, ⟨z8, n8⟩⟩ := slotM w W hb
  have hs : w.heap.size < W.heap.size := by have := hb.size; simp at this; omega
  have hb0 : Below w.heap.size w W := ((Below.refl _ w).alloc (Nat.le_refl _) _).trans (hb.mono (by simp))
  have ht := hide (fun X h => htl X h)
  clear htl hof
  go_wp2_with fail
  go_region_with (go_at_call 39; refine (ht.out _ (by repeat (first | exact hb0.alloc (by omega) _ | refine below_drewN ?_ _))).mono ?_; rintro e w' ⟨rfl, hb3⟩; obtain ⟨⟨a0, f0, a1, f1, a2, f2, a3, f3, a4, f4, a5, f5, a6, f6, a7, f7, a8, f8⟩, ⟨b0, b1, b2, b3, b4, b5, b6, b7, b8⟩, hbf⟩ := after_tell9 w W _ w' v0 v1 v2 v3 v4 v5 v6 v7 v8 _ rfl hs hb0 hb3 z0 n0 z1 n1 z2 n2 z3 n3 z4 n4 z5 n5 z6 n6 z7 n7 z8 n8)
  all_goals go_wp2
  all_goals
    have hbf := (show Hid (Below w.heap.size w _) by assumption)
    refine bodyPost_ret (v := .tuple #[.agg #[.int .i64 v0, .int .i64 v1, .int .i64 v2, .int .i64 v3, .int .i64 v4, .int .i64 v5, .int .i64 v6, .int .i64 v7, .int .i64 v8], .int .i64 k]) (by simp [results, Tryd.results34, go_sem, *]) rfl ⟨rfl, ?_⟩
    exact (((((((((hbf.out.setCell (Nat.le_refl _) _).setCell (Nat.le_refl _) _).setCell (Nat.le_refl _) _).setCell (Nat.le_refl _) _).setCell (Nat.le_refl _) _).setCell (Nat.le_refl _) _).setCell (Nat.le_refl _) _).setCell (Nat.le_refl _) _).setCell (Nat.le_refl _) _)
theorem pmaya_ok (day : Int) (w : World) (d1 : -1856305 ≤ day) (d2 : day ≤ 4000000) :
    Calls Tryd.prog 34 #[.int .i64 day] w fun e w' => e = .returned (.tuple #[mname (day + 1856305), .int .i64 0]) ∧ Below w.heap.size w w' :=
  pmaya_steps day w _ _ _ _ _ _ _ _ _ 0 _ (fun W => maya_ok day W d1 d2) (fun W _ => tell_nil W)
theorem pmaya_no (day : Int) (w : World) (hd : Hd w) (h : day < -1856305 ∨ 4000000 < day) :
    Calls Tryd.prog 34 #[.int .i64 day] w fun e w' => e = .returned (.tuple #[.agg #[.int .i64 0, .int .i64 0, .int .i64 0, .int .i64 0, .int .i64 0, .int .i64 0, .int .i64 0, .int .i64 0, .int .i64 0], .int .i64 4]) ∧ Below w.heap.size w w' :=
  pmaya_steps day w _ _ _ _ _ _ _ _ _ 4 _ (fun W => maya_no day W h) (fun W hb => tell_err _ W (hd.later hb))
set_option maxHeartbeats 800000 in
theorem pnext_steps (r0 r1 r2 r3 day n : Int) (w : World)
    (kn : ∀ W, Calls Tryd.prog 62 #[.agg #[.int .i64 r0, .int .i64 r1, .int .i64 r2, .int .i64 r3], .int .i64 day] W fun e w' => e = .returned (.tuple #[.int .i64 n, .nilIface]) ∧ Below W.heap.size W w') :
    Calls Tryd.prog 36 #[.agg #[.int .i64 r0, .int .i64 r1, .int .i64 r2, .int .i64 r3], .int .i64 day] w fun e w' => e = .returned (.tuple #[.int .i64 n, .int .i64 0]) ∧ Below w.heap.size w w' := by
  go_enter Tryd.func36, Tryd.ntmps36
  go_wp2_with fail
  refine (kn _).mono ?_
  rintro e W ⟨rfl, hb⟩
  have hb1 : Below w.heap.size w W := by first | exact hb | exact ((Below.refl _ w).alloc (Nat.le_refl _) _).trans (hb.mono (by simp))
  go_wp2_with fail
  refine (tell_nil _).mono ?_
  rintro e W2 ⟨rfl, hb2⟩
  go_wp2
  go_ret2
  exact ⟨rfl, hb1.trans (hb2.mono hb1.size)⟩
end Go.Proofs.YtcidhedmbcoafaaDoor
