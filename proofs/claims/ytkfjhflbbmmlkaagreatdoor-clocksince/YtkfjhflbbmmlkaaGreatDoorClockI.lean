/- package plain: ClockSplit, ClockJoin, ClockOf, ClockTell. -/
import Derived.Test.YtkfjhflbbmmlkaaGreatDoorClockH
namespace Go.Proofs.YtkfjhflbbmmlkaaGreatDoor
open Go.RowKit Go.Shelf
set_option linter.unusedVariables false
set_option linter.unusedSimpArgs false

theorem psplit_gen (t a b k : Int) (w : World) (hd : Hd w)
    (kc : ∀ W, Calls Tryz.prog 31 #[.int .i64 t] W fun e w' => e = .returned (.tuple #[.int .i64 a, .int .i64 b, ev k]) ∧ w' = W) :
    Calls Tryz.prog 9 #[.int .i64 t] w fun e w' => e = .returned (.tuple #[.int .i64 a, .int .i64 b, .int .i64 k]) ∧ Below w.heap.size w w' := by
  have KT := hide (tell_ev k w hd)
  generalize ev k = E at *
  go_enter Tryz.func9, Tryz.ntmps9
  go_wp2_with fail
  refine (kc _).mono ?_
  rintro e w' ⟨rfl, rfl⟩
  go_wp2_with fail
  refine KT.out.mono ?_
  rintro e W2 ⟨rfl, hb2⟩
  go_wp2
  exact bodyPost_ret (v := .tuple #[.int .i64 a, .int .i64 b, .int .i64 k]) (by simp [results, Tryz.results9, go_sem]) rfl ⟨rfl, hb2⟩
theorem pjoin_gen (day s v k : Int) (w : World) (hd : Hd w)
    (kc : ∀ W, Calls Tryz.prog 36 #[.int .i64 day, .int .i64 s] W fun e w' => e = .returned (.tuple #[.int .i64 v, ev k]) ∧ w' = W) :
    Calls Tryz.prog 11 #[.int .i64 day, .int .i64 s] w fun e w' => e = .returned (.tuple #[.int .i64 v, .int .i64 k]) ∧ Below w.heap.size w w' := by
  have KT := hide (tell_ev k w hd)
  generalize ev k = E at *
  go_enter Tryz.func11, Tryz.ntmps11
  go_wp2_with fail
  refine (kc _).mono ?_
  rintro e w' ⟨rfl, rfl⟩
  go_wp2_with fail
  refine KT.out.mono ?_
  rintro e W2 ⟨rfl, hb2⟩
  go_wp2
  go_ret2
  exact ⟨rfl, hb2⟩
theorem pcof_gen (day h m s v k : Int) (w : World) (hd : Hd w)
    (kc : ∀ W, Calls Tryz.prog 38 #[.int .i64 day, .agg #[.int .i64 h, .int .i64 m, .int .i64 s]] W fun e w' => e = .returned (.tuple #[.int .i64 v, ev k]) ∧ Below W.heap.size W w') :
    Calls Tryz.prog 13 #[.int .i64 day, .agg #[.int .i64 h, .int .i64 m, .int .i64 s]] w fun e w' => e = .returned (.tuple #[.int .i64 v, .int .i64 k]) ∧ Below w.heap.size w w' := by
  have KT := hide (fun W hW => tell_ev k W hW)
  have hb0 : Below w.heap.size w (w.alloc (.cells #[.int .i64 h, .int .i64 m, .int .i64 s] 24)) := (Below.refl _ w).alloc (Nat.le_refl _) _
  generalize ev k = E at *
  go_enter Tryz.func13, Tryz.ntmps13
  go_wp2_with fail
  refine (kc _).mono ?_
  rintro e W ⟨rfl, hb⟩
  have hB := hb0.trans (hb.mono (by simp))
  have hd2 := hd.later hB
  clear hb hb0 kc
  go_wp2_with fail
  refine (KT.out _ hd2).mono ?_
  rintro e W2 ⟨rfl, hb2⟩
  go_wp2
  go_ret2
  exact ⟨rfl, hB.trans (hb2.mono hB.size)⟩
theorem after_tellDC (w W X w' : World) (v0 v1 v2 v3 c0 c1 c2 : Value) (n : Nat) (hX : X = ((W.alloc (.cells #[v0, v1, v2, v3] 33)).alloc (.cells #[c0, c1, c2] 24)).drewN n) (hw : Below ((w.alloc (.cells #[.int .i64 0, .int .i64 0, .int .i64 0, .int .i64 0] 33)).alloc (.cells #[.int .i64 0, .int .i64 0, .int .i64 0] 24)).heap.size ((w.alloc (.cells #[.int .i64 0, .int .i64 0, .int .i64 0, .int .i64 0] 33)).alloc (.cells #[.int .i64 0, .int .i64 0, .int .i64 0] 24)) W) (h : Below X.heap.size X w') :
    (w'.cell? ⟨w.heap.size, 0, none⟩ = some (.int .i64 0) ∧ w'.cell? ⟨w.heap.size, 1, none⟩ = some (.int .i64 0) ∧ w'.cell? ⟨w.heap.size, 2, none⟩ = some (.int .i64 0) ∧ w'.cell? ⟨w.heap.size, 3, none⟩ = some (.int .i64 0)) ∧ (∀ j, w'.frozen? ⟨w.heap.size, j, none⟩ = false) ∧
    (w'.cell? ⟨w.heap.size + 1, 0, none⟩ = some (.int .i64 0) ∧ w'.cell? ⟨w.heap.size + 1, 1, none⟩ = some (.int .i64 0) ∧ w'.cell? ⟨w.heap.size + 1, 2, none⟩ = some (.int .i64 0)) ∧ (∀ j, w'.frozen? ⟨w.heap.size + 1, j, none⟩ = false) ∧
    (w'.cell? ⟨W.heap.size, 0, none⟩ = some v0 ∧ w'.cell? ⟨W.heap.size, 1, none⟩ = some v1 ∧ w'.cell? ⟨W.heap.size, 2, none⟩ = some v2 ∧ w'.cell? ⟨W.heap.size, 3, none⟩ = some v3) ∧
    (w'.cell? ⟨W.heap.size + 1, 0, none⟩ = some c0 ∧ w'.cell? ⟨W.heap.size + 1, 1, none⟩ = some c1 ∧ w'.cell? ⟨W.heap.size + 1, 2, none⟩ = some c2) ∧ Hid (Below w.heap.size w w') := by
  subst hX
  obtain ⟨⟨a0, a1, a2, a3⟩, fa, ⟨b0, b1, b2⟩, fb, hs, hb⟩ := slotDC w W hw
  have h2 : Below ((W.alloc (.cells #[v0, v1, v2, v3] 33)).alloc (.cells #[c0, c1, c2] 24)).heap.size ((W.alloc (.cells #[v0, v1, v2, v3] 33)).alloc (.cells #[c0, c1, c2] 24)) w' := (below_drewN (Below.refl _ _) n).trans h
  have cc : ∀ k o, k < W.heap.size → w'.cell? ⟨k, o, none⟩ = W.cell? ⟨k, o, none⟩ := fun k o hk => by rw [h2.cell (p := ⟨k, o, none⟩) (by simp; omega), World.cell?_alloc_past _ _ _ (by simp; omega), World.cell?_alloc_past _ _ _ hk]
  have ff : ∀ k o, k < W.heap.size → w'.frozen? ⟨k, o, none⟩ = W.frozen? ⟨k, o, none⟩ := fun k o hk => by rw [h2.frozen (p := ⟨k, o, none⟩) (by simp; omega), World.frozen?_alloc_old _ _ ⟨k, o, none⟩ (by simp; omega), World.frozen?_alloc_old _ _ ⟨k, o, none⟩ (Nat.ne_of_lt hk)]
  refine ⟨⟨?_, ?_, ?_, ?_⟩, fun j => ?_, ⟨?_, ?_, ?_⟩, fun j => ?_, ⟨?_, ?_, ?_, ?_⟩, ⟨?_, ?_, ?_⟩, ?_⟩
  · rw [cc _ _ (by omega)]; exact a0
  · rw [cc _ _ (by omega)]; exact a1
  · rw [cc _ _ (by omega)]; exact a2
  · rw [cc _ _ (by omega)]; exact a3
  · rw [ff _ _ (by omega)]; exact fa j
  · rw [cc _ _ (by omega)]; exact b0
  · rw [cc _ _ (by omega)]; exact b1
  · rw [cc _ _ (by omega)]; exact b2
  · rw [ff _ _ (by omega)]; exact fb j
  · rw [h2.cell (p := ⟨W.heap.size, 0, none⟩) (by simp; omega)]; simp [go_sem]
  · rw [h2.cell (p := ⟨W.heap.size, 1, none⟩) (by simp; omega)]; simp [go_sem]
  · rw [h2.cell (p := ⟨W.heap.size, 2, none⟩) (by simp; omega)]; simp [go_sem]
  · rw [h2.cell (p := ⟨W.heap.size, 3, none⟩) (by simp; omega)]; simp [go_sem]
  · rw [h2.cell (p := ⟨W.heap.size + 1, 0, none⟩) (by simp)]; simp [go_sem]
  · rw [h2.cell (p := ⟨W.heap.size + 1, 1, none⟩) (by simp)]; simp [go_sem]
  · rw [h2.cell (p := ⟨W.heap.size + 1, 2, none⟩) (by simp)]; simp [go_sem]
  · exact ((hb.alloc (by omega) _).alloc (by simp; omega) _).trans (h2.mono (by simp; omega))
set_option maxRecDepth 100000 in
set_option maxHeartbeats 8000000 in
theorem pctell_gen (t v0 v1 v2 v3 c0 c1 c2 k : Int) (w : World) (hd : Hd w)
    (kc : ∀ W, Calls Tryz.prog 39 #[.int .i64 t] W fun e w' => e = .returned (.tuple #[.agg #[.int .i64 v0, .int .i64 v1, .int .i64 v2, .int .i64 v3], .agg #[.int .i64 c0, .int .i64 c1, .int .i64 c2], ev k]) ∧ Below W.heap.size W w') :
    Calls Tryz.prog 15 #[.int .i64 t] w fun e w' => e = .returned (.tuple #[.agg #[.int .i64 v0, .int .i64 v1, .int .i64 v2, .int .i64 v3], .agg #[.int .i64 c0, .int .i64 c1, .int .i64 c2], .int .i64 k]) ∧ Below w.heap.size w w' := by
  have KC := hide kc
  have ht := hide (fun W (h : Below w.heap.size w W) => tell_ev k W (hd.later h))
  clear kc
  generalize ev k = E at *
  go_enter Tryz.func15, Tryz.ntmps15
  go_wp2_with fail
  refine (KC.out _).mono ?_
  rintro e W ⟨rfl, hw⟩
  obtain ⟨_, _, _, _, hs, hb0⟩ := slotDC w W hw
  clear KC
  go_wp2_with fail
  go_region_with (go_at_call 32; refine (ht.out _ (by repeat (first | exact (hb0.alloc (by omega) _).alloc (by simp; omega) _ | refine below_drewN ?_ _))).mono ?_; rintro e X ⟨rfl, hx⟩; obtain ⟨⟨a0, a1, a2, a3⟩, fa, ⟨b0, b1, b2⟩, fb, ⟨d0, d1, d2, d3⟩, ⟨e0, e1, e2⟩, hbf⟩ := after_tellDC w W _ X _ _ _ _ _ _ _ _ rfl hw hx; clear hx)
  all_goals
    have hbf := (show Hid (Below w.heap.size w _) by assumption)
    clear ht hw hb0
    go_wp2
    refine bodyPost_ret (v := .tuple #[.agg #[.int .i64 v0, .int .i64 v1, .int .i64 v2, .int .i64 v3], .agg #[.int .i64 c0, .int .i64 c1, .int .i64 c2], .int .i64 k]) (by simp [results, Tryz.results15, go_sem, *]) rfl ⟨rfl, ?_⟩
    exact ((((((hbf.out.setCell (Nat.le_refl _) _).setCell (Nat.le_refl _) _).setCell (Nat.le_refl _) _).setCell (Nat.le_refl _) _).setCell (Nat.le_succ _) _).setCell (Nat.le_succ _) _).setCell (Nat.le_succ _) _
end Go.Proofs.YtkfjhflbbmmlkaaGreatDoor
