/- package plain: ClockSplit, ClockJoin, ClockOf, ClockTell. -/
import Derived.Test.YtcffomellimmiaaGreatDoorClockH
namespace Go.Proofs.YtcffomellimmiaaGreatDoor
open Go.RowKit Go.Shelf
set_option linter.unusedVariables false
set_option linter.unusedSimpArgs false

theorem after_tellDC (w W X w' : World) (v0 v1 v2 v3 c0 c1 c2 : Value) (n : Nat) (hX : X = ((W.alloc (.cells #[v0, v1, v2, v3] 51)).alloc (.cells #[c0, c1, c2] 53)).drewN n) (hw : Below ((w.alloc (.cells #[.int .i64 0, .int .i64 0, .int .i64 0, .int .i64 0] 51)).alloc (.cells #[.int .i64 0, .int .i64 0, .int .i64 0] 53)).heap.size ((w.alloc (.cells #[.int .i64 0, .int .i64 0, .int .i64 0, .int .i64 0] 51)).alloc (.cells #[.int .i64 0, .int .i64 0, .int .i64 0] 53)) W) (h : Below X.heap.size X w') :
    (w'.cell? ⟨w.heap.size, 0, none⟩ = some (.int .i64 0) ∧ w'.cell? ⟨w.heap.size, 1, none⟩ = some (.int .i64 0) ∧ w'.cell? ⟨w.heap.size, 2, none⟩ = some (.int .i64 0) ∧ w'.cell? ⟨w.heap.size, 3, none⟩ = some (.int .i64 0)) ∧ (∀ j, w'.frozen? ⟨w.heap.size, j, none⟩ = false) ∧
    (w'.cell? ⟨w.heap.size + 1, 0, none⟩ = some (.int .i64 0) ∧ w'.cell? ⟨w.heap.size + 1, 1, none⟩ = some (.int .i64 0) ∧ w'.cell? ⟨w.heap.size + 1, 2, none⟩ = some (.int .i64 0)) ∧ (∀ j, w'.frozen? ⟨w.heap.size + 1, j, none⟩ = false) ∧
    (w'.cell? ⟨W.heap.size, 0, none⟩ = some v0 ∧ w'.cell? ⟨W.heap.size, 1, none⟩ = some v1 ∧ w'.cell? ⟨W.heap.size, 2, none⟩ = some v2 ∧ w'.cell? ⟨W.heap.size, 3, none⟩ = some v3) ∧
    (w'.cell? ⟨W.heap.size + 1, 0, none⟩ = some c0 ∧ w'.cell? ⟨W.heap.size + 1, 1, none⟩ = some c1 ∧ w'.cell? ⟨W.heap.size + 1, 2, none⟩ = some c2) ∧ Hid (Below w.heap.size w w') := by
  subst hX
  obtain ⟨⟨a0, a1, a2, a3⟩, fa, ⟨b0, b1, b2⟩, fb, hs, hb⟩ := slotDC w W hw
  have h2 : Below ((W.alloc (.cells #[v0, v1, v2, v3] 51)).alloc (.cells #[c0, c1, c2] 53)).heap.size ((W.alloc (.cells #[v0, v1, v2, v3] 51)).alloc (.cells #[c0, c1, c2] 53)) w' := (below_drewN (Below.refl _ _) n).trans h
  have cc : ∀ k o, k < W.heap.size → w'.cell? ⟨k, o, none⟩ = W.cell? ⟨k, o, none⟩ := fun k o hk => by rw [h2.cell (p := ⟨k, o, none⟩) (by simp; omega), World.cell?_alloc_past _ _ _ (by simp; omega), World.cell?_alloc_past _ _ _ hk]
  have ff : ∀ k o, k < W.heap.size → w'.frozen? ⟨k, o, none⟩ = W.frozen? ⟨k, o, none⟩ := fun k o hk => by rw [h2.frozen (p := ⟨k, o, none⟩) (by simp; omega), World.frozen?_alloc_old _ _ ⟨k, o, none⟩ (by simp; omega), World.frozen?_alloc_old _ _ ⟨k, o, none⟩ (Nat.ne_of_lt hk)]
  refine ⟨⟨?_, ?_, ?_, ?_⟩, fun j => ?_, ⟨?_, ?_, ?_⟩, fun j => ?_, ⟨?_, ?_, ?_, ?_⟩, ⟨?_, ?_, ?_⟩, ?_⟩
  · rw [cc _ _ (by omega)]; exact a0
  · rw [cc _ _ (by omega)]; exact a1
  · rw [cc _ _ (by omega)]; exact a2
  · rw [cc _ _ (by omega)]; exact a3
  · rw [ff _ _ (by omega)]; exact fa j
  · rw [cc _ _ (by omega)]; exact b0
  · rw [cc _ _ (by omega)]; exact b1
  · rw [cc _ _ (by omega)]; exact b2
  · rw [ff _ _ (by omega)]; exact fb j
  · rw [h2.cell (p := ⟨W.heap.size, 0, none⟩) (by simp; omega)]; simp [go_sem]
  · rw [h2.cell (p := ⟨W.heap.size, 1, none⟩) (by simp; omega)]; simp [go_sem]
  · rw [h2.cell (p := ⟨W.heap.size, 2, none⟩) (by simp; omega)]; simp [go_sem]
  · rw [h2.cell (p := ⟨W.heap.size, 3, none⟩) (by simp; omega)]; simp [go_sem]
  · rw [h2.cell (p := ⟨W.heap.size + 1, 0, none⟩) (by simp)]; simp [go_sem]
  · rw [h2.cell (p := ⟨W.heap.size + 1, 1, none⟩) (by simp)]; simp [go_sem]
  · rw [h2.cell (p := ⟨W.heap.size + 1, 2, none⟩) (by simp)]; simp [go_sem]
  · exact ((hb.alloc (by omega) _).alloc (by simp; omega) _).trans (h2.mono (by simp; omega))
end Go.Proofs.YtcffomellimmiaaGreatDoor
