/- package clock: Add, out of what addMonths answers. -/
import Derived.Test.YtdjeekkpbiiboaaGreatDoorClockB
namespace Go.Proofs.YtdjeekkpbiiboaaGreatDoor
open Go.RowKit
set_option linter.unusedVariables false
set_option linter.unusedSimpArgs false

/-- may a period's parts be? -/
def Small (y m n d s : Int) : Prop := (-1000000000000 ≤ y ∧ y ≤ 1000000000000) ∧ (-1000000000000 ≤ m ∧ m ≤ 1000000000000) ∧ (-1000000000000 ≤ n ∧ n ≤ 1000000000000) ∧ (-1000000000000 ≤ d ∧ d ≤ 1000000000000) ∧ (-1000000000000 ≤ s ∧ s ≤ 1000000000000)
theorem box5 (W X : World) (T : TypeId) (v0 v1 v2 v3 v4 : Value) (hb : Below (W.alloc (.cells #[v0, v1, v2, v3, v4] T)).heap.size (W.alloc (.cells #[v0, v1, v2, v3, v4] T)) X) :
    (X.cell? ⟨W.heap.size, 0, none⟩ = some v0 ∧ X.cell? ⟨W.heap.size, 1, none⟩ = some v1 ∧ X.cell? ⟨W.heap.size, 2, none⟩ = some v2 ∧ X.cell? ⟨W.heap.size, 3, none⟩ = some v3 ∧ X.cell? ⟨W.heap.size, 4, none⟩ = some v4) ∧ (∀ j, X.frozen? ⟨W.heap.size, j, none⟩ = false) ∧ W.heap.size < X.heap.size := by
  refine ⟨⟨?_, ?_, ?_, ?_, ?_⟩, fun j => ?_, by have := hb.size; simp at this; omega⟩
  · rw [hb.cell (p := ⟨W.heap.size, 0, none⟩) (by simp)]; simp
  · rw [hb.cell (p := ⟨W.heap.size, 1, none⟩) (by simp)]; simp
  · rw [hb.cell (p := ⟨W.heap.size, 2, none⟩) (by simp)]; simp
  · rw [hb.cell (p := ⟨W.heap.size, 3, none⟩) (by simp)]; simp
  · rw [hb.cell (p := ⟨W.heap.size, 4, none⟩) (by simp)]; simp
  · rw [hb.frozen (p := ⟨W.heap.size, j, none⟩) (by simp)]; simp
end Go.Proofs.YtdjeekkpbiiboaaGreatDoor
