/- package clock: Since. -/
import Derived.Test.YtgbbplkpepaidaaGreatDoorMCronTimes13
import Derived.Deep.RegionHeld3
namespace Go.Proofs.YtgbbplkpepaidaaGreatDoor
open Go.RowKit Go.Shelf
set_option linter.unusedVariables false
set_option linter.unusedSimpArgs false

theorem two_boxes (V W : World) (T U : TypeId) (v0 v1 v2 v3 : Value) (c : Array Value) (hb : Below ((V.alloc (.cells #[v0, v1, v2, v3] T)).alloc (.cells c U)).heap.size ((V.alloc (.cells #[v0, v1, v2, v3] T)).alloc (.cells c U)) W) :
    (W.cell? ⟨V.heap.size, 0, none⟩ = some v0 ∧ W.cell? ⟨V.heap.size, 1, none⟩ = some v1 ∧ W.cell? ⟨V.heap.size, 2, none⟩ = some v2 ∧ W.cell? ⟨V.heap.size, 3, none⟩ = some v3) ∧ V.heap.size + 1 < W.heap.size := by
  refine ⟨⟨?_, ?_, ?_, ?_⟩, by have := hb.size; simp at this; omega⟩
  · rw [hb.cell (p := ⟨V.heap.size, 0, none⟩) (by simp; omega)]; simp [go_sem]
  · rw [hb.cell (p := ⟨V.heap.size, 1, none⟩) (by simp; omega)]; simp [go_sem]
  · rw [hb.cell (p := ⟨V.heap.size, 2, none⟩) (by simp; omega)]; simp [go_sem]
  · rw [hb.cell (p := ⟨V.heap.size, 3, none⟩) (by simp; omega)]; simp [go_sem]
end Go.Proofs.YtgbbplkpepaidaaGreatDoor
