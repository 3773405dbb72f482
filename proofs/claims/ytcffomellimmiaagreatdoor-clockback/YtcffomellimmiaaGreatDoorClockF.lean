/- package clock: Add at a date; what Since answers to wrong times; package plain. -/
import Derived.Test.YtcffomellimmiaaGreatDoorClockE
import Derived.Test.YtcffomellimmiaaGreatDoorClockM
import Derived.Test.YtcffomellimmiaaGreatDoorDaysKeep
namespace Go.Proofs.YtcffomellimmiaaGreatDoor
open Go.RowKit Go.Shelf
set_option linter.unusedVariables false
set_option linter.unusedSimpArgs false

theorem amon_dnum (j d : Int) : dnum 1 (j / 12) (j % 12 + 1) d = Alm.gst j + d - 1 := by
  unfold dnum Alm.gst
  rw [show j % 12 + 1 - 1 = j % 12 from by omega]; omega
theorem date_ex1 (day : Int) (w : World) (d1 : -4000000 ≤ day) (d2 : day ≤ 4000000) : ∃ y m d, Alm.IsDate 1 day y m d ∧ -20000 ≤ y ∧ y ≤ 20000 := by
  obtain ⟨e, w', fr, ⟨y, m, d, _, hd, y1, y2, _⟩, _⟩ := of_ok 1 day w (by omega) (by omega) d1 d2 []
  exact ⟨y, m, d, hd, y1, y2⟩
/-- do so many months lead to a day that is there? -/
def Leads (i d n : Int) : Prop := (-20000 ≤ (i + n) / 12 ∧ (i + n) / 12 ≤ 20000) ∧ (-4000000 ≤ Alm.amon i d n ∧ Alm.amon i d n ≤ 4000000)
/-! ### package plain -/
theorem after_tell5 (w W X w' : World) (v0 v1 v2 v3 v4 : Value) (n : Nat) (hX : X = (W.alloc (.cells #[v0, v1, v2, v3, v4] 39)).drewN n) (hw : Below (w.alloc (.cells #[.int .i64 0, .int .i64 0, .int .i64 0, .int .i64 0, .int .i64 0] 39)).heap.size (w.alloc (.cells #[.int .i64 0, .int .i64 0, .int .i64 0, .int .i64 0, .int .i64 0] 39)) W) (h : Below X.heap.size X w') :
    (w'.cell? ⟨w.heap.size, 0, none⟩ = some (.int .i64 0) ∧ w'.cell? ⟨w.heap.size, 1, none⟩ = some (.int .i64 0) ∧ w'.cell? ⟨w.heap.size, 2, none⟩ = some (.int .i64 0) ∧ w'.cell? ⟨w.heap.size, 3, none⟩ = some (.int .i64 0) ∧ w'.cell? ⟨w.heap.size, 4, none⟩ = some (.int .i64 0)) ∧ (∀ j, w'.frozen? ⟨w.heap.size, j, none⟩ = false) ∧
    (w'.cell? ⟨W.heap.size, 0, none⟩ = some v0 ∧ w'.cell? ⟨W.heap.size, 1, none⟩ = some v1 ∧ w'.cell? ⟨W.heap.size, 2, none⟩ = some v2 ∧ w'.cell? ⟨W.heap.size, 3, none⟩ = some v3 ∧ w'.cell? ⟨W.heap.size, 4, none⟩ = some v4) ∧ Hid (Below w.heap.size w w') := by
  subst hX
  obtain ⟨⟨z0, z1, z2, z3, z4⟩, fz, hs⟩ := box5 w W _ _ _ _ _ _ hw
  have h2 : Below (W.alloc (.cells #[v0, v1, v2, v3, v4] 39)).heap.size (W.alloc (.cells #[v0, v1, v2, v3, v4] 39)) w' := (below_drewN (Below.refl _ _) n).trans h
  obtain ⟨c5, _, _⟩ := box5 W w' _ _ _ _ _ _ h2
  have cc : ∀ k o, k < W.heap.size → w'.cell? ⟨k, o, none⟩ = W.cell? ⟨k, o, none⟩ := fun k o hk => by rw [h2.cell (p := ⟨k, o, none⟩) (by simp; omega), World.cell?_alloc_past _ _ _ hk]
  have ff : ∀ k o, k < W.heap.size → w'.frozen? ⟨k, o, none⟩ = W.frozen? ⟨k, o, none⟩ := fun k o hk => by rw [h2.frozen (p := ⟨k, o, none⟩) (by simp; omega), World.frozen?_alloc_old _ _ ⟨k, o, none⟩ (Nat.ne_of_lt hk)]
  refine ⟨⟨?_, ?_, ?_, ?_, ?_⟩, fun j => ?_, c5, ?_⟩
  · rw [cc _ _ hs]; exact z0
  · rw [cc _ _ hs]; exact z1
  · rw [cc _ _ hs]; exact z2
  · rw [cc _ _ hs]; exact z3
  · rw [cc _ _ hs]; exact z4
  · rw [ff _ _ hs]; exact fz j
  · exact ((((Below.refl _ w).alloc (Nat.le_refl _) _).trans (hw.mono (by simp))).alloc (Nat.le_of_lt hs) _).trans (h2.mono (by simp; omega))
end Go.Proofs.YtcffomellimmiaaGreatDoor
