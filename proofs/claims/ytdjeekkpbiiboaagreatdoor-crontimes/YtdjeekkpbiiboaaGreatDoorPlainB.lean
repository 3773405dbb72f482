/- days.Of where there is no date; plain.DaysDay, plain.DaysOf. -/
import Derived.Test.YtdjeekkpbiiboaaGreatDoorDaysC
namespace Go.Proofs.YtdjeekkpbiiboaaGreatDoor
open Go.RowKit Go.Shelf

/-- what is wrong with a calendar and a day -/
def oerr (c day : Int) : Int := if c < 1 ∨ 10 < c then 2 else if day < -4000000 ∨ 4000000 < day then 4 else 0
theorem of_no (c day : Int) (w : World) (h : c < 1 ∨ 10 < c ∨ day < -4000000 ∨ 4000000 < day) :
    Calls Tryz.prog 34 #[.int .i64 c, .int .i64 day] w fun e w' => e = .returned (.tuple #[.agg #[.int .i64 0, .int .i64 0, .int .i64 0, .int .i64 0], .iface 27 (.int .i64 (oerr c day))]) ∧ Below w.heap.size w w' := by
  by_cases hc : c < 1 ∨ 10 < c
  · have e : oerr c day = 2 := by unfold oerr; rw [if_pos hc]
    rw [e]; clear e h
    go_enter Tryz.func34, Tryz.ntmps34
    go_wp2_with fail
    refine (calOf_no c _ hc).mono ?_
    rintro e W ⟨rfl, hb⟩
    obtain ⟨⟨z0, n0⟩, ⟨z1, n1⟩, ⟨z2, n2⟩, ⟨z3, n3⟩⟩ := slotD w W hb
    have hs : w.heap.size < W.heap.size := by have := hb.size; simp at this; omega
    have hb0 : Below w.heap.size w W := ((Below.refl _ w).alloc (Nat.le_refl _) _).trans (hb.mono (by simp))
    clear hc
    go_wp2
    exact bodyPost_ret (v := .tuple #[.agg #[.int .i64 0, .int .i64 0, .int .i64 0, .int .i64 0], .iface 27 (.int .i64 2)]) (by simp [results, Tryz.results34, go_sem, z0, z1, z2, z3, hs]) rfl ⟨rfl, ((((hb0.setCell (Nat.le_refl _) _).setCell (Nat.le_refl _) _).setCell (Nat.le_refl _) _).setCell (Nat.le_refl _) _).alloc (by simp [World.setCell]; omega) _⟩
  · have hd : day < -4000000 ∨ 4000000 < day := by omega
    have e : oerr c day = 4 := by unfold oerr; rw [if_neg hc, if_pos hd]
    rw [e]; clear e h
    go_enter Tryz.func34, Tryz.ntmps34
    go_wp2_with fail
    refine (calOf_yes c _ (by omega) (by omega)).mono ?_
    rintro e W ⟨g0, l0, g1, l1, g2, l2, g3, l3, rfl, hcal, hb⟩
    obtain ⟨⟨z0, n0⟩, ⟨z1, n1⟩, ⟨z2, n2⟩, ⟨z3, n3⟩⟩ := slotD w W hb
    have hs : w.heap.size < W.heap.size := by have := hb.size; simp at this; omega
    have hb0 : Below w.heap.size w W := ((Below.refl _ w).alloc (Nat.le_refl _) _).trans (hb.mono (by simp))
    clear hcal hc
    go_wp2_with (go_at_call 49; refine (checkDay_no day _ hd).mono ?_; rintro e w' ⟨rfl, rfl⟩)
    exact bodyPost_ret (v := .tuple #[.agg #[.int .i64 0, .int .i64 0, .int .i64 0, .int .i64 0], .iface 27 (.int .i64 4)]) (by simp [results, Tryz.results34, go_sem, z0, z1, z2, z3, hs]) rfl ⟨rfl, ((((hb0.setCell (Nat.le_refl _) _).setCell (Nat.le_refl _) _).setCell (Nat.le_refl _) _).setCell (Nat.le_refl _) _).alloc (by simp [World.setCell]; omega) _⟩

theorem after_tell (w W X w' : World) (v0 v1 v2 v3 : Int) (n : Nat) (hX : X = (W.alloc (.cells #[.int .i64 v0, .int .i64 v1, .int .i64 v2, .int .i64 v3] 60)).drewN n) (hs : w.heap.size < W.heap.size) (hb0 : Below w.heap.size w W) (h : Below X.heap.size X w')
    (z0 : W.cell? ⟨w.heap.size, 0, none⟩ = some (.int .i64 0)) (n0 : W.frozen? ⟨w.heap.size, 0, none⟩ = false) (z1 : W.cell? ⟨w.heap.size, 1, none⟩ = some (.int .i64 0)) (n1 : W.frozen? ⟨w.heap.size, 1, none⟩ = false)
    (z2 : W.cell? ⟨w.heap.size, 2, none⟩ = some (.int .i64 0)) (n2 : W.frozen? ⟨w.heap.size, 2, none⟩ = false) (z3 : W.cell? ⟨w.heap.size, 3, none⟩ = some (.int .i64 0)) (n3 : W.frozen? ⟨w.heap.size, 3, none⟩ = false) :
    (w'.cell? ⟨w.heap.size, 0, none⟩ = some (.int .i64 0) ∧ w'.frozen? ⟨w.heap.size, 0, none⟩ = false ∧ w'.cell? ⟨w.heap.size, 1, none⟩ = some (.int .i64 0) ∧ w'.frozen? ⟨w.heap.size, 1, none⟩ = false ∧
      w'.cell? ⟨w.heap.size, 2, none⟩ = some (.int .i64 0) ∧ w'.frozen? ⟨w.heap.size, 2, none⟩ = false ∧ w'.cell? ⟨w.heap.size, 3, none⟩ = some (.int .i64 0) ∧ w'.frozen? ⟨w.heap.size, 3, none⟩ = false) ∧
    (w'.cell? ⟨W.heap.size, 0, none⟩ = some (.int .i64 v0) ∧ w'.cell? ⟨W.heap.size, 1, none⟩ = some (.int .i64 v1) ∧ w'.cell? ⟨W.heap.size, 2, none⟩ = some (.int .i64 v2) ∧ w'.cell? ⟨W.heap.size, 3, none⟩ = some (.int .i64 v3)) ∧ Hid (Below w.heap.size w w') := by
  subst hX
  have h2 : Below (W.alloc (.cells #[.int .i64 v0, .int .i64 v1, .int .i64 v2, .int .i64 v3] 60)).heap.size (W.alloc (.cells #[.int .i64 v0, .int .i64 v1, .int .i64 v2, .int .i64 v3] 60)) w' := (below_drewN (Below.refl _ _) n).trans h
  have cc : ∀ k o, k < W.heap.size + 1 → w'.cell? ⟨k, o, none⟩ = (W.alloc (.cells #[.int .i64 v0, .int .i64 v1, .int .i64 v2, .int .i64 v3] 60)).cell? ⟨k, o, none⟩ := fun k o hk => h2.cell (p := ⟨k, o, none⟩) (by simpa using hk)
  have ff : ∀ k o, k < W.heap.size + 1 → w'.frozen? ⟨k, o, none⟩ = (W.alloc (.cells #[.int .i64 v0, .int .i64 v1, .int .i64 v2, .int .i64 v3] 60)).frozen? ⟨k, o, none⟩ := fun k o hk => h2.frozen (p := ⟨k, o, none⟩) (by simpa using hk)
  refine ⟨⟨?_, ?_, ?_, ?_, ?_, ?_, ?_, ?_⟩, ⟨?_, ?_, ?_, ?_⟩, (hb0.alloc (by omega) _).trans (h2.mono (by simp; omega))⟩
  · rw [cc _ _ (by omega), World.cell?_alloc_past _ _ _ hs]; exact z0
  · rw [ff _ _ (by omega), World.frozen?_alloc_old _ _ ⟨w.heap.size, 0, none⟩ (Nat.ne_of_lt hs)]; exact n0
  · rw [cc _ _ (by omega), World.cell?_alloc_past _ _ _ hs]; exact z1
  · rw [ff _ _ (by omega), World.frozen?_alloc_old _ _ ⟨w.heap.size, 1, none⟩ (Nat.ne_of_lt hs)]; exact n1
  · rw [cc _ _ (by omega), World.cell?_alloc_past _ _ _ hs]; exact z2
  · rw [ff _ _ (by omega), World.frozen?_alloc_old _ _ ⟨w.heap.size, 2, none⟩ (Nat.ne_of_lt hs)]; exact n2
  · rw [cc _ _ (by omega), World.cell?_alloc_past _ _ _ hs]; exact z3
  · rw [ff _ _ (by omega), World.frozen?_alloc_old _ _ ⟨w.heap.size, 3, none⟩ (Nat.ne_of_lt hs)]; exact n3
  · rw [cc _ _ (by omega)]; simp
  · rw [cc _ _ (by omega)]; simp
  · rw [cc _ _ (by omega)]; simp
  · rw [cc _ _ (by omega)]; simp

end Go.Proofs.YtdjeekkpbiiboaaGreatDoor
