/- package plain: ClockParse of a text that is a stamp's. -/
import Derived.Test.YtcffomellimmiaaGreatDoorPrsF
import Derived.Test.YtcffomellimmiaaGreatDoorTxtI
import Derived.Deep.RegionWith
namespace Go.Proofs.YtcffomellimmiaaGreatDoor
open Go.RowKit Go.Shelf
set_option linter.unusedVariables false
set_option linter.unusedSimpArgs false

/-- what a wrapper of package plain keeps: its result's cells, what it has been told, all that was -/
def PK (C c : Nat) (t z o : Value) (w X : World) : Prop :=
  (X.cell? ⟨C, 0, none⟩ = some (.int .i64 0) ∧ X.cell? ⟨C, 1, none⟩ = some (.int .i64 0) ∧ X.cell? ⟨C, 2, none⟩ = some (.int .i64 0) ∧ ∀ j, X.frozen? ⟨C, j, none⟩ = false) ∧
  (X.cell? ⟨c, 0, none⟩ = some t ∧ X.cell? ⟨c, 1, none⟩ = some z ∧ X.cell? ⟨c, 2, none⟩ = some o) ∧ C < X.heap.size ∧ c < X.heap.size ∧ w.heap.size ≤ C ∧ Below w.heap.size w X
theorem PK.step {C c : Nat} {t z o : Value} {w X X' : World} {n : Nat} (h : PK C c t z o w X) (hx : Below (X.drewN n).heap.size (X.drewN n) X') : PK C c t z o w X' := by
  obtain ⟨⟨a0, a1, a2, fa⟩, ⟨d0, d1, d2⟩, hC, hc, hw, hB⟩ := h
  have hb : Below X.heap.size X X' := (below_drewN (Below.refl _ _) n).trans hx
  exact ⟨⟨(hb.cell (p := ⟨C, 0, none⟩) hC).trans a0, (hb.cell (p := ⟨C, 1, none⟩) hC).trans a1, (hb.cell (p := ⟨C, 2, none⟩) hC).trans a2, fun j => (hb.frozen (p := ⟨C, j, none⟩) hC).trans (fa j)⟩,
    ⟨(hb.cell (p := ⟨c, 0, none⟩) hc).trans d0, (hb.cell (p := ⟨c, 1, none⟩) hc).trans d1, (hb.cell (p := ⟨c, 2, none⟩) hc).trans d2⟩, Nat.lt_of_lt_of_le hC hb.size, Nat.lt_of_lt_of_le hc hb.size, hw, hB.trans (hb.mono hB.size)⟩
set_option maxRecDepth 100000 in
set_option maxHeartbeats 8000000 in
theorem pcparse_steps (s : ByteArray) (t z o : Int) (w : World)
    (kp : ∀ W, Calls Tryz.prog 22 #[.string s] W fun e w' => e = .returned (.tuple #[.agg #[.int .i64 t, .int .i64 z, .int .i64 o], .nilIface]) ∧ Below W.heap.size W w') :
    Calls Tryz.prog 12 #[.string s] w fun e w' => e = .returned (.tuple #[.agg #[.int .i64 t, .int .i64 z, .int .i64 o], .int .i64 0, .int .i64 (-1)]) ∧ Below w.heap.size w w' := by
  have KP := hide kp
  have KT := hide tell_nil
  have KW := hide where_nil
  clear kp
  go_enter Tryz.func12, Tryz.ntmps12
  go_wp2_with fail
  refine (KP.out _).mono ?_
  rintro e W1 ⟨rfl, hb1⟩
  have hl : w.heap.size < W1.heap.size := by have := hb1.size; simp at this; omega
  have hp : PK w.heap.size W1.heap.size (.int .i64 t) (.int .i64 z) (.int .i64 o) w (W1.alloc (.cells #[.int .i64 t, .int .i64 z, .int .i64 o] 24)) := by
    obtain ⟨x0, x1, x2, x3, x4⟩ := box3w w W1 _ _ _ _ hb1
    have x5 : ∀ j, W1.frozen? ⟨w.heap.size, j, none⟩ = false := fun j => by rw [hb1.frozen (p := ⟨w.heap.size, j, none⟩) (by simp)]; simp
    exact ⟨⟨by rw [World.cell?_alloc_past _ _ _ x3]; exact x0, by rw [World.cell?_alloc_past _ _ _ x3]; exact x1, by rw [World.cell?_alloc_past _ _ _ x3]; exact x2, fun j => by rw [World.frozen?_alloc_old _ _ ⟨w.heap.size, j, none⟩ (Nat.ne_of_lt x3)]; exact x5 j⟩,
      ⟨by simp [go_sem], by simp [go_sem], by simp [go_sem]⟩, by simp; omega, by simp, Nat.le_refl _, x4.alloc (Nat.le_of_lt x3) _⟩
  clear hb1 KP
  go_wp2_with fail
  generalize hV : W1.alloc (.cells #[.int .i64 t, .int .i64 z, .int .i64 o] 24) = V at *
  generalize hc : W1.heap.size = c at *
  generalize hC : w.heap.size = C at *
  have hp0 := hp
  obtain ⟨⟨a0, a1, a2, fa⟩, ⟨d0, d1, d2⟩, _, _, _, _⟩ := hp0
  have hne : C ≠ c := by omega
  go_region_with (first
    | (go_at_call 17; refine (KT.out _).mono ?_; rintro e X ⟨rfl, hx⟩; have hpx := PK.step hp hx; have hpy := hpx; obtain ⟨⟨x0, x1, x2, fx⟩, ⟨y0, y1, y2⟩, _, _, _, _⟩ := hpy; clear hx)
    | (go_at_call 23; refine (KW.out _).mono ?_; rintro e Y ⟨rfl, hy⟩; have hpz := PK.step (n := 0) hpx hy; obtain ⟨⟨u0, u1, u2, fu⟩, ⟨z0, z1, z2⟩, _, _, hwC, hBY⟩ := hpz; clear hy))
  all_goals
    go_wp2
    refine bodyPost_ret (v := .tuple #[.agg #[.int .i64 t, .int .i64 z, .int .i64 o], .int .i64 0, .int .i64 (-1)]) (by simp [results, Tryz.results12, go_sem, u0, u1, u2]) rfl ⟨rfl, ?_⟩
    rw [← hC]
    exact ((hBY.setCell (Nat.le_refl _) _).setCell (Nat.le_refl _) _).setCell (Nat.le_refl _) _
end Go.Proofs.YtcffomellimmiaaGreatDoor
