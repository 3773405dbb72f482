/- package clock: Text; the reference's Text. -/
import Derived.Test.YtafaacliphdndaaGreatDoorMClockTexts18
import Derived.Deep.RegionHeld3
namespace Go.Proofs.YtafaacliphdndaaGreatDoor
open Go.RowKit Go.Shelf
set_option linter.unusedVariables false
set_option linter.unusedSimpArgs false

theorem two43 (V W : World) (T U : TypeId) (v0 v1 v2 v3 c0 c1 c2 : Value) (hb : Below ((V.alloc (.cells #[v0, v1, v2, v3] T)).alloc (.cells #[c0, c1, c2] U)).heap.size ((V.alloc (.cells #[v0, v1, v2, v3] T)).alloc (.cells #[c0, c1, c2] U)) W) :
    (W.cell? ⟨V.heap.size, 0, none⟩ = some v0 ∧ W.cell? ⟨V.heap.size, 1, none⟩ = some v1 ∧ W.cell? ⟨V.heap.size, 2, none⟩ = some v2 ∧ W.cell? ⟨V.heap.size, 3, none⟩ = some v3) ∧
    (W.cell? ⟨V.heap.size + 1, 0, none⟩ = some c0 ∧ W.cell? ⟨V.heap.size + 1, 1, none⟩ = some c1 ∧ W.cell? ⟨V.heap.size + 1, 2, none⟩ = some c2) ∧ V.heap.size + 1 < W.heap.size := by
  refine ⟨⟨?_, ?_, ?_, ?_⟩, ⟨?_, ?_, ?_⟩, by have := hb.size; simp at this; omega⟩
  · rw [hb.cell (p := ⟨V.heap.size, 0, none⟩) (by simp; omega)]; simp [go_sem]
  · rw [hb.cell (p := ⟨V.heap.size, 1, none⟩) (by simp; omega)]; simp [go_sem]
  · rw [hb.cell (p := ⟨V.heap.size, 2, none⟩) (by simp; omega)]; simp [go_sem]
  · rw [hb.cell (p := ⟨V.heap.size, 3, none⟩) (by simp; omega)]; simp [go_sem]
  · rw [hb.cell (p := ⟨V.heap.size + 1, 0, none⟩) (by simp)]; simp [go_sem]
  · rw [hb.cell (p := ⟨V.heap.size + 1, 1, none⟩) (by simp)]; simp [go_sem]
  · rw [hb.cell (p := ⟨V.heap.size + 1, 2, none⟩) (by simp)]; simp [go_sem]

theorem kept {V X X' : World} {b j : Nat} {v : Value} (hv : Below V.heap.size V X) (hx : Below X.heap.size X X') (hb : b < V.heap.size) (h : X.cell? ⟨b, j, none⟩ = some v) : X'.cell? ⟨b, j, none⟩ = some v :=
  (hx.cell (p := ⟨b, j, none⟩) (Nat.lt_of_lt_of_le hb hv.size)).trans h
theorem on {V X X' : World} (hv : Below V.heap.size V X) (hx : Below X.heap.size X X') : Below V.heap.size V X' := hv.trans (hx.mono hv.size)
set_option maxRecDepth 100000 in
set_option maxHeartbeats 8000000 in
theorem text_steps (t y : Int) (M D h m s : Nat) (w : World) (ht : Tab w) (y1 : -20000 ≤ y) (y2 : y ≤ 20000) (hM : M < 100) (hD : D < 100) (hh : h < 100) (hm : m < 100) (hs : s < 100)
    (kc : ∀ W, Calls Tryz.prog 54 #[.int .i64 t] W fun e w' => e = .returned (.tuple #[.agg #[.int .i64 1, .int .i64 y, .int .i64 M, .int .i64 D], .agg #[.int .i64 h, .int .i64 m, .int .i64 s], .nilIface]) ∧ Below W.heap.size W w') :
    Calls Tryz.prog 34 #[.int .i64 t] w fun e w' => e = .returned (.tuple #[.string (Tx.txt y M D h m s), .nilIface]) ∧ Below w.heap.size w w' := by
  have KC := hide kc
  have KY := hide (fun W hW => yearText_any y W hW y1 y2)
  have K2 := hide (fun (n : Nat) (hn : n < 100) W hW => digits_any n 2 W hW (by omega) (by omega))
  have z0 := Tx.ytx_sizes y y1 y2
  have z1 := Tx.pad2 M hM
  have z2 := Tx.pad2 D hD
  have z3 := Tx.pad2 h hh
  have z4 := Tx.pad2 m hm
  have z5 := Tx.pad2 s hs
  have HT := hide (show Tx.txt y M D h m s = Tx.ytx y ++ ⟨#[45]⟩ ++ Tx.pad M 2 ++ ⟨#[45]⟩ ++ Tx.pad D 2 ++ ⟨#[84]⟩ ++ Tx.pad h 2 ++ ⟨#[58]⟩ ++ Tx.pad m 2 ++ ⟨#[58]⟩ ++ Tx.pad s 2 from rfl)
  have q1 : (⟨#[45]⟩ : ByteArray).size = 1 := rfl
  have q2 : (⟨#[84]⟩ : ByteArray).size = 1 := rfl
  have q3 : (⟨#[58]⟩ : ByteArray).size = 1 := rfl
  generalize Tx.ytx y = Y at *
  generalize Tx.txt y M D h m s = T at *
  clear kc
  rcases z0 with z0 | z0
  all_goals
    go_enter Tryz.func34, Tryz.ntmps34
    go_wp2_with fail
    refine (KC.out _).mono ?_
    rintro e W1 ⟨rfl, b1⟩
    go_wp2_with fail
    obtain ⟨⟨a0, a1, a2, a3⟩, ⟨c0, c1, c2⟩, hsz⟩ := two43 W1 _ 55 68 (.int .i64 1) (.int .i64 y) (.int .i64 M) (.int .i64 D) (.int .i64 h) (.int .i64 m) (.int .i64 s) (Below.refl _ _)
    have hB : Below w.heap.size w ((W1.alloc (.cells #[.int .i64 1, .int .i64 y, .int .i64 M, .int .i64 D] 55)).alloc (.cells #[.int .i64 h, .int .i64 m, .int .i64 s] 68)) := (b1.alloc b1.size _).alloc (by have := b1.size; simp; omega) _
    generalize hV : ((W1.alloc (.cells #[.int .i64 1, .int .i64 y, .int .i64 M, .int .i64 D] 55)).alloc (.cells #[.int .i64 h, .int .i64 m, .int .i64 s] 68)) = V at *
    generalize W1.heap.size = b at *
    clear hV b1
    have htV := hide (ht.later hB)
    have hb1 : b < V.heap.size := by omega
    go_region_held3 (fun X => X.cell? ⟨b, 1, none⟩ = some (.int .i64 y) ∧ X.cell? ⟨b, 2, none⟩ = some (.int .i64 M) ∧ X.cell? ⟨b, 3, none⟩ = some (.int .i64 D) ∧ Below V.heap.size V X)
      (first | (refine ⟨a1, a2, a3, Below.drew (Below.refl _ _)⟩) | (go_split_ands; refine ⟨?_, ?_, ?_, ?_⟩ <;> first | exact kept (by assumption) hx hb1 (by assumption) | exact on (by assumption) hx))
      (first
        | (go_at_call 56; refine (KY.out _ (htV.out.later (by assumption : _ ∧ _ ∧ _ ∧ Below V.heap.size V _).2.2.2)).mono ?_; rintro e X ⟨rfl, hx⟩)
        | (go_at_call 57; refine (K2.out _ (by assumption) _ (htV.out.later (by assumption : _ ∧ _ ∧ _ ∧ Below V.heap.size V _).2.2.2)).mono ?_; rintro e X ⟨rfl, hx⟩))
    have hH := ‹X.cell? ⟨b, 1, none⟩ = _ ∧ _›
    have hBX : Below V.heap.size V X := hH.2.2.2
    clear hH
    have d0 := (hBX.cell (p := ⟨b + 1, 0, none⟩) hsz).trans c0
    have d1 := (hBX.cell (p := ⟨b + 1, 1, none⟩) hsz).trans c1
    have d2 := (hBX.cell (p := ⟨b + 1, 2, none⟩) hsz).trans c2
    have hB2 := hB.trans (hBX.mono hB.size)
    have htX := hide (htV.out.later hBX)
    have hb2 : b + 1 < X.heap.size := Nat.lt_of_lt_of_le hsz hBX.size
    clear hBX hx hB htV c0 c1 c2 a0 a1 a2 a3
    go_wp2_with fail
    go_region_held3 (fun Z => Z.cell? ⟨b + 1, 0, none⟩ = some (.int .i64 h) ∧ Z.cell? ⟨b + 1, 1, none⟩ = some (.int .i64 m) ∧ Z.cell? ⟨b + 1, 2, none⟩ = some (.int .i64 s) ∧ Below X.heap.size X Z)
      (first | (refine ⟨d0, d1, d2, Below.drew (Below.refl _ _)⟩) | (go_split_ands; refine ⟨?_, ?_, ?_, ?_⟩ <;> first | exact kept (by assumption) hz hb2 (by assumption) | exact on (by assumption) hz))
      ((go_at_call 57; refine (K2.out _ (by assumption) _ (htX.out.later (by assumption : _ ∧ _ ∧ _ ∧ Below X.heap.size X _).2.2.2)).mono ?_; rintro e Z ⟨rfl, hz⟩))
    have hH := ‹Z.cell? ⟨b + 1, 0, none⟩ = _ ∧ _›
    have hB3 := hB2.trans (hH.2.2.2.mono hB2.size)
    clear hz
    go_wp2_with fail
    go_ret2
    refine ⟨by rw [HT.out]; rfl, hB3⟩
end Go.Proofs.YtafaacliphdndaaGreatDoor
