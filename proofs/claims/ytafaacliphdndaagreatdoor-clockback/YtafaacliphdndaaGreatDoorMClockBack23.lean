/- The reference's Text. -/
import Derived.Test.YtafaacliphdndaaGreatDoorMClockBack18
import Derived.Deep.RegionHeld3
namespace Go.Proofs.YtafaacliphdndaaGreatDoor
open Go.RowKit Go.Shelf
set_option linter.unusedVariables false
set_option linter.unusedSimpArgs false

theorem two43 (V W : World) (T U : TypeId) (v0 v1 v2 v3 c0 c1 c2 : Value) (hb : Below ((V.alloc (.cells #[v0, v1, v2, v3] T)).alloc (.cells #[c0, c1, c2] U)).heap.size ((V.alloc (.cells #[v0, v1, v2, v3] T)).alloc (.cells #[c0, c1, c2] U)) W) :
    (W.cell? ⟨V.heap.size, 0, none⟩ = some v0 ∧ W.cell? ⟨V.heap.size, 1, none⟩ = some v1 ∧ W.cell? ⟨V.heap.size, 2, none⟩ = some v2 ∧ W.cell? ⟨V.heap.size, 3, none⟩ = some v3) ∧
    (W.cell? ⟨V.heap.size + 1, 0, none⟩ = some c0 ∧ W.cell? ⟨V.heap.size + 1, 1, none⟩ = some c1 ∧ W.cell? ⟨V.heap.size + 1, 2, none⟩ = some c2) ∧ V.heap.size + 1 < W.heap.size := by
  refine ⟨⟨?_, ?_, ?_, ?_⟩, ⟨?_, ?_, ?_⟩, by have := hb.size; simp at this; omega⟩
  · rw [hb.cell (p := ⟨V.heap.size, 0, none⟩) (by simp; omega)]; simp [go_sem]
  · rw [hb.cell (p := ⟨V.heap.size, 1, none⟩) (by simp; omega)]; simp [go_sem]
  · rw [hb.cell (p := ⟨V.heap.size, 2, none⟩) (by simp; omega)]; simp [go_sem]
  · rw [hb.cell (p := ⟨V.heap.size, 3, none⟩) (by simp; omega)]; simp [go_sem]
  · rw [hb.cell (p := ⟨V.heap.size + 1, 0, none⟩) (by simp)]; simp [go_sem]
  · rw [hb.cell (p := ⟨V.heap.size + 1, 1, none⟩) (by simp)]; simp [go_sem]
  · rw [hb.cell (p := ⟨V.heap.size + 1, 2, none⟩) (by simp)]; simp [go_sem]

theorem kept {V X X' : World} {b j : Nat} {v : Value} (hv : Below V.heap.size V X) (hx : Below X.heap.size X X') (hb : b < V.heap.size) (h : X.cell? ⟨b, j, none⟩ = some v) : X'.cell? ⟨b, j, none⟩ = some v :=
  (hx.cell (p := ⟨b, j, none⟩) (Nat.lt_of_lt_of_le hb hv.size)).trans h
theorem on {V X X' : World} (hv : Below V.heap.size V X) (hx : Below X.heap.size X X') : Below V.heap.size V X' := hv.trans (hx.mono hv.size)
set_option maxRecDepth 100000 in
set_option maxHeartbeats 8000000 in
theorem text_steps (t y : Int) (M D h m s : Nat) (w : World) (ht : Tab w) (y1 : -20000 ≤ y) (y2 : y ≤ 20000) (hM : M < 100) (hD : D < 100) (hh : h < 100) (hm : m < 100) (hs : s < 100)
    (kc : ∀ W, Calls Tryz.prog 54 #[.int .i64 t] W fun e w' => e = .returned (.tuple #[.agg #[.int .i64 1, .int .i64 y, .int .i64 M, .int .i64 D], .agg #[.int .i64 h, .int .i64 m, .int .i64 s], .nilIface]) ∧ Below W.heap.size W w') :
    Calls Tryz.prog 34 #[.int .i64 t] w fun e w' => e = .returned (.tuple #[.string (Tx.txt y M D h m s), .nilIface]) ∧ Below w.heap.size w w' := by
  have KC := hide kc
  have KY := hide (fun W hW => yearText_any y W hW y1 y2)
  have K2 := hide (fun (n : Nat) (hn : n < 100) W hW => digits_any n 2 W hW (by omega) (by omega))
  have z0 := Tx.ytx_sizes y y1 y2
  have z1 := Tx.pad2 M hM
  have z2 := Tx.pad2 D hD
  have z3 := Tx.pad2 h hh
  have z4 := Tx.pad2 m hm
  have z5 := Tx.pad2 s hs
  have HT := hide (show Tx.txt y M D h m s = Tx.ytx y ++ ⟨#[45]⟩ ++ Tx.pad M 2 ++ ⟨#[45]⟩ ++ Tx.pad D 2 ++ ⟨#[84]⟩ ++ Tx.pad h 2 ++ ⟨#[58]⟩ ++ Tx.pad m 2 ++ ⟨#[58]⟩ ++ Tx.pad s 2 from rfl)
  have q1 : (⟨#[45]⟩ : ByteArray).size = 1 := rfl
  have q2 : (⟨#[84]⟩ : ByteArray).size = 1 := rfl
  have q3 : (⟨#[58]⟩ : ByteArray).size = 1 := rfl
  generalize Tx.ytx y = Y at *
  generalize Tx.txt y M D h m s = T at *
  clear kc
  rcases z0 with z0 | z0
  all_goals
    go_enter Tryz.func34, Tryz.ntmps34
    go_wp2_with fail
    refine (KC.out _).mono ?_
    rintro e W1 ⟨rfl, b1⟩
    go_wp2_with fail
    obtain ⟨⟨a0, a1, a2, a3⟩, ⟨c0, c1, c2⟩, hsz⟩ := two43 W1 _ 55 68 (.int .i64 1) (.int .i64 y) (.int .i64 M) (.int .i64 D) (.int .i64 h) (.int .i64 m) (.int .i64 s) (Below.refl _ _)
    have hB : Below w.heap.size w ((W1.alloc (.cells #[.int .i64 1, .int .i64 y, .int .i64 M, .int .i64 D] 55)).alloc (.cells #[.int .i64 h, .int .i64 m, .int .i64 s] 68)) := (b1.alloc b1.size _).alloc (by have := b1.size; simp; omega) _
    generalize hV : ((W1.alloc (.cells #[.int .i64 1, .int .i64 y, .int .i64 M, .int .i64 D] 55)).alloc (.cells #[.int .i64 h, .int .i64 m, .int .i64 s] 68)) = V at *
    generalize W1.heap.size = b at *
    clear hV b1
    have htV := hide (ht.later hB)
    have hb1 : b < V.heap.size := by omega
    go_region_held3 (fun X => X.cell? ⟨b, 1, none⟩ = some (.int .i64 y) ∧ X.cell? ⟨b, 2, none⟩ = some (.int .i64 M) ∧ X.cell? ⟨b, 3, none⟩ = some (.int .i64 D) ∧ Below V.heap.size V X)
      (first | (refine ⟨a1, a2, a3, Below.drew (Below.refl _ _)⟩) | (go_split_ands; refine ⟨?_, ?_, ?_, ?_⟩ <;> first | exact kept (by assumption) hx hb1 (by assumption) | exact on (by assumption) hx))
      (first
        | (go_at_call 56; refine (KY.out _ (htV.out.later (by assumption : _ ∧ _ ∧ _ ∧ Below V.heap.size V _).2.2.2)).mono ?_; rintro e X ⟨rfl, hx⟩)
        | (go_at_call 57; refine (K2.out _ (by assumption) _ (htV.out.later (by assumption : _ ∧ _ ∧ _ ∧ Below V.heap.size V _).2.2.2)).mono ?_; rintro e X ⟨rfl, hx⟩))
    have hH := ‹X.cell? ⟨b, 1, none⟩ = _ ∧ _›
    have hBX : Below V.heap.size V X := hH.2.2.2
    clear hH
    have d0 := (hBX.cell (p := ⟨b + 1, 0, none⟩) hsz).trans c0
    have d1 := (hBX.cell (p := ⟨b + 1, 1, none⟩) hsz).trans c1
    have d2 := (hBX.cell (p := ⟨b + 1, 2, none⟩) hsz).trans c2
    have hB2 := hB.trans (hBX.mono hB.size)
    have htX := hide (htV.out.later hBX)
    have hb2 : b + 1 < X.heap.size := Nat.lt_of_lt_of_le hsz hBX.size
    clear hBX hx hB htV c0 c1 c2 a0 a1 a2 a3
    go_wp2_with fail
    go_region_held3 (fun Z => Z.cell? ⟨b + 1, 0, none⟩ = some (.int .i64 h) ∧ Z.cell? ⟨b + 1, 1, none⟩ = some (.int .i64 m) ∧ Z.cell? ⟨b + 1, 2, none⟩ = some (.int .i64 s) ∧ Below X.heap.size X Z)
      (first | (refine ⟨d0, d1, d2, Below.drew (Below.refl _ _)⟩) | (go_split_ands; refine ⟨?_, ?_, ?_, ?_⟩ <;> first | exact kept (by assumption) hz hb2 (by assumption) | exact on (by assumption) hz))
      ((go_at_call 57; refine (K2.out _ (by assumption) _ (htX.out.later (by assumption : _ ∧ _ ∧ _ ∧ Below X.heap.size X _).2.2.2)).mono ?_; rintro e Z ⟨rfl, hz⟩))
    have hH := ‹Z.cell? ⟨b + 1, 0, none⟩ = _ ∧ _›
    have hB3 := hB2.trans (hH.2.2.2.mono hB2.size)
    clear hz
    go_wp2_with fail
    go_ret2
    refine ⟨by rw [HT.out]; rfl, hB3⟩
end Go.Proofs.YtafaacliphdndaaGreatDoor
namespace Go.Proofs.YtafaacliphdndaaGreatDoor
open Go.RowKit Go.Shelf
set_option linter.unusedVariables false
set_option linter.unusedSimpArgs false

theorem rpad_eq (z : Int) (n w : Nat) (W : World) (ht : Tab W) (hz : z = n) (hn : n < 1000000) (hw : w ≤ 6) :
    Calls Tryz.prog 35 #[.int .i64 z, .int .i64 w] W fun e W' => e = .returned (.string (Tx.pad n w)) ∧ Below W.heap.size W W' := by
  subst hz; exact rpad_nat n w W ht hn hw
/-- the six cells that a text is made of -/
def Six (b : Nat) (v1 v2 v3 u0 u1 u2 : Value) (X : World) : Prop :=
  X.cell? ⟨b, 1, none⟩ = some v1 ∧ X.cell? ⟨b, 2, none⟩ = some v2 ∧ X.cell? ⟨b, 3, none⟩ = some v3 ∧ X.cell? ⟨b + 1, 0, none⟩ = some u0 ∧ X.cell? ⟨b + 1, 1, none⟩ = some u1 ∧ X.cell? ⟨b + 1, 2, none⟩ = some u2 ∧ b + 1 < X.heap.size
theorem Six.later {b : Nat} {v1 v2 v3 u0 u1 u2 : Value} {V X : World} (h : Six b v1 v2 v3 u0 u1 u2 V) (hx : Below V.heap.size V X) : Six b v1 v2 v3 u0 u1 u2 X := by
  obtain ⟨a1, a2, a3, e0, e1, e2, hb⟩ := h
  have g : ∀ k j, k ≤ b + 1 → X.cell? ⟨k, j, none⟩ = V.cell? ⟨k, j, none⟩ := fun k j hk => hx.cell (p := ⟨k, j, none⟩) (show k < V.heap.size by omega)
  exact ⟨(g _ _ (by omega)).trans a1, (g _ _ (by omega)).trans a2, (g _ _ (by omega)).trans a3, (g _ _ (by omega)).trans e0, (g _ _ (by omega)).trans e1, (g _ _ (by omega)).trans e2, Nat.lt_of_lt_of_le hb hx.size⟩
set_option maxRecDepth 100000 in
set_option maxHeartbeats 8000000 in
theorem rtext_steps (t y : Int) (M D h m s : Nat) (w : World) (ht : Tab w) (y1 : -20000 ≤ y) (y2 : y ≤ 20000) (hM : M < 100) (hD : D < 100) (hh : h < 100) (hm : m < 100) (hs : s < 100)
    (kc : ∀ W, Calls Tryz.prog 33 #[.int .i64 t] W fun e w' => e = .returned (.tuple #[.agg #[.int .i64 1, .int .i64 y, .int .i64 M, .int .i64 D], .agg #[.int .i64 h, .int .i64 m, .int .i64 s], .int .i64 0]) ∧ Below W.heap.size W w') :
    Calls Tryz.prog 12 #[.int .i64 t] w fun e w' => e = .returned (.tuple #[.string (Tx.txt y M D h m s), .int .i64 0]) ∧ Below w.heap.size w w' := by
  have KC := hide kc
  have KP := hide (fun W hW => rpad_some y 4 W hW y1 y2 (by omega))
  have K2 := hide (fun (n : Nat) (hn : n < 100) W hW => rpad_nat n 2 W hW (by omega) (by omega))
  have z1 := Tx.pad2 M hM
  have z2 := Tx.pad2 D hD
  have z3 := Tx.pad2 h hh
  have z4 := Tx.pad2 m hm
  have z5 := Tx.pad2 s hs
  have HT := hide (show Tx.txt y M D h m s = Tx.ytx y ++ ⟨#[45]⟩ ++ Tx.pad M 2 ++ ⟨#[45]⟩ ++ Tx.pad D 2 ++ ⟨#[84]⟩ ++ Tx.pad h 2 ++ ⟨#[58]⟩ ++ Tx.pad m 2 ++ ⟨#[58]⟩ ++ Tx.pad s 2 from rfl)
  have q1 : (⟨#[45]⟩ : ByteArray).size = 1 := rfl
  have q2 : (⟨#[84]⟩ : ByteArray).size = 1 := rfl
  have q3 : (⟨#[58]⟩ : ByteArray).size = 1 := rfl
  generalize Tx.txt y M D h m s = T at *
  clear kc
  by_cases c1 : y < 0
  · obtain ⟨n, hn⟩ : ∃ n : Nat, -y = (n : Int) := ⟨(-y).toNat, by omega⟩
    have K5 := hide (fun W hW => rpad_eq (-y) n 5 W hW hn (by omega) (by omega))
    have hr : Tx.ytx y = ⟨#[45]⟩ ++ Tx.pad n 5 := by unfold Tx.ytx; rw [if_pos c1, hn]; rfl
    rw [hr] at HT
    have z0 : (Tx.pad n 5).size = 5 := Tx.pad_exact _ _ (by omega) (by omega)
    have c2 : ¬ 9999 < y := by omega
    clear hr hn
    go_enter Tryz.func12, Tryz.ntmps12
    go_wp2_with fail
    refine (KC.out _).mono ?_
    rintro e W1 ⟨rfl, b1⟩
    go_wp2_with fail
    obtain ⟨⟨a0, a1, a2, a3⟩, ⟨e0, e1, e2⟩, hsz⟩ := two43 W1 _ 55 68 (.int .i64 1) (.int .i64 y) (.int .i64 M) (.int .i64 D) (.int .i64 h) (.int .i64 m) (.int .i64 s) (Below.refl _ _)
    have hB : Below w.heap.size w ((W1.alloc (.cells #[.int .i64 1, .int .i64 y, .int .i64 M, .int .i64 D] 55)).alloc (.cells #[.int .i64 h, .int .i64 m, .int .i64 s] 68)) := (b1.alloc b1.size _).alloc (by have := b1.size; simp; omega) _
    generalize hV : ((W1.alloc (.cells #[.int .i64 1, .int .i64 y, .int .i64 M, .int .i64 D] 55)).alloc (.cells #[.int .i64 h, .int .i64 m, .int .i64 s] 68)) = V at *
    generalize W1.heap.size = b at *
    clear hV b1
    have htV := hide (ht.later hB)
    have hS : Six b (.int .i64 y) (.int .i64 M) (.int .i64 D) (.int .i64 h) (.int .i64 m) (.int .i64 s) V := ⟨a1, a2, a3, e0, e1, e2, hsz⟩
    clear a0 a1 a2 a3 e0 e1 e2
    refine (KP.out _ htV.out).mono ?_
    rintro e X ⟨s0, rfl, hx⟩
    have hSX := hS.later hx
    obtain ⟨a1, a2, a3, e0, e1, e2, hsX⟩ := hSX
    have htX := hide (htV.out.later hx)
    have hBX := hB.trans (hx.mono hB.size)
    clear hx htV hB hS KP
    go_wp2_with fail
    refine (K5.out _ htX.out).mono ?_
    rintro e Y ⟨rfl, hx⟩
    have hSY := Six.later (V := X) (X := Y) ⟨a1, a2, a3, e0, e1, e2, hsX⟩ hx
    clear a1 a2 a3 e0 e1 e2 hsX
    obtain ⟨a1, a2, a3, e0, e1, e2, hsY⟩ := hSY
    have htY := hide (htX.out.later hx)
    have hBY := hBX.trans (hx.mono hBX.size)
    clear hx htX hBX K5
    go_wp2_with fail
    have hb1 : b < Y.heap.size := by omega
    go_region_held3 (fun Z => Z.cell? ⟨b, 2, none⟩ = some (.int .i64 M) ∧ Z.cell? ⟨b, 3, none⟩ = some (.int .i64 D) ∧ Z.cell? ⟨b + 1, 0, none⟩ = some (.int .i64 h) ∧ Z.cell? ⟨b + 1, 1, none⟩ = some (.int .i64 m) ∧ Z.cell? ⟨b + 1, 2, none⟩ = some (.int .i64 s) ∧ Below Y.heap.size Y Z)
      (first | (refine ⟨a2, a3, e0, e1, e2, Below.drew (Below.refl _ _)⟩) | (go_split_ands; refine ⟨?_, ?_, ?_, ?_, ?_, ?_⟩ <;> first | exact kept (by assumption) hz hb1 (by assumption) | exact kept (by assumption) hz hsY (by assumption) | exact on (by assumption) hz))
      ((go_at_call 35; refine (K2.out _ (by assumption) _ (htY.out.later (by assumption : _ ∧ _ ∧ _ ∧ _ ∧ _ ∧ Below Y.heap.size Y _).2.2.2.2.2)).mono ?_; rintro e Z ⟨rfl, hz⟩))
    have hH := ‹Z.cell? ⟨b, 2, none⟩ = _ ∧ _›
    have hB3 := hBY.trans (hH.2.2.2.2.2.mono hBY.size)
    clear hz
    go_wp2_with fail
    go_ret2
    refine ⟨by rw [HT.out]; rfl, hB3⟩
  · by_cases c2 : 9999 < y
    · obtain ⟨n, hn⟩ : ∃ n : Nat, y = (n : Int) := ⟨y.toNat, by omega⟩
      have K5 := hide (fun W hW => rpad_eq y n 5 W hW hn (by omega) (by omega))
      have hr : Tx.ytx y = ⟨#[43]⟩ ++ Tx.pad n 5 := by unfold Tx.ytx; rw [if_neg c1, if_pos c2, hn]; rfl
      rw [hr] at HT
      have z0 : (Tx.pad n 5).size = 5 := Tx.pad_exact _ _ (by omega) (by omega)
      have q4 : (⟨#[43]⟩ : ByteArray).size = 1 := rfl
      clear hr hn
      go_enter Tryz.func12, Tryz.ntmps12
      go_wp2_with fail
      refine (KC.out _).mono ?_
      rintro e W1 ⟨rfl, b1⟩
      go_wp2_with fail
      obtain ⟨⟨a0, a1, a2, a3⟩, ⟨e0, e1, e2⟩, hsz⟩ := two43 W1 _ 55 68 (.int .i64 1) (.int .i64 y) (.int .i64 M) (.int .i64 D) (.int .i64 h) (.int .i64 m) (.int .i64 s) (Below.refl _ _)
      have hB : Below w.heap.size w ((W1.alloc (.cells #[.int .i64 1, .int .i64 y, .int .i64 M, .int .i64 D] 55)).alloc (.cells #[.int .i64 h, .int .i64 m, .int .i64 s] 68)) := (b1.alloc b1.size _).alloc (by have := b1.size; simp; omega) _
      generalize hV : ((W1.alloc (.cells #[.int .i64 1, .int .i64 y, .int .i64 M, .int .i64 D] 55)).alloc (.cells #[.int .i64 h, .int .i64 m, .int .i64 s] 68)) = V at *
      generalize W1.heap.size = b at *
      clear hV b1
      have htV := hide (ht.later hB)
      have hS : Six b (.int .i64 y) (.int .i64 M) (.int .i64 D) (.int .i64 h) (.int .i64 m) (.int .i64 s) V := ⟨a1, a2, a3, e0, e1, e2, hsz⟩
      clear a0 a1 a2 a3 e0 e1 e2
      refine (KP.out _ htV.out).mono ?_
      rintro e X ⟨s0, rfl, hx⟩
      have hSX := hS.later hx
      obtain ⟨a1, a2, a3, e0, e1, e2, hsX⟩ := hSX
      have htX := hide (htV.out.later hx)
      have hBX := hB.trans (hx.mono hB.size)
      clear hx htV hB hS KP
      go_wp2_with fail
      refine (K5.out _ htX.out).mono ?_
      rintro e Y ⟨rfl, hx⟩
      have hSY := Six.later (V := X) (X := Y) ⟨a1, a2, a3, e0, e1, e2, hsX⟩ hx
      clear a1 a2 a3 e0 e1 e2 hsX
      obtain ⟨a1, a2, a3, e0, e1, e2, hsY⟩ := hSY
      have htY := hide (htX.out.later hx)
      have hBY := hBX.trans (hx.mono hBX.size)
      clear hx htX hBX K5
      go_wp2_with fail
      have hb1 : b < Y.heap.size := by omega
      go_region_held3 (fun Z => Z.cell? ⟨b, 2, none⟩ = some (.int .i64 M) ∧ Z.cell? ⟨b, 3, none⟩ = some (.int .i64 D) ∧ Z.cell? ⟨b + 1, 0, none⟩ = some (.int .i64 h) ∧ Z.cell? ⟨b + 1, 1, none⟩ = some (.int .i64 m) ∧ Z.cell? ⟨b + 1, 2, none⟩ = some (.int .i64 s) ∧ Below Y.heap.size Y Z)
        (first | (refine ⟨a2, a3, e0, e1, e2, Below.drew (Below.refl _ _)⟩) | (go_split_ands; refine ⟨?_, ?_, ?_, ?_, ?_, ?_⟩ <;> first | exact kept (by assumption) hz hb1 (by assumption) | exact kept (by assumption) hz hsY (by assumption) | exact on (by assumption) hz))
        ((go_at_call 35; refine (K2.out _ (by assumption) _ (htY.out.later (by assumption : _ ∧ _ ∧ _ ∧ _ ∧ _ ∧ Below Y.heap.size Y _).2.2.2.2.2)).mono ?_; rintro e Z ⟨rfl, hz⟩))
      have hH := ‹Z.cell? ⟨b, 2, none⟩ = _ ∧ _›
      have hB3 := hBY.trans (hH.2.2.2.2.2.mono hBY.size)
      clear hz
      go_wp2_with fail
      go_ret2
      refine ⟨by rw [HT.out]; rfl, hB3⟩
    · obtain ⟨n, hn⟩ : ∃ n : Nat, y = (n : Int) := ⟨y.toNat, by omega⟩
      have KP := hide (fun W hW => rpad_eq y n 4 W hW hn (by omega) (by omega))
      have hr : Tx.ytx y = Tx.pad n 4 := by unfold Tx.ytx; rw [if_neg c1, if_neg c2, hn]; rfl
      rw [hr] at HT
      have z0 : (Tx.pad n 4).size = 4 := Tx.pad_exact _ _ (by omega) (by omega)
      clear hr hn
      go_enter Tryz.func12, Tryz.ntmps12
      go_wp2_with fail
      refine (KC.out _).mono ?_
      rintro e W1 ⟨rfl, b1⟩
      go_wp2_with fail
      obtain ⟨⟨a0, a1, a2, a3⟩, ⟨e0, e1, e2⟩, hsz⟩ := two43 W1 _ 55 68 (.int .i64 1) (.int .i64 y) (.int .i64 M) (.int .i64 D) (.int .i64 h) (.int .i64 m) (.int .i64 s) (Below.refl _ _)
      have hB : Below w.heap.size w ((W1.alloc (.cells #[.int .i64 1, .int .i64 y, .int .i64 M, .int .i64 D] 55)).alloc (.cells #[.int .i64 h, .int .i64 m, .int .i64 s] 68)) := (b1.alloc b1.size _).alloc (by have := b1.size; simp; omega) _
      generalize hV : ((W1.alloc (.cells #[.int .i64 1, .int .i64 y, .int .i64 M, .int .i64 D] 55)).alloc (.cells #[.int .i64 h, .int .i64 m, .int .i64 s] 68)) = V at *
      generalize W1.heap.size = b at *
      clear hV b1
      have htV := hide (ht.later hB)
      have hS : Six b (.int .i64 y) (.int .i64 M) (.int .i64 D) (.int .i64 h) (.int .i64 m) (.int .i64 s) V := ⟨a1, a2, a3, e0, e1, e2, hsz⟩
      clear a0 a1 a2 a3 e0 e1 e2
      refine (KP.out _ htV.out).mono ?_
      rintro e X ⟨rfl, hx⟩
      have hSX := hS.later hx
      obtain ⟨a1, a2, a3, e0, e1, e2, hsX⟩ := hSX
      have htX := hide (htV.out.later hx)
      have hBX := hB.trans (hx.mono hB.size)
      clear hx htV hB hS KP
      go_wp2_with fail
      have hb1 : b < X.heap.size := by omega
      go_region_held3 (fun Z => Z.cell? ⟨b, 2, none⟩ = some (.int .i64 M) ∧ Z.cell? ⟨b, 3, none⟩ = some (.int .i64 D) ∧ Z.cell? ⟨b + 1, 0, none⟩ = some (.int .i64 h) ∧ Z.cell? ⟨b + 1, 1, none⟩ = some (.int .i64 m) ∧ Z.cell? ⟨b + 1, 2, none⟩ = some (.int .i64 s) ∧ Below X.heap.size X Z)
        (first | (refine ⟨a2, a3, e0, e1, e2, Below.drew (Below.refl _ _)⟩) | (go_split_ands; refine ⟨?_, ?_, ?_, ?_, ?_, ?_⟩ <;> first | exact kept (by assumption) hz hb1 (by assumption) | exact kept (by assumption) hz hsX (by assumption) | exact on (by assumption) hz))
        ((go_at_call 35; refine (K2.out _ (by assumption) _ (htX.out.later (by assumption : _ ∧ _ ∧ _ ∧ _ ∧ _ ∧ Below X.heap.size X _).2.2.2.2.2)).mono ?_; rintro e Z ⟨rfl, hz⟩))
      have hH := ‹Z.cell? ⟨b, 2, none⟩ = _ ∧ _›
      have hB3 := hBX.trans (hH.2.2.2.2.2.mono hBX.size)
      clear hz
      go_wp2_with fail
      go_ret2
      refine ⟨by rw [HT.out]; rfl, hB3⟩
end Go.Proofs.YtafaacliphdndaaGreatDoor
