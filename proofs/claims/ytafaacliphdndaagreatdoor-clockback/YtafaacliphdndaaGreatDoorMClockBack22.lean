/- package clock: Since. -/
import Derived.Test.YtafaacliphdndaaGreatDoorMClockBack21
import Derived.Deep.RegionHeld3
namespace Go.Proofs.YtafaacliphdndaaGreatDoor
open Go.RowKit Go.Shelf
set_option linter.unusedVariables false
set_option linter.unusedSimpArgs false

theorem two_boxes (V W : World) (T U : TypeId) (v0 v1 v2 v3 : Value) (c : Array Value) (hb : Below ((V.alloc (.cells #[v0, v1, v2, v3] T)).alloc (.cells c U)).heap.size ((V.alloc (.cells #[v0, v1, v2, v3] T)).alloc (.cells c U)) W) :
    (W.cell? ⟨V.heap.size, 0, none⟩ = some v0 ∧ W.cell? ⟨V.heap.size, 1, none⟩ = some v1 ∧ W.cell? ⟨V.heap.size, 2, none⟩ = some v2 ∧ W.cell? ⟨V.heap.size, 3, none⟩ = some v3) ∧ V.heap.size + 1 < W.heap.size := by
  refine ⟨⟨?_, ?_, ?_, ?_⟩, by have := hb.size; simp at this; omega⟩
  · rw [hb.cell (p := ⟨V.heap.size, 0, none⟩) (by simp; omega)]; simp [go_sem]
  · rw [hb.cell (p := ⟨V.heap.size, 1, none⟩) (by simp; omega)]; simp [go_sem]
  · rw [hb.cell (p := ⟨V.heap.size, 2, none⟩) (by simp; omega)]; simp [go_sem]
  · rw [hb.cell (p := ⟨V.heap.size, 3, none⟩) (by simp; omega)]; simp [go_sem]
set_option maxRecDepth 100000 in
set_option maxHeartbeats 8000000 in
theorem since_steps (a b y m d y' m' d' M v : Int) (w : World) (a1 : -345600000000 ≤ a) (a2 : a ≤ 345600086399) (b1 : -345600000000 ≤ b) (b2 : b ≤ 345600086399) (hab : a ≤ b)
    (yb : -20000 ≤ y ∧ y ≤ 20000) (mb : 1 ≤ m ∧ m ≤ 12) (yb' : -20000 ≤ y' ∧ y' ≤ 20000) (mb' : 1 ≤ m' ∧ m' ≤ 12)
    (hM : M = 12 * y' + m' - 1 - (12 * y + m - 1)) (ca cb : Int × Int × Int)
    (ka : ∀ W, Calls Tryz.prog 54 #[.int .i64 a] W fun e w' => e = .returned (.tuple #[.agg #[.int .i64 1, .int .i64 y, .int .i64 m, .int .i64 d], .agg #[.int .i64 ca.1, .int .i64 ca.2.1, .int .i64 ca.2.2], .nilIface]) ∧ Below W.heap.size W w')
    (kb : ∀ W, Calls Tryz.prog 54 #[.int .i64 b] W fun e w' => e = .returned (.tuple #[.agg #[.int .i64 1, .int .i64 y', .int .i64 m', .int .i64 d'], .agg #[.int .i64 cb.1, .int .i64 cb.2.1, .int .i64 cb.2.2], .nilIface]) ∧ Below W.heap.size W w') (F : Int)
    (v1 : -345600000000 ≤ v) (v2 : v ≤ b) (hF0 : 0 ≤ F) (hF1 : F ≤ 1000000)
    (kd : (F = M ∧ ∀ W, Calls Tryz.prog 20 #[.int .i64 a, .agg #[.int .i64 0, .int .i64 M, .int .i64 0, .int .i64 0, .int .i64 0]] W fun e w' => e = .returned (.tuple #[.int .i64 v, .nilIface]) ∧ Below W.heap.size W w') ∨
      (F = M - 1 ∧ (∀ W, Calls Tryz.prog 20 #[.int .i64 a, .agg #[.int .i64 0, .int .i64 (M - 1), .int .i64 0, .int .i64 0, .int .i64 0]] W fun e w' => e = .returned (.tuple #[.int .i64 v, .nilIface]) ∧ Below W.heap.size W w') ∧
        ((∀ W, Calls Tryz.prog 20 #[.int .i64 a, .agg #[.int .i64 0, .int .i64 M, .int .i64 0, .int .i64 0, .int .i64 0]] W fun e w' => e = .returned (.tuple #[.int .i64 0, .iface 25 (.int .i64 4)]) ∧ Below W.heap.size W w') ∨
          ∃ x, b < x ∧ x ≤ 345600086399 ∧ (∀ W, Calls Tryz.prog 20 #[.int .i64 a, .agg #[.int .i64 0, .int .i64 M, .int .i64 0, .int .i64 0, .int .i64 0]] W fun e w' => e = .returned (.tuple #[.int .i64 x, .nilIface]) ∧ Below W.heap.size W w')))) :
    Calls Tryz.prog 32 #[.int .i64 a, .int .i64 b] w fun e w' => e = .returned (.tuple #[.agg #[.int .i64 (F / 12), .int .i64 (F % 12), .int .i64 0, .int .i64 ((b - v) / 86400), .int .i64 ((b - v) % 86400)], .nilIface]) ∧ Below w.heap.size w w' := by
  obtain ⟨ca0, ca1, ca2⟩ := ca
  obtain ⟨cb0, cb1, cb2⟩ := cb
  have KA := hide ka
  have KB := hide kb
  have KD := hide kd
  have HM := hide hM
  clear ka kb kd hM
  go_enter Tryz.func32, Tryz.ntmps32
  go_wp2_with fail
  refine (KA.out _).mono ?_
  rintro e W1 ⟨rfl, hb1⟩
  have z1 : w.heap.size < W1.heap.size := by have := hb1.size; simp at this; omega
  go_wp2_with fail
  refine (KB.out _).mono ?_
  rintro e W2 ⟨rfl, hb2⟩
  obtain ⟨⟨e0, e1, e2, e3⟩, z2⟩ := two_boxes W1 W2 _ _ _ _ _ _ _ hb2
  have hB2 : Below (w.alloc (.cells #[.int .i64 0, .int .i64 0, .int .i64 0, .int .i64 0, .int .i64 0] 24)).heap.size (w.alloc (.cells #[.int .i64 0, .int .i64 0, .int .i64 0, .int .i64 0, .int .i64 0] 24)) W2 := ((hb1.alloc hb1.size _).alloc (by have := hb1.size; simp at this ⊢; omega) _).trans (hb2.mono (by simp; omega))
  clear hb1 hb2 KA KB
  go_wp2_with fail
  have z3 : W1.heap.size < W2.heap.size := by omega
  have hB3 := (hB2.alloc hB2.size (.cells #[.int .i64 1, .int .i64 y', .int .i64 m', .int .i64 d'] 55)).alloc (by have := hB2.size; simp at this ⊢; omega) (.cells #[.int .i64 cb0, .int .i64 cb1, .int .i64 cb2] 68)
  go_region_held3 (fun X => X.cell? ⟨W1.heap.size, 0, none⟩ = some (.int .i64 1) ∧ X.cell? ⟨W1.heap.size, 1, none⟩ = some (.int .i64 y) ∧ X.cell? ⟨W1.heap.size, 2, none⟩ = some (.int .i64 m) ∧ X.cell? ⟨W1.heap.size, 3, none⟩ = some (.int .i64 d) ∧
      X.cell? ⟨W2.heap.size, 0, none⟩ = some (.int .i64 1) ∧ X.cell? ⟨W2.heap.size, 1, none⟩ = some (.int .i64 y') ∧ X.cell? ⟨W2.heap.size, 2, none⟩ = some (.int .i64 m') ∧ X.cell? ⟨W2.heap.size, 3, none⟩ = some (.int .i64 d') ∧
      W1.heap.size < X.heap.size ∧ W2.heap.size < X.heap.size ∧ Below (w.alloc (.cells #[.int .i64 0, .int .i64 0, .int .i64 0, .int .i64 0, .int .i64 0] 24)).heap.size (w.alloc (.cells #[.int .i64 0, .int .i64 0, .int .i64 0, .int .i64 0, .int .i64 0] 24)) X)
    (first | (refine ⟨by simp [go_sem, e0, z3], by simp [go_sem, e1, z3], by simp [go_sem, e2, z3], by simp [go_sem, e3, z3], by simp [go_sem], by simp [go_sem], by simp [go_sem], by simp [go_sem], by simp; omega, by simp; omega, Below.drew hB3⟩) | (go_split_ands; refine ⟨?_, ?_, ?_, ?_, ?_, ?_, ?_, ?_, ?_, ?_, ?_⟩ <;> first | (refine (hx.cell ?_).trans ?_ <;> assumption) | exact Nat.lt_of_lt_of_le (by assumption) hx.size | exact (by assumption : Below _ _ _).trans (hx.mono (by assumption : Below _ _ _).size)))
    ((go_at_call 55; refine (monthOf_c _ _ _ _ _ (by omega) (by omega) (by omega) (by omega)).mono ?_; rintro e X ⟨rfl, hx⟩))
  obtain ⟨_, _, _, _, _, _, _, _, _, _, hBX⟩ := ‹X.cell? ⟨W1.heap.size, 0, none⟩ = some (.int .i64 1) ∧ _›
  have hM1 : -600000 ≤ M ∧ M ≤ 600000 := by have := HM.out; omega
  rw [← HM.out]
  rcases KD.out with ⟨rfl, k1⟩ | ⟨rfl, k2, k1 | ⟨x, x1, x2, k1⟩⟩
  · have K1 := hide k1
    clear KD k1
    go_wp2_with fail
    refine (K1.out _).mono ?_
    rintro e Y ⟨rfl, hy⟩
    have hBY := hBX.trans (hy.mono hBX.size)
    clear hy hBX K1
    · skip
      obtain ⟨⟨p0, p1, p2, p3, p4⟩, fz, zz⟩ := box5 w Y _ _ _ _ _ _ hBY
      have hBw : Below w.heap.size w Y := ((Below.refl _ w).alloc (Nat.le_refl _) _).trans (hBY.mono (by simp))
      clear hBY HM
      have r0 : 0 ≤ b - v := by omega
      have r1 : b - v ≤ 700000000000 := by omega
      go_wp2
      refine bodyPost_ret (v := .tuple #[.agg #[.int .i64 (F / 12), .int .i64 (F % 12), .int .i64 0, .int .i64 ((b - v) / 86400), .int .i64 ((b - v) % 86400)], .nilIface]) (by simp [results, Tryz.results32, go_sem, p0, p1, p2, p3, p4]) rfl ⟨rfl, ?_⟩
      exact ((((hBw.setCell (Nat.le_refl _) _).setCell (Nat.le_refl _) _).setCell (Nat.le_refl _) _).setCell (Nat.le_refl _) _).setCell (Nat.le_refl _) _
  · have K1 := hide k1
    have K2 := hide k2
    clear KD k1 k2
    go_wp2_with fail
    refine (K1.out _).mono ?_
    rintro e Y ⟨rfl, hy⟩
    have hB4 := hBX.trans (hy.mono hBX.size)
    clear hy hBX K1
    go_wp2_with fail
    refine (K2.out _).mono ?_
    rintro e Z ⟨rfl, hz⟩
    have hBY := hB4.trans (hz.mono hB4.size)
    clear hz hB4 K2
    · skip
      obtain ⟨⟨p0, p1, p2, p3, p4⟩, fz, zz⟩ := box5 w Z _ _ _ _ _ _ hBY
      have hBw : Below w.heap.size w Z := ((Below.refl _ w).alloc (Nat.le_refl _) _).trans (hBY.mono (by simp))
      clear hBY HM
      have r0 : 0 ≤ b - v := by omega
      have r1 : b - v ≤ 700000000000 := by omega
      go_wp2
      refine bodyPost_ret (v := .tuple #[.agg #[.int .i64 ((M - 1) / 12), .int .i64 ((M - 1) % 12), .int .i64 0, .int .i64 ((b - v) / 86400), .int .i64 ((b - v) % 86400)], .nilIface]) (by simp [results, Tryz.results32, go_sem, p0, p1, p2, p3, p4]) rfl ⟨rfl, ?_⟩
      exact ((((hBw.setCell (Nat.le_refl _) _).setCell (Nat.le_refl _) _).setCell (Nat.le_refl _) _).setCell (Nat.le_refl _) _).setCell (Nat.le_refl _) _
  · have K1 := hide k1
    have K2 := hide k2
    clear KD k1 k2
    go_wp2_with fail
    refine (K1.out _).mono ?_
    rintro e Y ⟨rfl, hy⟩
    have hB4 := hBX.trans (hy.mono hBX.size)
    clear hy hBX K1
    go_wp2_with fail
    refine (K2.out _).mono ?_
    rintro e Z ⟨rfl, hz⟩
    have hBY := hB4.trans (hz.mono hB4.size)
    clear hz hB4 K2
    · skip
      obtain ⟨⟨p0, p1, p2, p3, p4⟩, fz, zz⟩ := box5 w Z _ _ _ _ _ _ hBY
      have hBw : Below w.heap.size w Z := ((Below.refl _ w).alloc (Nat.le_refl _) _).trans (hBY.mono (by simp))
      clear hBY HM
      have r0 : 0 ≤ b - v := by omega
      have r1 : b - v ≤ 700000000000 := by omega
      go_wp2
      refine bodyPost_ret (v := .tuple #[.agg #[.int .i64 ((M - 1) / 12), .int .i64 ((M - 1) % 12), .int .i64 0, .int .i64 ((b - v) / 86400), .int .i64 ((b - v) % 86400)], .nilIface]) (by simp [results, Tryz.results32, go_sem, p0, p1, p2, p3, p4]) rfl ⟨rfl, ?_⟩
      exact ((((hBw.setCell (Nat.le_refl _) _).setCell (Nat.le_refl _) _).setCell (Nat.le_refl _) _).setCell (Nat.le_refl _) _).setCell (Nat.le_refl _) _
end Go.Proofs.YtafaacliphdndaaGreatDoor
