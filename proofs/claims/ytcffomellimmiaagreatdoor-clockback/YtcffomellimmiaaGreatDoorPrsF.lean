/- package clock: stamp, end, Parse; package plain's ClockParse, where. -/
import Derived.Test.YtcffomellimmiaaGreatDoorPrsE
namespace Go.Proofs.YtcffomellimmiaaGreatDoor
open Go.RowKit Go.Shelf
set_option linter.unusedVariables false
set_option linter.unusedSimpArgs false

theorem box3m (b : Nat) (w W : World) (T : TypeId) (c0 c1 c2 : Value) (hm : Mv b (w.alloc (.cells #[c0, c1, c2] T)) W) (hb : b < w.heap.size) :
    W.cell? ⟨w.heap.size, 0, none⟩ = some c0 ∧ W.cell? ⟨w.heap.size, 1, none⟩ = some c1 ∧ W.cell? ⟨w.heap.size, 2, none⟩ = some c2 ∧ (∀ j, W.frozen? ⟨w.heap.size, j, none⟩ = false) ∧ w.heap.size < W.heap.size := by
  have hne : w.heap.size ≠ b := by omega
  refine ⟨?_, ?_, ?_, fun j => ?_, by have := hm.size; simp at this; omega⟩
  · rw [hm.cell (p := ⟨w.heap.size, 0, none⟩) (by simp) hne]; simp
  · rw [hm.cell (p := ⟨w.heap.size, 1, none⟩) (by simp) hne]; simp
  · rw [hm.cell (p := ⟨w.heap.size, 2, none⟩) (by simp) hne]; simp
  · rw [hm.frozen (p := ⟨w.heap.size, j, none⟩) (by simp) hne]; simp
theorem box3k {b C : Nat} {W W' : World} {c0 c1 c2 : Value} (hm : Mv b W W') (hne : C ≠ b) (h : W.cell? ⟨C, 0, none⟩ = some c0 ∧ W.cell? ⟨C, 1, none⟩ = some c1 ∧ W.cell? ⟨C, 2, none⟩ = some c2 ∧ (∀ j, W.frozen? ⟨C, j, none⟩ = false) ∧ C < W.heap.size) :
    W'.cell? ⟨C, 0, none⟩ = some c0 ∧ W'.cell? ⟨C, 1, none⟩ = some c1 ∧ W'.cell? ⟨C, 2, none⟩ = some c2 ∧ (∀ j, W'.frozen? ⟨C, j, none⟩ = false) ∧ C < W'.heap.size := by
  obtain ⟨h0, h1, h2, hf, hl⟩ := h
  exact ⟨(hm.cell (p := ⟨C, 0, none⟩) hl hne).trans h0, (hm.cell (p := ⟨C, 1, none⟩) hl hne).trans h1, (hm.cell (p := ⟨C, 2, none⟩) hl hne).trans h2, fun j => (hm.frozen (p := ⟨C, j, none⟩) hl hne).trans (hf j), Nat.lt_of_lt_of_le hl hm.size⟩
set_option maxRecDepth 100000 in
set_option maxHeartbeats 8000000 in
theorem rstamp_any (b : Nat) (s : ByteArray) (k k2 M D h m x : Nat) (y v z o : Int) (w : World) (hr : Rd b s k w) (hs : s.size ≤ 1000000000)
    (hL : Tx.Seg s k ((yL y ++ 45 :: (Tx.padL M 2 ++ 45 :: Tx.padL D 2)) ++ 84 :: cL h m x)) (y1 : -20000 ≤ y) (y2 : y ≤ 20000) (hM : M < 100) (hD : D < 100) (hh : h < 24) (hm : m < 60) (hx : x < 60)
    (v1 : -4000000 ≤ v) (v2 : v ≤ 4000000)
    (kd : ∀ W, Calls Tryz.prog 144 #[.agg #[.int .i64 1, .int .i64 y, .int .i64 M, .int .i64 D]] W fun e w' => e = .returned (.tuple #[.int .i64 v, .nilIface]) ∧ Below W.heap.size W w')
    (kz : ∀ W, Rd b s (k + ((yL y).length + 6) + 1 + 8) W → Calls Tryz.prog 71 #[.pointer (some ⟨b, 0, none⟩), .bool true] W fun e w' => e = .returned (.tuple #[.int .i64 z, .int .i64 o, .nilIface]) ∧ Rd b s k2 w' ∧ Mv b W w') :
    Calls Tryz.prog 42 #[.pointer (some ⟨b, 0, none⟩)] w fun e w' => e = .returned (.tuple #[.agg #[.int .i64 (v * 86400 + (3600 * h + 60 * m + x)), .int .i64 z, .int .i64 o], .nilIface]) ∧ Rd b s k2 w' ∧ Mv b w w' := by
  have hR := Tx.Seg.right (L := yL y ++ 45 :: (Tx.padL M 2 ++ 45 :: Tx.padL D 2)) hL
  have hlen : (yL y ++ 45 :: (Tx.padL M 2 ++ 45 :: Tx.padL D 2)).length = (yL y).length + 6 := by
    rw [List.length_append, List.length_cons, hmL_length M D hM hD]
  rw [hlen] at hR
  have hle := hR.le
  have hk1 : k + ((yL y).length + 6) ≤ 1000000000 := by omega
  have K0 := hide (fun W hW => rday_any b s k M D y v W hW hs (Tx.Seg.left (L := yL y ++ 45 :: (Tx.padL M 2 ++ 45 :: Tx.padL D 2)) hL) y1 y2 hM hD kd)
  have K1 := hide (fun W hW => skip_any b s (k + ((yL y).length + 6)) 84 true W hW hs (Nx.yes hR) hk1)
  have K2 := hide (fun W hW => rclock_any b s (k + ((yL y).length + 6) + 1) h m x W hW hs hR.tail hh hm hx)
  have K3 := hide (fun W => bmid_ok v (3600 * h + 60 * m + x) W v1 v2 (by omega) (by omega) (by omega) (by omega))
  have K4 := hide kz
  clear hL hR hle kd kz hlen hk1
  rw [show k + (yL y).length + 6 = k + ((yL y).length + 6) by omega] at K0
  generalize k + ((yL y).length + 6) = q at *
  generalize hS : (3600 * (h : Int) + 60 * m + x) = S at *
  have s1 : 0 ≤ S := by omega
  have s2 : S < 86400 := by omega
  clear hS
  have hbw := hr.lt
  have hne : w.heap.size ≠ b := by omega
  have hA : Rd b s k (w.alloc (.cells #[.int .i64 0, .int .i64 0, .int .i64 0] 24)) := hr.later ((Below.refl _ w).alloc (Nat.le_refl _) _)
  have hMA : Mv b w (w.alloc (.cells #[.int .i64 0, .int .i64 0, .int .i64 0] 24)) := Mv.of_below ((Below.refl _ w).alloc (Nat.le_refl _) _)
  go_enter Tryz.func42, Tryz.ntmps42
  go_wp2_with fail
  refine (K0.out _ hA).mono ?_
  rintro e W0 ⟨rfl, hr0, hm0⟩
  have hb0 := box3m b w W0 _ _ _ _ hm0 hbw
  have hM0 := hide (hMA.trans hm0)
  clear hm0 hMA hA
  go_wp2_with fail
  refine (K1.out _ hr0).mono ?_
  rintro e W1 ⟨rfl, hr1, hm1⟩
  have hb1 := box3k hm1 hne hb0
  have hM1 := hide (hM0.out.trans hm1)
  clear hm1 hM0 hb0 hr0
  go_wp2_with fail
  refine (K2.out _ hr1).mono ?_
  rintro e W2 ⟨rfl, hr2, hm2⟩
  have hb2 := box3k hm2 hne hb1
  have hM2 := hide (hM1.out.trans hm2)
  clear hm2 hM1 hb1 hr1
  go_wp2_with fail
  refine (K3.out _).mono ?_
  rintro e w' ⟨rfl, rfl⟩
  obtain ⟨a0, a1, a2, fz, hC⟩ := hb2
  have hM3 := hide (hM2.out.setNew w.heap.size 0 (.int .i64 (v * 86400 + S)) (Nat.le_refl _))
  have hR3 := hr2.other w.heap.size 0 (.int .i64 (v * 86400 + S)) hne
  go_wp2_with fail
  refine (K4.out _ hR3).mono ?_
  rintro e W4 ⟨rfl, hr4, hm4⟩
  have d0 : W4.cell? ⟨w.heap.size, 0, none⟩ = some (.int .i64 (v * 86400 + S)) := by rw [hm4.cell (p := ⟨w.heap.size, 0, none⟩) (by simp; omega) hne]; simp [go_sem, a0]
  have d1 : W4.cell? ⟨w.heap.size, 1, none⟩ = some (.int .i64 0) := by rw [hm4.cell (p := ⟨w.heap.size, 1, none⟩) (by simp; omega) hne]; simp [go_sem, a1]
  have d2 : W4.cell? ⟨w.heap.size, 2, none⟩ = some (.int .i64 0) := by rw [hm4.cell (p := ⟨w.heap.size, 2, none⟩) (by simp; omega) hne]; simp [go_sem, a2]
  have fz4 : ∀ j, W4.frozen? ⟨w.heap.size, j, none⟩ = false := fun j => by rw [hm4.frozen (p := ⟨w.heap.size, j, none⟩) (by simp; omega) hne]; simp [fz]
  have hM4 := hide (hM3.out.trans hm4)
  clear hm4 hM3 hR3 a0 a1 a2 fz hM2 hr2
  go_wp2_with fail
  have g2 : (((((W4.setCell ⟨w.heap.size, 1, none⟩ (.int .i64 z)).setCell ⟨w.heap.size, 2, none⟩ (.int .i64 o)).setCell ⟨w.heap.size, 0, none⟩ (.int .i64 (v * 86400 + S))).setCell ⟨w.heap.size, 1, none⟩ (.int .i64 z)).setCell ⟨w.heap.size, 2, none⟩ (.int .i64 o)).cell? ⟨w.heap.size, 2, none⟩ = some (.int .i64 o) :=
    World.cell?_setCell_same (u := .int .i64 o) _ _ _ (by simp [go_sem, d2])
  refine bodyPost_ret (v := .tuple #[.agg #[.int .i64 (v * 86400 + S), .int .i64 z, .int .i64 o], .nilIface]) (by simp [results, Tryz.results42, go_sem, d0, d1, d2, g2]) rfl ⟨rfl, ?_, ?_⟩
  · exact ((((hr4.other _ 1 _ hne).other _ 2 _ hne).other _ 0 _ hne).other _ 1 _ hne).other _ 2 _ hne
  · exact ((((hM4.out.setNew _ 1 _ (Nat.le_refl _)).setNew _ 2 _ (Nat.le_refl _)).setNew _ 0 _ (Nat.le_refl _)).setNew _ 1 _ (Nat.le_refl _)).setNew _ 2 _ (Nat.le_refl _)
theorem rend_ok (b : Nat) (s : ByteArray) (k : Nat) (w : World) (h : Rd b s k w) (hs : s.size ≤ 1000000000) (hk : s.size ≤ k) :
    Calls Tryz.prog 43 #[.pointer (some ⟨b, 0, none⟩)] w fun e w' => e = .returned .nilIface ∧ Rd b s k w' ∧ Mv b w w' := by
  obtain ⟨c0, c1, fr, lt⟩ := h
  have hn1 : ¬ (k < s.size) := by omega
  have hn2 : ¬ ((k : Int) < (s.size : Int)) := by omega
  have hd : decide ((k : Int) < (s.size : Int)) = false := by simpa using hk
  have HR : Hid (∀ n, Rd b s k (w.drewN n)) := hide (fun n => (Rd.mk c0 c1 fr lt).drewN n)
  clear hk
  go_enter Tryz.func43, Tryz.ntmps43
  go_wp2_with fail
  go_quiet (fail)
  go_wp2_with fail
  go_ret
  exact ⟨rfl, HR.out _, (Mv.refl b w).drewN _⟩
/-- package errors' As, of no error -/
theorem where_nil (w : World) : Calls Tryz.prog 23 #[.nilIface] w fun e w' => e = .returned (.int .i64 (-1)) ∧ Below w.heap.size w w' := by
  go_enter Tryz.func23, Tryz.ntmps23
  go_wp2_with fail
  refine (as_nil _ _).mono ?_
  rintro e W ⟨rfl, rfl⟩
  go_wp2_with fail
  go_ret
  exact ⟨rfl, (Below.refl _ _).alloc (Nat.le_refl _) _⟩
set_option maxRecDepth 100000 in
set_option maxHeartbeats 8000000 in
theorem cparse_steps (s : ByteArray) (k2 : Nat) (t z o : Int) (w : World) (hs : s.size ≤ 1000000000) (hk : s.size ≤ k2)
    (ks : ∀ b W, Rd b s 0 W → Calls Tryz.prog 42 #[.pointer (some ⟨b, 0, none⟩)] W fun e w' => e = .returned (.tuple #[.agg #[.int .i64 t, .int .i64 z, .int .i64 o], .nilIface]) ∧ Rd b s k2 w' ∧ Mv b W w') :
    Calls Tryz.prog 22 #[.string s] w fun e w' => e = .returned (.tuple #[.agg #[.int .i64 t, .int .i64 z, .int .i64 o], .nilIface]) ∧ Below w.heap.size w w' := by
  have KS := hide ks
  have KE := hide (fun b W hW => rend_ok b s k2 W hW hs hk)
  clear ks
  go_enter Tryz.func22, Tryz.ntmps22
  have hA : Rd (w.heap.size + 1) s 0 ((w.alloc (.cells #[.int .i64 0, .int .i64 0, .int .i64 0] 24)).alloc (.cells #[.string s, .int .i64 0] 89)) :=
    ⟨by simp [go_sem], by simp [go_sem], fun j => by simp, by simp⟩
  have hMA : Below w.heap.size w ((w.alloc (.cells #[.int .i64 0, .int .i64 0, .int .i64 0] 24)).alloc (.cells #[.string s, .int .i64 0] 89)) := ((Below.refl _ w).alloc (Nat.le_refl _) _).alloc (by simp) _
  have a0 : ((w.alloc (.cells #[.int .i64 0, .int .i64 0, .int .i64 0] 24)).alloc (.cells #[.string s, .int .i64 0] 89)).cell? ⟨w.heap.size, 0, none⟩ = some (.int .i64 0) ∧ ((w.alloc (.cells #[.int .i64 0, .int .i64 0, .int .i64 0] 24)).alloc (.cells #[.string s, .int .i64 0] 89)).cell? ⟨w.heap.size, 1, none⟩ = some (.int .i64 0) ∧ ((w.alloc (.cells #[.int .i64 0, .int .i64 0, .int .i64 0] 24)).alloc (.cells #[.string s, .int .i64 0] 89)).cell? ⟨w.heap.size, 2, none⟩ = some (.int .i64 0) ∧ (∀ j, ((w.alloc (.cells #[.int .i64 0, .int .i64 0, .int .i64 0] 24)).alloc (.cells #[.string s, .int .i64 0] 89)).frozen? ⟨w.heap.size, j, none⟩ = false) ∧ w.heap.size < ((w.alloc (.cells #[.int .i64 0, .int .i64 0, .int .i64 0] 24)).alloc (.cells #[.string s, .int .i64 0] 89)).heap.size :=
    ⟨by simp [go_sem], by simp [go_sem], by simp [go_sem], fun j => by simp, by simp; omega⟩
  go_wp2_with fail
  refine (KS.out _ _ hA).mono ?_
  rintro e W1 ⟨rfl, hr1, hm1⟩
  have hne : w.heap.size ≠ w.heap.size + 1 := by omega
  have hb1 := box3k hm1 hne a0
  have hB1 := hide (hMA.trans (hm1.below (B := w.heap.size) (by omega) (by simp; omega)))
  clear hm1 hMA hA a0 KS
  have hr2 := hr1.later ((Below.refl _ W1).alloc (Nat.le_refl _) (.cells #[.int .i64 t, .int .i64 z, .int .i64 o] 24))
  go_wp2_with fail
  refine (KE.out _ _ hr2).mono ?_
  rintro e W2 ⟨rfl, hr3, hm2⟩
  obtain ⟨a0, a1, a2, fa, ha⟩ := box3m (w.heap.size + 1) W1 W2 _ _ _ _ hm2 hr1.lt
  have hl1 := hr1.lt
  obtain ⟨d0, d1, d2, fd, hd⟩ := box3k hm2 hne (W := W1.alloc (.cells #[.int .i64 t, .int .i64 z, .int .i64 o] 24)) (c0 := .int .i64 0) (c1 := .int .i64 0) (c2 := .int .i64 0) (by
    obtain ⟨p0, p1, p2, p3, p4⟩ := hb1
    exact ⟨by rw [World.cell?_alloc_past _ _ _ p4]; exact p0, by rw [World.cell?_alloc_past _ _ _ p4]; exact p1, by rw [World.cell?_alloc_past _ _ _ p4]; exact p2, fun j => by rw [World.frozen?_alloc_old _ _ ⟨w.heap.size, j, none⟩ (Nat.ne_of_lt p4)]; exact p3 j, by simp; omega⟩)
  have hB2 := hide ((hB1.out.alloc hB1.out.size (.cells #[.int .i64 t, .int .i64 z, .int .i64 o] 24)).trans (hm2.below (B := w.heap.size) (by omega) (by simp; omega)))
  clear hm2 hB1 hb1 hr1 hr2
  have hw1 : w.heap.size ≠ W1.heap.size := by omega
  go_wp2_with fail
  refine bodyPost_ret (v := .tuple #[.agg #[.int .i64 t, .int .i64 z, .int .i64 o], .nilIface]) (by simp [results, Tryz.results22, go_sem, d0, d1, d2]) rfl ⟨rfl, ?_⟩
  exact ((hB2.out.setCell (Nat.le_refl _) _).setCell (Nat.le_refl _) _).setCell (Nat.le_refl _) _
end Go.Proofs.YtcffomellimmiaaGreatDoor
