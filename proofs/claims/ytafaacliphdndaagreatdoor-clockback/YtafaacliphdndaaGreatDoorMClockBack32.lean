/- package clock's reader: clock, zone, day. -/
import Derived.Test.YtafaacliphdndaaGreatDoorMClockBack25
import Derived.Test.YtafaacliphdndaaGreatDoorMClockBack30
namespace Go.Proofs.YtafaacliphdndaaGreatDoor
open Go.RowKit Go.Shelf
set_option linter.unusedVariables false
set_option linter.unusedSimpArgs false

theorem Rd.other {b : Nat} {s : ByteArray} {k : Nat} {w : World} (h : Rd b s k w) (c o : Nat) (v : Value) (hp : c ≠ b) : Rd b s k (w.setCell ⟨c, o, none⟩ v) :=
  ⟨by rw [World.cell?_setCell_other _ _ _ _ (by simp [hp])]; exact h.c0, by rw [World.cell?_setCell_other _ _ _ _ (by simp [hp])]; exact h.c1, fun i => by rw [World.frozen?_setCell]; exact h.fr i, by rw [World.size_setCell]; exact h.lt⟩
theorem Mv.setNew {b : Nat} {w w' : World} (h : Mv b w w') (c o : Nat) (v : Value) (hp : w.heap.size ≤ c) : Mv b w (w'.setCell ⟨c, o, none⟩ v) :=
  ⟨h.os, h.tape, h.output, by rw [World.size_setCell]; exact h.size, fun i hi hb => by rw [Below.heap_setCell _ _ _ _ (by simp; omega)]; exact h.block i hi hb⟩
/-- the bytes of a clock -/
def cL (h m x : Nat) : List UInt8 := (Tx.padL h 2 ++ 58 :: Tx.padL m 2) ++ 58 :: Tx.padL x 2
theorem hmL_length (h m : Nat) (hh : h < 100) (hm : m < 100) (c : UInt8) : (Tx.padL h 2 ++ c :: Tx.padL m 2).length = 5 := by
  rw [List.length_append, List.length_cons, Tx.padL_exact h 2 (by omega) (by omega), Tx.padL_exact m 2 (by omega) (by omega)]
set_option maxRecDepth 100000 in
set_option maxHeartbeats 4000000 in
theorem rclock_any (b : Nat) (s : ByteArray) (k h m x : Nat) (w : World) (hr : Rd b s k w) (hs : s.size ≤ 1000000000) (hL : Tx.Seg s k (cL h m x)) (hh : h < 24) (hm : m < 60) (hx : x < 60) :
    Calls Tryz.prog 85 #[.pointer (some ⟨b, 0, none⟩), .bool true] w fun e w' => e = .returned (.tuple #[.int .i64 (3600 * h + 60 * m + x), .nilIface]) ∧ Rd b s (k + 8) w' ∧ Mv b w w' := by
  have hle := hL.le
  have hR := Tx.Seg.right (L := Tx.padL h 2 ++ 58 :: Tx.padL m 2) hL
  rw [hmL_length h m (by omega) (by omega)] at hR
  have hR2 := hR.tail
  have hle2 := hR2.le
  rw [Tx.padL_exact x 2 (by omega) (by omega)] at hle2
  have K0 := hide (fun W hW => hourMin_any b s k h m W hW hs (Tx.Seg.left (L := Tx.padL h 2 ++ 58 :: Tx.padL m 2) hL) (by omega) (by omega))
  have K1 := hide (fun W hW => hasSec_yes b s (k + 5) W hW hs (Nx.yes hR) (by omega))
  have K2 := hide (fun W hW => number_pad b s (k + 5 + 1) x 2 W hW hs hR2 (by omega) (by omega) (by omega))
  have K3 := hide (fun W => seconds_any (h : Int) (m : Int) (x : Int) W (by omega) (by omega) (by omega) (by omega) (by omega) (by omega))
  have h1 : (0 : Int) ≤ (h : Int) := by omega
  have h2 : (h : Int) ≤ 23 := by omega
  have h3 : (m : Int) ≤ 59 := by omega
  have h4 : (x : Int) ≤ 59 := by omega
  have h5 : ((h : Int) == 24) = false := by simp; omega
  clear hL hR hR2 hle hle2 hh hm hx
  have hA : Rd b s k (w.alloc (.cells #[.int .i64 0, .int .i64 0, .int .i64 0] 68)) := hr.later ((Below.refl _ w).alloc (Nat.le_refl _) _)
  have hMA : Mv b w (w.alloc (.cells #[.int .i64 0, .int .i64 0, .int .i64 0] 68)) := Mv.of_below ((Below.refl _ w).alloc (Nat.le_refl _) _)
  have hbw := hr.lt
  go_enter Tryz.func85, Tryz.ntmps85
  go_wp2_with fail
  refine (K0.out _ hA).mono ?_
  rintro e W0 ⟨rfl, hr0, hm0⟩
  have hne : w.heap.size ≠ b := by omega
  have a0 : W0.cell? ⟨w.heap.size, 0, none⟩ = some (.int .i64 0) := by rw [hm0.cell (p := ⟨w.heap.size, 0, none⟩) (by simp) hne]; simp
  have a1 : W0.cell? ⟨w.heap.size, 1, none⟩ = some (.int .i64 0) := by rw [hm0.cell (p := ⟨w.heap.size, 1, none⟩) (by simp) hne]; simp
  have a2 : W0.cell? ⟨w.heap.size, 2, none⟩ = some (.int .i64 0) := by rw [hm0.cell (p := ⟨w.heap.size, 2, none⟩) (by simp) hne]; simp
  have fz : ∀ j, W0.frozen? ⟨w.heap.size, j, none⟩ = false := fun j => by rw [hm0.frozen (p := ⟨w.heap.size, j, none⟩) (by simp) hne]; simp
  have hC0 : w.heap.size < W0.heap.size := by have := hm0.size; simp at this; omega
  have hM0 := hide ((hMA.trans hm0).setNew w.heap.size 0 (.int .i64 h) (Nat.le_refl _) |>.setNew w.heap.size 1 (.int .i64 m) (Nat.le_refl _))
  have hR0 := (hr0.other w.heap.size 0 (.int .i64 h) hne).other w.heap.size 1 (.int .i64 m) hne
  clear hm0 hr0 hMA hA
  go_wp2_with fail
  refine (K1.out _ hR0).mono ?_
  rintro e W1 ⟨rfl, hr1, hm1⟩
  have b0 : W1.cell? ⟨w.heap.size, 0, none⟩ = some (.int .i64 h) := by rw [hm1.cell (p := ⟨w.heap.size, 0, none⟩) (by simp; omega) hne]; simp [go_sem, a0]
  have b1 : W1.cell? ⟨w.heap.size, 1, none⟩ = some (.int .i64 m) := by rw [hm1.cell (p := ⟨w.heap.size, 1, none⟩) (by simp; omega) hne]; simp [go_sem, a1]
  have b2 : W1.cell? ⟨w.heap.size, 2, none⟩ = some (.int .i64 0) := by rw [hm1.cell (p := ⟨w.heap.size, 2, none⟩) (by simp; omega) hne]; simp [go_sem, a2]
  have fz1 : ∀ j, W1.frozen? ⟨w.heap.size, j, none⟩ = false := fun j => by rw [hm1.frozen (p := ⟨w.heap.size, j, none⟩) (by simp; omega) hne]; simp [fz]
  have hC1 : w.heap.size < W1.heap.size := by have := hm1.size; simp at this; omega
  have hM1 := hide (hM0.out.trans hm1)
  clear hm1 hM0 hR0 a0 a1 a2 fz hC0
  go_wp2_with fail
  refine (K2.out _ hr1).mono ?_
  rintro e W2 ⟨rfl, hr2, hm2⟩
  have d0 : W2.cell? ⟨w.heap.size, 0, none⟩ = some (.int .i64 h) := (hm2.cell (p := ⟨w.heap.size, 0, none⟩) hC1 hne).trans b0
  have d1 : W2.cell? ⟨w.heap.size, 1, none⟩ = some (.int .i64 m) := (hm2.cell (p := ⟨w.heap.size, 1, none⟩) hC1 hne).trans b1
  have d2 : W2.cell? ⟨w.heap.size, 2, none⟩ = some (.int .i64 0) := (hm2.cell (p := ⟨w.heap.size, 2, none⟩) hC1 hne).trans b2
  have fz2 : ∀ j, W2.frozen? ⟨w.heap.size, j, none⟩ = false := fun j => (hm2.frozen (p := ⟨w.heap.size, j, none⟩) hC1 hne).trans (fz1 j)
  have hC2 : w.heap.size < W2.heap.size := Nat.lt_of_lt_of_le hC1 hm2.size
  have hM2 := hide ((hM1.out.trans hm2).setNew w.heap.size 2 (.int .i64 x) (Nat.le_refl _))
  have hR2 := hide (hr2.other w.heap.size 2 (.int .i64 x) hne)
  clear hm2 hr1 hr2 b0 b1 b2 fz1 hC1 hM1 hr
  go_wp2_with fail
  refine (K3.out _).mono ?_
  rintro e W3 ⟨rfl, hb3⟩
  have hR3 := hR2.out.later hb3
  have hM3 := hM2.out.trans (Mv.of_below hb3)
  clear hb3 hR2 hM2 d0 d1 d2 fz2
  go_wp2_with fail
  go_ret2
  exact ⟨rfl, hR3, hM3⟩
/-! ### the zone -/
set_option maxHeartbeats 1600000 in
theorem rzone_none (b : Nat) (s : ByteArray) (k : Nat) (w : World) (h : Rd b s k w) (hs : s.size ≤ 1000000000) (hk : k ≤ 1000000000) (n1 : Nx s k 90 false) (n2 : Nx s k 43 false) (n3 : Nx s k 45 false) :
    Calls Tryz.prog 86 #[.pointer (some ⟨b, 0, none⟩), .bool true] w fun e w' => e = .returned (.tuple #[.int .i64 0, .int .i64 0, .nilIface]) ∧ Rd b s k w' ∧ Mv b w w' := by
  have K1 := hide (fun W hW => skip_any b s k 90 false W hW hs n1 hk)
  have K2 := hide (fun W hW => skip_any b s k 43 false W hW hs n2 hk)
  have K3 := hide (fun W hW => skip_any b s k 45 false W hW hs n3 hk)
  clear n1 n2 n3
  go_enter Tryz.func86, Tryz.ntmps86
  go_wp2_with fail
  refine (K1.out _ h).mono ?_
  rintro e W1 ⟨rfl, hr1, hm1⟩
  go_wp2_with fail
  refine (K2.out _ hr1).mono ?_
  rintro e W2 ⟨rfl, hr2, hm2⟩
  go_wp2_with fail
  refine (K3.out _ hr2).mono ?_
  rintro e W3 ⟨rfl, hr3, hm3⟩
  go_wp2_with fail
  refine bodyPost_ret (v := .tuple #[.int .i64 0, .int .i64 0, .nilIface]) (by simp [results, Tryz.results86, go_sem]) rfl ⟨rfl, hr3, (hm1.trans hm2).trans hm3⟩
set_option maxHeartbeats 1600000 in
theorem rzone_zulu (b : Nat) (s : ByteArray) (k : Nat) (w : World) (h : Rd b s k w) (hs : s.size ≤ 1000000000) (hL : Tx.Seg s k [90]) :
    Calls Tryz.prog 86 #[.pointer (some ⟨b, 0, none⟩), .bool true] w fun e w' => e = .returned (.tuple #[.int .i64 1, .int .i64 0, .nilIface]) ∧ Rd b s (k + 1) w' ∧ Mv b w w' := by
  have hle := hL.le
  have K1 := hide (fun W hW => skip_any b s k 90 true W hW hs (Nx.yes hL) (by omega))
  clear hL hle
  go_enter Tryz.func86, Tryz.ntmps86
  go_wp2_with fail
  refine (K1.out _ h).mono ?_
  rintro e W1 ⟨rfl, hr1, hm1⟩
  go_wp2_with fail
  refine bodyPost_ret (v := .tuple #[.int .i64 1, .int .i64 0, .nilIface]) (by simp [results, Tryz.results86, go_sem]) rfl ⟨rfl, hr1, hm1⟩
set_option maxHeartbeats 4000000 in
theorem rzone_pos (b : Nat) (s : ByteArray) (k h m : Nat) (w : World) (hr : Rd b s k w) (hs : s.size ≤ 1000000000) (hL : Tx.Seg s k (43 :: (Tx.padL h 2 ++ 58 :: Tx.padL m 2))) (hh : h < 24) (hm : m < 60) :
    Calls Tryz.prog 86 #[.pointer (some ⟨b, 0, none⟩), .bool true] w fun e w' => e = .returned (.tuple #[.int .i64 2, .int .i64 (3600 * h + 60 * m), .nilIface]) ∧ Rd b s (k + 6) w' ∧ Mv b w w' := by
  have hle := hL.le
  have hk : k ≤ 1000000000 := by omega
  have K1 := hide (fun W hW => skip_any b s k 90 false W hW hs (Nx.no hL (by decide)) hk)
  have K2 := hide (fun W hW => skip_any b s k 43 true W hW hs (Nx.yes hL) hk)
  have K3 := hide (fun W hW => hourMin_any b s (k + 1) h m W hW hs hL.tail (by omega) (by omega))
  have K4 := hide (fun W => seconds_any (h : Int) (m : Int) 0 W (by omega) (by omega) (by omega) (by omega) (by omega) (by omega))
  have h2 : (h : Int) ≤ 23 := by omega
  have h3 : (m : Int) ≤ 59 := by omega
  have h4 : (0 : Int) ≤ (h : Int) := by omega
  have h5 : (0 : Int) ≤ (m : Int) := by omega
  clear hL hle hh hm
  go_enter Tryz.func86, Tryz.ntmps86
  go_wp2_with fail
  refine (K1.out _ hr).mono ?_
  rintro e W1 ⟨rfl, hr1, hm1⟩
  go_wp2_with fail
  refine (K2.out _ hr1).mono ?_
  rintro e W2 ⟨rfl, hr2, hm2⟩
  go_wp2_with fail
  refine (K3.out _ hr2).mono ?_
  rintro e W3 ⟨rfl, hr3, hm3⟩
  go_wp2_with fail
  refine (K4.out _).mono ?_
  rintro e W4 ⟨rfl, hb4⟩
  have hR := hr3.later hb4
  have hM := ((hm1.trans hm2).trans hm3).trans (Mv.of_below hb4)
  go_wp2_with fail
  refine bodyPost_ret (v := .tuple #[.int .i64 2, .int .i64 (3600 * h + 60 * m), .nilIface]) (by simp [results, Tryz.results86, go_sem]) rfl ⟨rfl, hR, hM⟩
set_option maxHeartbeats 4000000 in
theorem rzone_neg (b : Nat) (s : ByteArray) (k h m : Nat) (w : World) (hr : Rd b s k w) (hs : s.size ≤ 1000000000) (hL : Tx.Seg s k (45 :: (Tx.padL h 2 ++ 58 :: Tx.padL m 2))) (hh : h < 24) (hm : m < 60) :
    Calls Tryz.prog 86 #[.pointer (some ⟨b, 0, none⟩), .bool true] w fun e w' => e = .returned (.tuple #[.int .i64 2, .int .i64 (-(3600 * h + 60 * m)), .nilIface]) ∧ Rd b s (k + 6) w' ∧ Mv b w w' := by
  have hle := hL.le
  have hk : k ≤ 1000000000 := by omega
  have K1 := hide (fun W hW => skip_any b s k 90 false W hW hs (Nx.no hL (by decide)) hk)
  have K2 := hide (fun W hW => skip_any b s k 43 false W hW hs (Nx.no hL (by decide)) hk)
  have K2b := hide (fun W hW => skip_any b s k 45 true W hW hs (Nx.yes hL) hk)
  have K3 := hide (fun W hW => hourMin_any b s (k + 1) h m W hW hs hL.tail (by omega) (by omega))
  have K4 := hide (fun W => seconds_any (h : Int) (m : Int) 0 W (by omega) (by omega) (by omega) (by omega) (by omega) (by omega))
  have h2 : (h : Int) ≤ 23 := by omega
  have h3 : (m : Int) ≤ 59 := by omega
  have h4 : (0 : Int) ≤ (h : Int) := by omega
  have h5 : (0 : Int) ≤ (m : Int) := by omega
  clear hL hle hh hm
  go_enter Tryz.func86, Tryz.ntmps86
  go_wp2_with fail
  refine (K1.out _ hr).mono ?_
  rintro e W1 ⟨rfl, hr1, hm1⟩
  go_wp2_with fail
  refine (K2.out _ hr1).mono ?_
  rintro e W2 ⟨rfl, hr2, hm2⟩
  go_wp2_with fail
  refine (K2b.out _ hr2).mono ?_
  rintro e W2b ⟨rfl, hr2b, hm2b⟩
  go_wp2_with fail
  refine (K3.out _ hr2b).mono ?_
  rintro e W3 ⟨rfl, hr3, hm3⟩
  go_wp2_with fail
  refine (K4.out _).mono ?_
  rintro e W4 ⟨rfl, hb4⟩
  have hR := hr3.later hb4
  have hM := (((hm1.trans hm2).trans hm2b).trans hm3).trans (Mv.of_below hb4)
  go_wp2_with fail
  refine bodyPost_ret (v := .tuple #[.int .i64 2, .int .i64 (-(3600 * h + 60 * m)), .nilIface]) (by simp [results, Tryz.results86, go_sem]; try omega) rfl ⟨rfl, hR, hM⟩
/-! ### the day -/
set_option maxHeartbeats 4000000 in
theorem rday_any (b : Nat) (s : ByteArray) (k M D : Nat) (y v : Int) (w : World) (hr : Rd b s k w) (hs : s.size ≤ 1000000000) (hL : Tx.Seg s k (yL y ++ 45 :: (Tx.padL M 2 ++ 45 :: Tx.padL D 2))) (y1 : -20000 ≤ y) (y2 : y ≤ 20000) (hM : M < 100) (hD : D < 100)
    (kd : ∀ W, Calls Tryz.prog 71 #[.agg #[.int .i64 1, .int .i64 y, .int .i64 M, .int .i64 D]] W fun e w' => e = .returned (.tuple #[.int .i64 v, .nilIface]) ∧ Below W.heap.size W w') :
    Calls Tryz.prog 84 #[.pointer (some ⟨b, 0, none⟩)] w fun e w' => e = .returned (.tuple #[.int .i64 v, .bool true, .nilIface]) ∧ Rd b s (k + (yL y).length + 6) w' ∧ Mv b w w' := by
  have hR := hL.right
  have hle := hR.le
  have hR2 := hR.tail
  have hR3 := hR2.right
  rw [Tx.padL_exact M 2 (by omega) (by omega)] at hR3
  have hk : k + (yL y).length ≤ 1000000000 := by omega
  have hk1 : k + (yL y).length + 1 ≤ 1000000000 := by rw [List.length_cons] at hle; omega
  have K0 := hide (fun W hW => ryear_rd b s k y W hW hs hL.left y1 y2)
  have K1 := hide (fun W hW => skip_any b s (k + (yL y).length) 45 true W hW hs (Nx.yes hR) hk)
  have K2 := hide (fun W hW => skip_any b s (k + (yL y).length + 1) 87 false W hW hs (Nx.dig hR2.left (pad_ne M 2 (by omega) (by omega)) (Tx.dig_pad M 2) (by omega)) hk1)
  have K3 := hide (fun W hW => run_any b s (k + (yL y).length + 1) 2 _ W hW hs hR2.left (Tx.padL_exact M 2 (by omega) (by omega)) (Tx.dig_pad M 2) (Stp.of hR3 (by decide)))
  have K4 := hide (fun W hW => dayOfMonth_any b s (k + (yL y).length + 1) M D y v W hW hs hR2 hM hD kd)
  clear hL hR hle hR2 hR3 kd hk hk1
  generalize k + (yL y).length = q at *
  go_enter Tryz.func84, Tryz.ntmps84
  go_wp2_with fail
  refine (K0.out _ hr).mono ?_
  rintro e W0 ⟨rfl, hr0, hm0⟩
  go_wp2_with fail
  refine (K1.out _ hr0).mono ?_
  rintro e W1 ⟨rfl, hr1, hm1⟩
  go_wp2_with fail
  refine (K2.out _ hr1).mono ?_
  rintro e W2 ⟨rfl, hr2, hm2⟩
  go_wp2_with fail
  refine (K3.out _ hr2).mono ?_
  rintro e W3 ⟨rfl, hr3, hm3⟩
  go_wp2_with fail
  refine (K4.out _ hr3).mono ?_
  rintro e W4 ⟨rfl, hr4, hm4⟩
  go_wp2_with fail
  refine bodyPost_ret (v := .tuple #[.int .i64 v, .bool true, .nilIface]) (by simp [results, Tryz.results84, go_sem]) rfl ⟨rfl, hr4, (((hm0.trans hm1).trans hm2).trans hm3).trans hm4⟩
end Go.Proofs.YtafaacliphdndaaGreatDoor
