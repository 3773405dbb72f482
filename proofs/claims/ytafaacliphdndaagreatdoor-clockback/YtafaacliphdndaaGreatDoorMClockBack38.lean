/- package plain: ClockParse of a text that is a stamp's. -/
import Derived.Test.YtafaacliphdndaaGreatDoorMClockBack32
import Derived.Test.YtafaacliphdndaaGreatDoorMClockBack34
import Derived.Test.YtafaacliphdndaaGreatDoorMClockBack35
import Derived.Deep.RegionWith
namespace Go.Proofs.YtafaacliphdndaaGreatDoor
open Go.RowKit Go.Shelf
set_option linter.unusedVariables false
set_option linter.unusedSimpArgs false

/-- block B is an error with its place: ErrLimit -/
def AtB (B : Nat) (W : World) : Prop := W.cell? ⟨B, 0, none⟩ = some (.int .i64 6) ∧ (∃ k : Int, W.cell? ⟨B, 1, none⟩ = some (.int .i64 k)) ∧ B < W.heap.size
theorem AtB.later {B : Nat} {W W' : World} (h : AtB B W) (hb : Below W.heap.size W W') : AtB B W' := by
  obtain ⟨h0, ⟨k, h1⟩, hl⟩ := h
  exact ⟨(hb.cell (p := ⟨B, 0, none⟩) hl).trans h0, ⟨k, (hb.cell (p := ⟨B, 1, none⟩) hl).trans h1⟩, Nat.lt_of_lt_of_le hl hb.size⟩
theorem AtB.mv {B b : Nat} {W W' : World} (h : AtB B W) (hm : Mv b W W') (hne : B ≠ b) : AtB B W' := by
  obtain ⟨h0, ⟨k, h1⟩, hl⟩ := h
  exact ⟨(hm.cell (p := ⟨B, 0, none⟩) hl hne).trans h0, ⟨k, (hm.cell (p := ⟨B, 1, none⟩) hl hne).trans h1⟩, Nat.lt_of_lt_of_le hl hm.size⟩
set_option maxHeartbeats 1600000 in
theorem count_ok (b : Nat) (s : ByteArray) (k n : Nat) (L : List UInt8) (w : World) (h : Rd b s k w) (hs : s.size ≤ 1000000000) (hL : Tx.Seg s k L) (hn : L.length = n) (hd : ∀ c ∈ L, Tx.isDig c) (hstop : Stp s (k + n)) (h8 : n ≤ 8) :
    Calls Tryz.prog 119 #[.pointer (some ⟨b, 0, none⟩)] w fun e w' => e = .returned (.tuple #[.int .i64 (Tx.valF 0 L), .nilIface]) ∧ Rd b s (k + n) w' ∧ Mv b w w' := by
  have K1 := hide (fun W hW => run_any b s k n L W hW hs hL hn hd hstop)
  have K2 := hide (fun W hW => number_any b s k n L W hW hs hL hn hd h8)
  clear hL hd hstop hn
  go_enter Tryz.func119, Tryz.ntmps119
  go_wp2_with fail
  refine (K1.out _ h).mono ?_
  rintro e W1 ⟨rfl, hr1, hm1⟩
  go_wp2_with fail
  refine (K2.out _ hr1).mono ?_
  rintro e W2 ⟨rfl, hr2, hm2⟩
  go_wp2_with fail
  go_ret2
  exact ⟨rfl, hr2, hm1.trans hm2⟩
set_option maxHeartbeats 1600000 in
theorem count_big (b : Nat) (s : ByteArray) (k n : Nat) (L : List UInt8) (w : World) (h : Rd b s k w) (hs : s.size ≤ 1000000000) (hL : Tx.Seg s k L) (hn : L.length = n) (hd : ∀ c ∈ L, Tx.isDig c) (hstop : Stp s (k + n)) (h8 : 8 < n) :
    Calls Tryz.prog 119 #[.pointer (some ⟨b, 0, none⟩)] w fun e w' => ∃ B, e = .returned (.tuple #[.int .i64 0, .iface 106 (.pointer (some ⟨B, 0, none⟩))]) ∧ AtB B w' ∧ w.heap.size ≤ B ∧ Mv b w w' := by
  have K1 := hide (fun W hW => run_any b s k n L W hW hs hL hn hd hstop)
  clear hL hd hstop hn
  go_enter Tryz.func119, Tryz.ntmps119
  go_wp2_with fail
  refine (K1.out _ h).mono ?_
  rintro e W1 ⟨rfl, hr1, hm1⟩
  obtain ⟨c0, c1, fr, lt⟩ := hr1
  go_wp2_with fail
  go_region
  all_goals
    go_wp2
    go_ret2
    exact ⟨W1.heap.size, rfl, ⟨by simp, ⟨k, by simp⟩, by simp⟩, hm1.size, hm1.trans (Mv.of_below (Below.drew ((Below.refl _ W1).alloc (Nat.le_refl _) _)))⟩
end Go.Proofs.YtafaacliphdndaaGreatDoor
namespace Go.Proofs.YtafaacliphdndaaGreatDoor
open Go.RowKit Go.Shelf
set_option linter.unusedVariables false
set_option linter.unusedSimpArgs false

theorem box3m (b : Nat) (w W : World) (T : TypeId) (c0 c1 c2 : Value) (hm : Mv b (w.alloc (.cells #[c0, c1, c2] T)) W) (hb : b < w.heap.size) :
    W.cell? ⟨w.heap.size, 0, none⟩ = some c0 ∧ W.cell? ⟨w.heap.size, 1, none⟩ = some c1 ∧ W.cell? ⟨w.heap.size, 2, none⟩ = some c2 ∧ (∀ j, W.frozen? ⟨w.heap.size, j, none⟩ = false) ∧ w.heap.size < W.heap.size := by
  have hne : w.heap.size ≠ b := by omega
  refine ⟨?_, ?_, ?_, fun j => ?_, by have := hm.size; simp at this; omega⟩
  · rw [hm.cell (p := ⟨w.heap.size, 0, none⟩) (by simp) hne]; simp
  · rw [hm.cell (p := ⟨w.heap.size, 1, none⟩) (by simp) hne]; simp
  · rw [hm.cell (p := ⟨w.heap.size, 2, none⟩) (by simp) hne]; simp
  · rw [hm.frozen (p := ⟨w.heap.size, j, none⟩) (by simp) hne]; simp
theorem box3k {b C : Nat} {W W' : World} {c0 c1 c2 : Value} (hm : Mv b W W') (hne : C ≠ b) (h : W.cell? ⟨C, 0, none⟩ = some c0 ∧ W.cell? ⟨C, 1, none⟩ = some c1 ∧ W.cell? ⟨C, 2, none⟩ = some c2 ∧ (∀ j, W.frozen? ⟨C, j, none⟩ = false) ∧ C < W.heap.size) :
    W'.cell? ⟨C, 0, none⟩ = some c0 ∧ W'.cell? ⟨C, 1, none⟩ = some c1 ∧ W'.cell? ⟨C, 2, none⟩ = some c2 ∧ (∀ j, W'.frozen? ⟨C, j, none⟩ = false) ∧ C < W'.heap.size := by
  obtain ⟨h0, h1, h2, hf, hl⟩ := h
  exact ⟨(hm.cell (p := ⟨C, 0, none⟩) hl hne).trans h0, (hm.cell (p := ⟨C, 1, none⟩) hl hne).trans h1, (hm.cell (p := ⟨C, 2, none⟩) hl hne).trans h2, fun j => (hm.frozen (p := ⟨C, j, none⟩) hl hne).trans (hf j), Nat.lt_of_lt_of_le hl hm.size⟩
set_option maxRecDepth 100000 in
set_option maxHeartbeats 8000000 in
theorem rstamp_any (b : Nat) (s : ByteArray) (k k2 M D h m x : Nat) (y v z o : Int) (w : World) (hr : Rd b s k w) (hs : s.size ≤ 1000000000)
    (hL : Tx.Seg s k ((yL y ++ 45 :: (Tx.padL M 2 ++ 45 :: Tx.padL D 2)) ++ 84 :: cL h m x)) (y1 : -20000 ≤ y) (y2 : y ≤ 20000) (hM : M < 100) (hD : D < 100) (hh : h < 24) (hm : m < 60) (hx : x < 60)
    (v1 : -4000000 ≤ v) (v2 : v ≤ 4000000)
    (kd : ∀ W, Calls Tryz.prog 71 #[.agg #[.int .i64 1, .int .i64 y, .int .i64 M, .int .i64 D]] W fun e w' => e = .returned (.tuple #[.int .i64 v, .nilIface]) ∧ Below W.heap.size W w')
    (kz : ∀ W, Rd b s (k + ((yL y).length + 6) + 1 + 8) W → Calls Tryz.prog 86 #[.pointer (some ⟨b, 0, none⟩), .bool true] W fun e w' => e = .returned (.tuple #[.int .i64 z, .int .i64 o, .nilIface]) ∧ Rd b s k2 w' ∧ Mv b W w') :
    Calls Tryz.prog 60 #[.pointer (some ⟨b, 0, none⟩)] w fun e w' => e = .returned (.tuple #[.agg #[.int .i64 (v * 86400 + (3600 * h + 60 * m + x)), .int .i64 z, .int .i64 o], .nilIface]) ∧ Rd b s k2 w' ∧ Mv b w w' := by
  have hR := Tx.Seg.right (L := yL y ++ 45 :: (Tx.padL M 2 ++ 45 :: Tx.padL D 2)) hL
  have hlen : (yL y ++ 45 :: (Tx.padL M 2 ++ 45 :: Tx.padL D 2)).length = (yL y).length + 6 := by
    rw [List.length_append, List.length_cons, hmL_length M D hM hD]
  rw [hlen] at hR
  have hle := hR.le
  have hk1 : k + ((yL y).length + 6) ≤ 1000000000 := by omega
  have K0 := hide (fun W hW => rday_any b s k M D y v W hW hs (Tx.Seg.left (L := yL y ++ 45 :: (Tx.padL M 2 ++ 45 :: Tx.padL D 2)) hL) y1 y2 hM hD kd)
  have K1 := hide (fun W hW => skip_any b s (k + ((yL y).length + 6)) 84 true W hW hs (Nx.yes hR) hk1)
  have K2 := hide (fun W hW => rclock_any b s (k + ((yL y).length + 6) + 1) h m x W hW hs hR.tail hh hm hx)
  have K3 := hide (fun W => bmid_ok v (3600 * h + 60 * m + x) W v1 v2 (by omega) (by omega) (by omega) (by omega))
  have K4 := hide kz
  clear hL hR hle kd kz hlen hk1
  rw [show k + (yL y).length + 6 = k + ((yL y).length + 6) by omega] at K0
  generalize k + ((yL y).length + 6) = q at *
  generalize hS : (3600 * (h : Int) + 60 * m + x) = S at *
  have s1 : 0 ≤ S := by omega
  have s2 : S < 86400 := by omega
  clear hS
  have hbw := hr.lt
  have hne : w.heap.size ≠ b := by omega
  have hA : Rd b s k (w.alloc (.cells #[.int .i64 0, .int .i64 0, .int .i64 0] 33)) := hr.later ((Below.refl _ w).alloc (Nat.le_refl _) _)
  have hMA : Mv b w (w.alloc (.cells #[.int .i64 0, .int .i64 0, .int .i64 0] 33)) := Mv.of_below ((Below.refl _ w).alloc (Nat.le_refl _) _)
  go_enter Tryz.func60, Tryz.ntmps60
  go_wp2_with fail
  refine (K0.out _ hA).mono ?_
  rintro e W0 ⟨rfl, hr0, hm0⟩
  have hb0 := box3m b w W0 _ _ _ _ hm0 hbw
  have hM0 := hide (hMA.trans hm0)
  clear hm0 hMA hA
  go_wp2_with fail
  refine (K1.out _ hr0).mono ?_
  rintro e W1 ⟨rfl, hr1, hm1⟩
  have hb1 := box3k hm1 hne hb0
  have hM1 := hide (hM0.out.trans hm1)
  clear hm1 hM0 hb0 hr0
  go_wp2_with fail
  refine (K2.out _ hr1).mono ?_
  rintro e W2 ⟨rfl, hr2, hm2⟩
  have hb2 := box3k hm2 hne hb1
  have hM2 := hide (hM1.out.trans hm2)
  clear hm2 hM1 hb1 hr1
  go_wp2_with fail
  refine (K3.out _).mono ?_
  rintro e w' ⟨rfl, rfl⟩
  obtain ⟨a0, a1, a2, fz, hC⟩ := hb2
  have hM3 := hide (hM2.out.setNew w.heap.size 0 (.int .i64 (v * 86400 + S)) (Nat.le_refl _))
  have hR3 := hr2.other w.heap.size 0 (.int .i64 (v * 86400 + S)) hne
  go_wp2_with fail
  refine (K4.out _ hR3).mono ?_
  rintro e W4 ⟨rfl, hr4, hm4⟩
  have d0 : W4.cell? ⟨w.heap.size, 0, none⟩ = some (.int .i64 (v * 86400 + S)) := by rw [hm4.cell (p := ⟨w.heap.size, 0, none⟩) (by simp; omega) hne]; simp [go_sem, a0]
  have d1 : W4.cell? ⟨w.heap.size, 1, none⟩ = some (.int .i64 0) := by rw [hm4.cell (p := ⟨w.heap.size, 1, none⟩) (by simp; omega) hne]; simp [go_sem, a1]
  have d2 : W4.cell? ⟨w.heap.size, 2, none⟩ = some (.int .i64 0) := by rw [hm4.cell (p := ⟨w.heap.size, 2, none⟩) (by simp; omega) hne]; simp [go_sem, a2]
  have fz4 : ∀ j, W4.frozen? ⟨w.heap.size, j, none⟩ = false := fun j => by rw [hm4.frozen (p := ⟨w.heap.size, j, none⟩) (by simp; omega) hne]; simp [fz]
  have hM4 := hide (hM3.out.trans hm4)
  clear hm4 hM3 hR3 a0 a1 a2 fz hM2 hr2
  go_wp2_with fail
  have g2 : (((((W4.setCell ⟨w.heap.size, 1, none⟩ (.int .i64 z)).setCell ⟨w.heap.size, 2, none⟩ (.int .i64 o)).setCell ⟨w.heap.size, 0, none⟩ (.int .i64 (v * 86400 + S))).setCell ⟨w.heap.size, 1, none⟩ (.int .i64 z)).setCell ⟨w.heap.size, 2, none⟩ (.int .i64 o)).cell? ⟨w.heap.size, 2, none⟩ = some (.int .i64 o) :=
    World.cell?_setCell_same (u := .int .i64 o) _ _ _ (by simp [go_sem, d2])
  refine bodyPost_ret (v := .tuple #[.agg #[.int .i64 (v * 86400 + S), .int .i64 z, .int .i64 o], .nilIface]) (by simp [results, Tryz.results60, go_sem, d0, d1, d2, g2]) rfl ⟨rfl, ?_, ?_⟩
  · exact ((((hr4.other _ 1 _ hne).other _ 2 _ hne).other _ 0 _ hne).other _ 1 _ hne).other _ 2 _ hne
  · exact ((((hM4.out.setNew _ 1 _ (Nat.le_refl _)).setNew _ 2 _ (Nat.le_refl _)).setNew _ 0 _ (Nat.le_refl _)).setNew _ 1 _ (Nat.le_refl _)).setNew _ 2 _ (Nat.le_refl _)
theorem rend_ok (b : Nat) (s : ByteArray) (k : Nat) (w : World) (h : Rd b s k w) (hs : s.size ≤ 1000000000) (hk : s.size ≤ k) :
    Calls Tryz.prog 61 #[.pointer (some ⟨b, 0, none⟩)] w fun e w' => e = .returned .nilIface ∧ Rd b s k w' ∧ Mv b w w' := by
  obtain ⟨c0, c1, fr, lt⟩ := h
  have hn1 : ¬ (k < s.size) := by omega
  have hn2 : ¬ ((k : Int) < (s.size : Int)) := by omega
  have hd : decide ((k : Int) < (s.size : Int)) = false := by simpa using hk
  have HR : Hid (∀ n, Rd b s k (w.drewN n)) := hide (fun n => (Rd.mk c0 c1 fr lt).drewN n)
  clear hk
  go_enter Tryz.func61, Tryz.ntmps61
  go_wp2_with fail
  go_quiet (fail)
  go_wp2_with fail
  go_ret
  exact ⟨rfl, HR.out _, (Mv.refl b w).drewN _⟩
/-- package errors' As, of no error -/
theorem where_nil (w : World) : Calls Tryz.prog 39 #[.nilIface] w fun e w' => e = .returned (.int .i64 (-1)) ∧ Below w.heap.size w w' := by
  go_enter Tryz.func39, Tryz.ntmps39
  go_wp2_with fail
  refine (as_nil _ _).mono ?_
  rintro e W ⟨rfl, rfl⟩
  go_wp2_with fail
  go_ret
  exact ⟨rfl, (Below.refl _ _).alloc (Nat.le_refl _) _⟩
set_option maxRecDepth 100000 in
set_option maxHeartbeats 8000000 in
theorem cparse_steps (s : ByteArray) (k2 : Nat) (t z o : Int) (w : World) (hs : s.size ≤ 1000000000) (hk : s.size ≤ k2)
    (ks : ∀ b W, Rd b s 0 W → Calls Tryz.prog 60 #[.pointer (some ⟨b, 0, none⟩)] W fun e w' => e = .returned (.tuple #[.agg #[.int .i64 t, .int .i64 z, .int .i64 o], .nilIface]) ∧ Rd b s k2 w' ∧ Mv b W w') :
    Calls Tryz.prog 38 #[.string s] w fun e w' => e = .returned (.tuple #[.agg #[.int .i64 t, .int .i64 z, .int .i64 o], .nilIface]) ∧ Below w.heap.size w w' := by
  have KS := hide ks
  have KE := hide (fun b W hW => rend_ok b s k2 W hW hs hk)
  clear ks
  go_enter Tryz.func38, Tryz.ntmps38
  have hA : Rd (w.heap.size + 1) s 0 ((w.alloc (.cells #[.int .i64 0, .int .i64 0, .int .i64 0] 33)).alloc (.cells #[.string s, .int .i64 0] 103)) :=
    ⟨by simp [go_sem], by simp [go_sem], fun j => by simp, by simp⟩
  have hMA : Below w.heap.size w ((w.alloc (.cells #[.int .i64 0, .int .i64 0, .int .i64 0] 33)).alloc (.cells #[.string s, .int .i64 0] 103)) := ((Below.refl _ w).alloc (Nat.le_refl _) _).alloc (by simp) _
  have a0 : ((w.alloc (.cells #[.int .i64 0, .int .i64 0, .int .i64 0] 33)).alloc (.cells #[.string s, .int .i64 0] 103)).cell? ⟨w.heap.size, 0, none⟩ = some (.int .i64 0) ∧ ((w.alloc (.cells #[.int .i64 0, .int .i64 0, .int .i64 0] 33)).alloc (.cells #[.string s, .int .i64 0] 103)).cell? ⟨w.heap.size, 1, none⟩ = some (.int .i64 0) ∧ ((w.alloc (.cells #[.int .i64 0, .int .i64 0, .int .i64 0] 33)).alloc (.cells #[.string s, .int .i64 0] 103)).cell? ⟨w.heap.size, 2, none⟩ = some (.int .i64 0) ∧ (∀ j, ((w.alloc (.cells #[.int .i64 0, .int .i64 0, .int .i64 0] 33)).alloc (.cells #[.string s, .int .i64 0] 103)).frozen? ⟨w.heap.size, j, none⟩ = false) ∧ w.heap.size < ((w.alloc (.cells #[.int .i64 0, .int .i64 0, .int .i64 0] 33)).alloc (.cells #[.string s, .int .i64 0] 103)).heap.size :=
    ⟨by simp [go_sem], by simp [go_sem], by simp [go_sem], fun j => by simp, by simp; omega⟩
  go_wp2_with fail
  refine (KS.out _ _ hA).mono ?_
  rintro e W1 ⟨rfl, hr1, hm1⟩
  have hne : w.heap.size ≠ w.heap.size + 1 := by omega
  have hb1 := box3k hm1 hne a0
  have hB1 := hide (hMA.trans (hm1.below (B := w.heap.size) (by omega) (by simp; omega)))
  clear hm1 hMA hA a0 KS
  have hr2 := hr1.later ((Below.refl _ W1).alloc (Nat.le_refl _) (.cells #[.int .i64 t, .int .i64 z, .int .i64 o] 33))
  go_wp2_with fail
  refine (KE.out _ _ hr2).mono ?_
  rintro e W2 ⟨rfl, hr3, hm2⟩
  obtain ⟨a0, a1, a2, fa, ha⟩ := box3m (w.heap.size + 1) W1 W2 _ _ _ _ hm2 hr1.lt
  have hl1 := hr1.lt
  obtain ⟨d0, d1, d2, fd, hd⟩ := box3k hm2 hne (W := W1.alloc (.cells #[.int .i64 t, .int .i64 z, .int .i64 o] 33)) (c0 := .int .i64 0) (c1 := .int .i64 0) (c2 := .int .i64 0) (by
    obtain ⟨p0, p1, p2, p3, p4⟩ := hb1
    exact ⟨by rw [World.cell?_alloc_past _ _ _ p4]; exact p0, by rw [World.cell?_alloc_past _ _ _ p4]; exact p1, by rw [World.cell?_alloc_past _ _ _ p4]; exact p2, fun j => by rw [World.frozen?_alloc_old _ _ ⟨w.heap.size, j, none⟩ (Nat.ne_of_lt p4)]; exact p3 j, by simp; omega⟩)
  have hB2 := hide ((hB1.out.alloc hB1.out.size (.cells #[.int .i64 t, .int .i64 z, .int .i64 o] 33)).trans (hm2.below (B := w.heap.size) (by omega) (by simp; omega)))
  clear hm2 hB1 hb1 hr1 hr2
  have hw1 : w.heap.size ≠ W1.heap.size := by omega
  go_wp2_with fail
  refine bodyPost_ret (v := .tuple #[.agg #[.int .i64 t, .int .i64 z, .int .i64 o], .nilIface]) (by simp [results, Tryz.results38, go_sem, d0, d1, d2]) rfl ⟨rfl, ?_⟩
  exact ((hB2.out.setCell (Nat.le_refl _) _).setCell (Nat.le_refl _) _).setCell (Nat.le_refl _) _
end Go.Proofs.YtafaacliphdndaaGreatDoor
namespace Go.Proofs.YtafaacliphdndaaGreatDoor
open Go.RowKit Go.Shelf
set_option linter.unusedVariables false
set_option linter.unusedSimpArgs false

/-- what a wrapper of package plain keeps: its result's cells, what it has been told, all that was -/
def PK (C c : Nat) (t z o : Value) (w X : World) : Prop :=
  (X.cell? ⟨C, 0, none⟩ = some (.int .i64 0) ∧ X.cell? ⟨C, 1, none⟩ = some (.int .i64 0) ∧ X.cell? ⟨C, 2, none⟩ = some (.int .i64 0) ∧ ∀ j, X.frozen? ⟨C, j, none⟩ = false) ∧
  (X.cell? ⟨c, 0, none⟩ = some t ∧ X.cell? ⟨c, 1, none⟩ = some z ∧ X.cell? ⟨c, 2, none⟩ = some o) ∧ C < X.heap.size ∧ c < X.heap.size ∧ w.heap.size ≤ C ∧ Below w.heap.size w X
theorem PK.step {C c : Nat} {t z o : Value} {w X X' : World} {n : Nat} (h : PK C c t z o w X) (hx : Below (X.drewN n).heap.size (X.drewN n) X') : PK C c t z o w X' := by
  obtain ⟨⟨a0, a1, a2, fa⟩, ⟨d0, d1, d2⟩, hC, hc, hw, hB⟩ := h
  have hb : Below X.heap.size X X' := (below_drewN (Below.refl _ _) n).trans hx
  exact ⟨⟨(hb.cell (p := ⟨C, 0, none⟩) hC).trans a0, (hb.cell (p := ⟨C, 1, none⟩) hC).trans a1, (hb.cell (p := ⟨C, 2, none⟩) hC).trans a2, fun j => (hb.frozen (p := ⟨C, j, none⟩) hC).trans (fa j)⟩,
    ⟨(hb.cell (p := ⟨c, 0, none⟩) hc).trans d0, (hb.cell (p := ⟨c, 1, none⟩) hc).trans d1, (hb.cell (p := ⟨c, 2, none⟩) hc).trans d2⟩, Nat.lt_of_lt_of_le hC hb.size, Nat.lt_of_lt_of_le hc hb.size, hw, hB.trans (hb.mono hB.size)⟩
set_option maxRecDepth 100000 in
set_option maxHeartbeats 8000000 in
theorem pcparse_steps (s : ByteArray) (t z o : Int) (w : World)
    (kp : ∀ W, Calls Tryz.prog 38 #[.string s] W fun e w' => e = .returned (.tuple #[.agg #[.int .i64 t, .int .i64 z, .int .i64 o], .nilIface]) ∧ Below W.heap.size W w') :
    Calls Tryz.prog 17 #[.string s] w fun e w' => e = .returned (.tuple #[.agg #[.int .i64 t, .int .i64 z, .int .i64 o], .int .i64 0, .int .i64 (-1)]) ∧ Below w.heap.size w w' := by
  have KP := hide kp
  have KT := hide tell_nil
  have KW := hide where_nil
  clear kp
  go_enter Tryz.func17, Tryz.ntmps17
  go_wp2_with fail
  refine (KP.out _).mono ?_
  rintro e W1 ⟨rfl, hb1⟩
  have hl : w.heap.size < W1.heap.size := by have := hb1.size; simp at this; omega
  have hp : PK w.heap.size W1.heap.size (.int .i64 t) (.int .i64 z) (.int .i64 o) w (W1.alloc (.cells #[.int .i64 t, .int .i64 z, .int .i64 o] 33)) := by
    obtain ⟨x0, x1, x2, x3, x4⟩ := box3w w W1 _ _ _ _ hb1
    have x5 : ∀ j, W1.frozen? ⟨w.heap.size, j, none⟩ = false := fun j => by rw [hb1.frozen (p := ⟨w.heap.size, j, none⟩) (by simp)]; simp
    exact ⟨⟨by rw [World.cell?_alloc_past _ _ _ x3]; exact x0, by rw [World.cell?_alloc_past _ _ _ x3]; exact x1, by rw [World.cell?_alloc_past _ _ _ x3]; exact x2, fun j => by rw [World.frozen?_alloc_old _ _ ⟨w.heap.size, j, none⟩ (Nat.ne_of_lt x3)]; exact x5 j⟩,
      ⟨by simp [go_sem], by simp [go_sem], by simp [go_sem]⟩, by simp; omega, by simp, Nat.le_refl _, x4.alloc (Nat.le_of_lt x3) _⟩
  clear hb1 KP
  go_wp2_with fail
  generalize hV : W1.alloc (.cells #[.int .i64 t, .int .i64 z, .int .i64 o] 33) = V at *
  generalize hc : W1.heap.size = c at *
  generalize hC : w.heap.size = C at *
  have hp0 := hp
  obtain ⟨⟨a0, a1, a2, fa⟩, ⟨d0, d1, d2⟩, _, _, _, _⟩ := hp0
  have hne : C ≠ c := by omega
  go_region_with (first
    | (go_at_call 21; refine (KT.out _).mono ?_; rintro e X ⟨rfl, hx⟩; have hpx := PK.step hp hx; have hpy := hpx; obtain ⟨⟨x0, x1, x2, fx⟩, ⟨y0, y1, y2⟩, _, _, _, _⟩ := hpy; clear hx)
    | (go_at_call 39; refine (KW.out _).mono ?_; rintro e Y ⟨rfl, hy⟩; have hpz := PK.step (n := 0) hpx hy; obtain ⟨⟨u0, u1, u2, fu⟩, ⟨z0, z1, z2⟩, _, _, hwC, hBY⟩ := hpz; clear hy))
  all_goals
    go_wp2
    refine bodyPost_ret (v := .tuple #[.agg #[.int .i64 t, .int .i64 z, .int .i64 o], .int .i64 0, .int .i64 (-1)]) (by simp [results, Tryz.results17, go_sem, u0, u1, u2]) rfl ⟨rfl, ?_⟩
    rw [← hC]
    exact ((hBY.setCell (Nat.le_refl _) _).setCell (Nat.le_refl _) _).setCell (Nat.le_refl _) _
end Go.Proofs.YtafaacliphdndaaGreatDoor
