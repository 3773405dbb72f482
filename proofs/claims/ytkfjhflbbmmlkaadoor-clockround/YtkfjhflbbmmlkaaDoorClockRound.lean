/- ClockRound: the period since a time, added to it, is the time; one month more is later. -/
import Derived.Test.YtkfjhflbbmmlkaaDoorClockG
namespace Go.Proofs.YtkfjhflbbmmlkaaDoor
open Go.RowKit Go.Shelf
set_option linter.unusedVariables false
set_option linter.unusedSimpArgs false

set_option maxRecDepth 100000 in
set_option maxHeartbeats 3200000 in
theorem since_late1 (a b : Int) (w : World) (h : a < -345600000000 ∨ 345600086399 < a) :
    Calls Tryd.prog 6 #[.int .i64 a, .int .i64 b] w fun e w' => e = .returned (.tuple #[.agg #[.int .i64 0, .int .i64 0, .int .i64 0, .int .i64 0, .int .i64 0], .iface 25 (.int .i64 4)]) ∧ Below w.heap.size w w' := by
  have KA := hide (fun W => tell_late a W h)
  clear h
  go_enter Tryd.func6, Tryd.ntmps6
  go_wp2_with fail
  refine (KA.out _).mono ?_
  rintro e W1 ⟨rfl, hb1⟩
  obtain ⟨⟨p0, p1, p2, p3, p4⟩, fz, zz⟩ := box5 w W1 _ _ _ _ _ _ hb1
  have hBw : Below w.heap.size w W1 := ((Below.refl _ w).alloc (Nat.le_refl _) _).trans (hb1.mono (by simp))
  clear hb1 KA
  go_wp2
  refine bodyPost_ret (v := .tuple #[.agg #[.int .i64 0, .int .i64 0, .int .i64 0, .int .i64 0, .int .i64 0], .iface 25 (.int .i64 4)]) (by simp [results, Tryd.results6, go_sem, zz, p0, p1, p2, p3, p4]) rfl ⟨rfl, ?_⟩
  exact (((((((hBw.setCell (Nat.le_refl _) _).setCell (Nat.le_refl _) _).setCell (Nat.le_refl _) _).setCell (Nat.le_refl _) _).setCell (Nat.le_refl _) _).alloc (by simp [World.setCell]; omega) _).alloc (by simp [World.setCell]; omega) _)

set_option maxRecDepth 100000 in
set_option maxHeartbeats 3200000 in
theorem since_no2 (a b y m d q c0 c1 c2 : Int) (w : World) (vD vC : Value)
    (ka : ∀ W, Calls Tryd.prog 9 #[.int .i64 a] W fun e w' => e = .returned (.tuple #[.agg #[.int .i64 1, .int .i64 y, .int .i64 m, .int .i64 d], .agg #[.int .i64 c0, .int .i64 c1, .int .i64 c2], .nilIface]) ∧ Below W.heap.size W w')
    (h : (∀ W, q = 4 ∧ Calls Tryd.prog 9 #[.int .i64 b] W fun e w' => e = .returned (.tuple #[.agg #[.int .i64 0, .int .i64 0, .int .i64 0, .int .i64 0], .agg #[.int .i64 0, .int .i64 0, .int .i64 0], .iface 25 (.int .i64 4)]) ∧ Below W.heap.size W w') ∨
      (∃ y' m' d' x0 x1 x2 : Int, q = 7 ∧ b < a ∧ ∀ W, Calls Tryd.prog 9 #[.int .i64 b] W fun e w' => e = .returned (.tuple #[.agg #[.int .i64 1, .int .i64 y', .int .i64 m', .int .i64 d'], .agg #[.int .i64 x0, .int .i64 x1, .int .i64 x2], .nilIface]) ∧ Below W.heap.size W w')) :
    Calls Tryd.prog 6 #[.int .i64 a, .int .i64 b] w fun e w' => e = .returned (.tuple #[.agg #[.int .i64 0, .int .i64 0, .int .i64 0, .int .i64 0, .int .i64 0], .iface 25 (.int .i64 q)]) ∧ Below w.heap.size w w' := by
  have KA := hide ka
  have H := hide h
  clear ka h
  go_enter Tryd.func6, Tryd.ntmps6
  go_wp2_with fail
  refine (KA.out _).mono ?_
  rintro e W1 ⟨rfl, hb1⟩
  have z1 : w.heap.size < W1.heap.size := by have := hb1.size; simp at this; omega
  have hB1 := (hb1.alloc hb1.size (.cells #[.int .i64 1, .int .i64 y, .int .i64 m, .int .i64 d] 40)).alloc (by have := hb1.size; simp at this ⊢; omega) (.cells #[.int .i64 c0, .int .i64 c1, .int .i64 c2] 42)
  clear hb1 KA
  rcases H.out with k | ⟨y', m', d', x0, x1, x2, rfl, hab, k⟩
  · have K := hide (fun W => (k W).2)
    obtain rfl := (k w).1
    clear H k
    go_wp2_with fail
    refine (K.out _).mono ?_
    rintro e W2 ⟨rfl, hb2⟩
    have z2 : w.heap.size < W2.heap.size := by have := hb2.size; simp at this; omega
    have hB2 := hB1.trans (hb2.mono (by simp; omega))
    obtain ⟨⟨p0, p1, p2, p3, p4⟩, fz, zz⟩ := box5 w W2 _ _ _ _ _ _ hB2
    have hBw : Below w.heap.size w W2 := ((Below.refl _ w).alloc (Nat.le_refl _) _).trans (hB2.mono (by simp))
    clear hb2 hB1 hB2 K
    go_wp2
    refine bodyPost_ret (v := .tuple #[.agg #[.int .i64 0, .int .i64 0, .int .i64 0, .int .i64 0, .int .i64 0], .iface 25 (.int .i64 4)]) (by simp [results, Tryd.results6, go_sem, zz, p0, p1, p2, p3, p4]) rfl ⟨rfl, ?_⟩
    exact (((((((hBw.setCell (Nat.le_refl _) _).setCell (Nat.le_refl _) _).setCell (Nat.le_refl _) _).setCell (Nat.le_refl _) _).setCell (Nat.le_refl _) _).alloc (by simp [World.setCell]; omega) _).alloc (by simp [World.setCell]; omega) _)
  · have K := hide k
    clear H k
    go_wp2_with fail
    refine (K.out _).mono ?_
    rintro e W2 ⟨rfl, hb2⟩
    have z2 : w.heap.size < W2.heap.size := by have := hb2.size; simp at this; omega
    have hB2 := hB1.trans (hb2.mono (by simp; omega))
    obtain ⟨⟨p0, p1, p2, p3, p4⟩, fz, zz⟩ := box5 w W2 _ _ _ _ _ _ hB2
    have hBw : Below w.heap.size w W2 := ((Below.refl _ w).alloc (Nat.le_refl _) _).trans (hB2.mono (by simp))
    clear hb2 hB1 hB2 K
    go_wp2
    refine bodyPost_ret (v := .tuple #[.agg #[.int .i64 0, .int .i64 0, .int .i64 0, .int .i64 0, .int .i64 0], .iface 25 (.int .i64 7)]) (by simp [results, Tryd.results6, go_sem, zz, p0, p1, p2, p3, p4]) rfl ⟨rfl, ?_⟩
    exact (((((((hBw.setCell (Nat.le_refl _) _).setCell (Nat.le_refl _) _).setCell (Nat.le_refl _) _).setCell (Nat.le_refl _) _).setCell (Nat.le_refl _) _).alloc (by simp [World.setCell]; omega) _).alloc (by simp [World.setCell]; omega) _)
/-- what is wrong with two times -/
theorem psince_no (a b : Int) (w : World) (hd : Hd w) (h : (a < -345600000000 ∨ 345600086399 < a) ∨ (b < -345600000000 ∨ 345600086399 < b) ∨ b < a) :
    ∃ q : Int, q ≠ 0 ∧ Calls Tryd.prog 4 #[.int .i64 a, .int .i64 b] w fun e w' => e = .returned (.tuple #[.agg #[.int .i64 0, .int .i64 0, .int .i64 0, .int .i64 0, .int .i64 0], .int .i64 q]) ∧ Below w.heap.size w w' := by
  by_cases ha : a < -345600000000 ∨ 345600086399 < a
  · exact ⟨4, by omega, psince_steps a b w _ _ _ _ _ 4 _ (fun W => since_late1 a b W ha) (fun W hb => tell_err _ W (hd.later hb))⟩
  · obtain ⟨y, m, d, hD, _, _⟩ := date_ex1 (a / 86400) w (by omega) (by omega)
    have ka := fun W => ctell_ok a y m d W (by omega) (by omega) hD
    by_cases hb : b < -345600000000 ∨ 345600086399 < b
    · exact ⟨4, by omega, psince_steps a b w _ _ _ _ _ 4 _ (fun W => since_no2 a b y m d 4 _ _ _ W (.int .i64 0) (.int .i64 0) ka (.inl (fun W => ⟨rfl, tell_late b W hb⟩))) (fun W hb => tell_err _ W (hd.later hb))⟩
    · obtain ⟨y', m', d', hE, _, _⟩ := date_ex1 (b / 86400) w (by omega) (by omega)
      exact ⟨7, by omega, psince_steps a b w _ _ _ _ _ 7 _ (fun W => since_no2 a b y m d 7 _ _ _ W (.int .i64 0) (.int .i64 0) ka (.inr ⟨y', m', d', _, _, _, rfl, by omega, fun W => ctell_ok b y' m' d' W (by omega) (by omega) hE⟩)) (fun W hb => tell_err _ W (hd.later hb))⟩

/-! ### the law -/
set_option maxRecDepth 100000 in
set_option maxHeartbeats 3200000 in
theorem cround_no (a b q : Int) (w : World) (hq : q ≠ 0)
    (k : Calls Tryd.prog 4 #[.int .i64 a, .int .i64 b] w fun e w' => e = .returned (.tuple #[.agg #[.int .i64 0, .int .i64 0, .int .i64 0, .int .i64 0, .int .i64 0], .int .i64 q]) ∧ Below w.heap.size w w') :
    Calls Tryd.prog 3 #[.int .i64 a, .int .i64 b] w fun e w' => e = .returned (.bool true) ∧ Below w.heap.size w w' := by
  have g : (q != 0) = true := by simpa using hq
  have K := hide k
  clear k hq
  go_enter Tryd.func3, Tryd.ntmps3
  go_wp2_with fail
  refine K.out.mono ?_
  rintro e W ⟨rfl, hb⟩
  have hs := hb.size
  clear K
  go_wp2
  go_ret
  exact ⟨rfl, hb.alloc hs _⟩
set_option maxRecDepth 100000 in
set_option maxHeartbeats 8000000 in
theorem cround_steps (a b Y M D S t q : Int) (w : World) (hY : 0 ≤ Y) (hY2 : Y ≤ 1000000) (hM : 0 ≤ M) (hM2 : M ≤ 11) (hD : 0 ≤ D) (hD2 : D ≤ 30) (hS : 0 ≤ S) (hS2 : S < 86400) (ht : q ≠ 0 ∨ (q = 0 ∧ b < t))
    (k1 : ∀ W, Calls Tryd.prog 4 #[.int .i64 a, .int .i64 b] W fun e w' => e = .returned (.tuple #[.agg #[.int .i64 Y, .int .i64 M, .int .i64 0, .int .i64 D, .int .i64 S], .int .i64 0]) ∧ Below W.heap.size W w')
    (k2 : ∀ W, Calls Tryd.prog 5 #[.int .i64 a, .agg #[.int .i64 Y, .int .i64 M, .int .i64 0, .int .i64 D, .int .i64 S]] W fun e w' => e = .returned (.tuple #[.int .i64 b, .int .i64 0]) ∧ Below W.heap.size W w')
    (k3 : ∀ W, Below w.heap.size w W → Calls Tryd.prog 5 #[.int .i64 a, .agg #[.int .i64 Y, .int .i64 (M + 1), .int .i64 0, .int .i64 0, .int .i64 0]] W fun e w' => e = .returned (.tuple #[.int .i64 t, .int .i64 q]) ∧ Below W.heap.size W w') :
    Calls Tryd.prog 3 #[.int .i64 a, .int .i64 b] w fun e w' => e = .returned (.bool true) ∧ Below w.heap.size w w' := by
  have K1 := hide k1
  have K2 := hide k2
  have K3 := hide k3
  have HT := hide ht
  clear k1 k2 k3 ht
  go_enter Tryd.func3, Tryd.ntmps3
  go_wp2_with fail
  refine (K1.out _).mono ?_
  rintro e W ⟨rfl, hb⟩
  have hB := hb.alloc hb.size (.cells #[.int .i64 Y, .int .i64 M, .int .i64 0, .int .i64 D, .int .i64 S] 24)
  have hs := hb.size
  clear K1 hb
  go_wp2_with fail
  refine (K2.out _).mono ?_
  rintro e X ⟨rfl, hx⟩
  obtain ⟨⟨p0, p1, p2, p3, p4⟩, fz, zz⟩ := box5 W X _ _ _ _ _ _ hx
  have hBX := hB.trans (hx.mono (by simp; omega))
  clear hx hB K2 fz
  go_wp2_with fail
  refine (K3.out _ hBX).mono ?_
  rintro e Z ⟨rfl, hz⟩
  have hBZ := hBX.trans (hz.mono hBX.size)
  clear hz hBX K3 p0 p1 p2 p3 p4
  rcases HT.out with hq | ⟨rfl, hlt⟩
  · have g : (q != 0) = true := by simpa using hq
    clear HT hq
    go_wp2
    go_ret
    exact ⟨rfl, hBZ⟩
  · clear HT
    go_wp2
    go_ret
    exact ⟨ret_bool (by simp; try omega), hBZ⟩

theorem cround_walk (a b : Int) (w : World) (hd : Hd w) :
    Calls Tryd.prog 3 #[.int .i64 a, .int .i64 b] w fun e w' => e = .returned (.bool true) ∧ Below w.heap.size w w' := by
  by_cases h : (a < -345600000000 ∨ 345600086399 < a) ∨ (b < -345600000000 ∨ 345600086399 < b) ∨ b < a
  · obtain ⟨q, hq, k⟩ := psince_no a b w hd h
    exact cround_no a b q w hq k
  · have a1 : -345600000000 ≤ a := by omega
    have a2 : a ≤ 345600086399 := by omega
    have b1 : -345600000000 ≤ b := by omega
    have b2 : b ≤ 345600086399 := by omega
    have hab : a ≤ b := by omega
    obtain ⟨y, m, d, hD, y1, y2⟩ := date_ex1 (a / 86400) w (by omega) (by omega)
    obtain ⟨F, v, hF, ks⟩ := since_ok a b y m d w a1 a2 b1 b2 hab y1 y2 hD
    obtain ⟨f0, f1, fl, fv, fle, fd, fn⟩ := hF
    have hs : (-1000000000000 ≤ F / 12 ∧ F / 12 ≤ 1000000000000) ∧ (-1000000000000 ≤ F % 12 ∧ F % 12 ≤ 1000000000000) := by omega
    have fl2 := fl.2
    have e1 : 12 * (F / 12) + F % 12 = F := by omega
    have k2 := fun W => (add_val a y m d (F / 12) (F % 12) 0 ((b - v) / 86400) ((b - v) % 86400) W a1 a2 y1 y2 hD ⟨hs.1, hs.2, by omega, by omega, by omega⟩ F (by omega)).1 ⟨fl, by omega⟩
    have eb : (Alm.amon (12 * y + (m - 1)) d F + 7 * 0 + (b - v) / 86400) * 86400 + (a % 86400 + (b - v) % 86400) = b := by omega
    rw [eb, tval_ok b b1 b2] at k2
    have k3 := fun W => add_val a y m d (F / 12) (F % 12 + 1) 0 0 0 W a1 a2 y1 y2 hD ⟨hs.1, by omega, by omega, by omega, by omega⟩ (F + 1) (by omega)
    have k1 := fun W => psince_steps a b W _ _ _ _ _ 0 _ ks (fun W' _ => tell_nil W')
    have kp2 := fun W => padd_ok a _ _ _ _ _ b W k2
    by_cases hL : Leads (12 * y + (m - 1)) d (F + 1)
    · have hl2 := hL.2
      have kt := fun W => (k3 W).1 ⟨hL, by omega⟩
      have et : (Alm.amon (12 * y + (m - 1)) d (F + 1) + 7 * 0 + 0) * 86400 + (a % 86400 + 0) = 86400 * Alm.amon (12 * y + (m - 1)) d (F + 1) + a % 86400 := by omega
      rw [et, tval_ok _ (by omega) (by omega)] at kt
      exact cround_steps a b _ _ _ _ _ 0 w (by omega) (by omega) (by omega) (by omega) (by omega) (by omega) (by omega) (by omega) (.inr ⟨rfl, fn⟩) k1 kp2 (fun W _ => padd_ok a _ _ _ _ _ _ W kt)
    · have kt := fun W => (k3 W).2 (fun h => hL h.1)
      exact cround_steps a b _ _ _ _ 0 4 w (by omega) (by omega) (by omega) (by omega) (by omega) (by omega) (by omega) (by omega) (.inl (by omega)) k1 kp2 (fun W hb => padd_no a _ _ _ _ _ 4 W (hd.later hb) kt)
end Go.Proofs.YtkfjhflbbmmlkaaDoor
