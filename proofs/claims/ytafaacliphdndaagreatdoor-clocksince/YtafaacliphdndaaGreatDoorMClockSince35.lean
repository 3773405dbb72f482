/- ClockSince: the period between two times. -/
import Derived.Test.YtafaacliphdndaaGreatDoorMClockSince34
import Derived.Test.YtafaacliphdndaaGreatDoorMClockSince23
namespace Go.Proofs.YtafaacliphdndaaGreatDoor
open Go.RowKit Go.Shelf
set_option linter.unusedVariables false
set_option linter.unusedSimpArgs false

set_option maxRecDepth 100000 in
set_option maxHeartbeats 3200000 in
theorem rsince_no (a b e f q : Int) (y m d c0 c1 c2 y' m' d' b0 b1 b2 z z' : Int) (w : World)
    (ka : ∀ W, Calls Tryz.prog 33 #[.int .i64 a] W fun r w' => r = .returned (.tuple #[.agg #[.int .i64 z, .int .i64 y, .int .i64 m, .int .i64 d], .agg #[.int .i64 c0, .int .i64 c1, .int .i64 c2], .int .i64 e]) ∧ Below W.heap.size W w')
    (kb : ∀ W, Calls Tryz.prog 33 #[.int .i64 b] W fun r w' => r = .returned (.tuple #[.agg #[.int .i64 z', .int .i64 y', .int .i64 m', .int .i64 d'], .agg #[.int .i64 b0, .int .i64 b1, .int .i64 b2], .int .i64 f]) ∧ Below W.heap.size W w')
    (h : (e = 4 ∧ q = 4) ∨ (e = 0 ∧ f = 4 ∧ q = 4) ∨ (e = 0 ∧ f = 0 ∧ b < a ∧ q = 7)) :
    Calls Tryz.prog 10 #[.int .i64 a, .int .i64 b] w fun r w' => r = .returned (.tuple #[.agg #[.int .i64 0, .int .i64 0, .int .i64 0, .int .i64 0, .int .i64 0], .int .i64 q]) ∧ Below w.heap.size w w' := by
  have KA := hide ka
  have KB := hide kb
  have H := hide h
  clear ka kb h
  go_enter Tryz.func10, Tryz.ntmps10
  go_wp2_with fail
  refine (KA.out _).mono ?_
  rintro r W1 ⟨rfl, hb1⟩
  have z1' : w.heap.size < W1.heap.size := by have := hb1.size; simp at this; omega
  go_wp2_with fail
  refine (KB.out _).mono ?_
  rintro r W2 ⟨rfl, hb2⟩
  obtain ⟨⟨e0, e1, e2, e3⟩, z2'⟩ := two_boxes W1 W2 _ _ _ _ _ _ _ hb2
  have z3 : W1.heap.size < W2.heap.size := by omega
  have hB2 : Below (w.alloc (.cells #[.int .i64 0, .int .i64 0, .int .i64 0, .int .i64 0, .int .i64 0] 24)).heap.size (w.alloc (.cells #[.int .i64 0, .int .i64 0, .int .i64 0, .int .i64 0, .int .i64 0] 24)) W2 := ((hb1.alloc hb1.size _).alloc (by have := hb1.size; simp at this ⊢; omega) _).trans (hb2.mono (by simp; omega))
  have hBw := ((Below.refl w.heap.size w).alloc (Nat.le_refl _) (.cells #[.int .i64 0, .int .i64 0, .int .i64 0, .int .i64 0, .int .i64 0] 24)).trans (hB2.mono (by simp))
  obtain ⟨⟨p0, p1, p2, p3, p4⟩, fz, zz⟩ := box5 w W2 _ _ _ _ _ _ hB2
  have z4 : w.heap.size < W2.heap.size := by omega
  clear hb1 hb2 KA KB hB2
  rcases H.out with ⟨rfl, rfl⟩ | ⟨rfl, rfl, rfl⟩ | ⟨rfl, rfl, hlt, rfl⟩
  · clear H
    go_wp2
    refine bodyPost_ret (v := .tuple #[.agg #[.int .i64 0, .int .i64 0, .int .i64 0, .int .i64 0, .int .i64 0], .int .i64 4]) (by simp [results, Tryz.results10, go_sem, zz, z4, p0, p1, p2, p3, p4]) rfl ⟨rfl, ?_⟩
    exact (((((((hBw.setCell (Nat.le_refl _) _).setCell (Nat.le_refl _) _).setCell (Nat.le_refl _) _).setCell (Nat.le_refl _) _).setCell (Nat.le_refl _) _).alloc (by simp [World.setCell]; omega) _).alloc (by simp [World.setCell]; omega) _)
  · clear H
    go_wp2
    refine bodyPost_ret (v := .tuple #[.agg #[.int .i64 0, .int .i64 0, .int .i64 0, .int .i64 0, .int .i64 0], .int .i64 4]) (by simp [results, Tryz.results10, go_sem, zz, z4, p0, p1, p2, p3, p4]) rfl ⟨rfl, ?_⟩
    exact (((((((hBw.setCell (Nat.le_refl _) _).setCell (Nat.le_refl _) _).setCell (Nat.le_refl _) _).setCell (Nat.le_refl _) _).setCell (Nat.le_refl _) _).alloc (by simp [World.setCell]; omega) _).alloc (by simp [World.setCell]; omega) _)
  · clear H
    go_wp2
    refine bodyPost_ret (v := .tuple #[.agg #[.int .i64 0, .int .i64 0, .int .i64 0, .int .i64 0, .int .i64 0], .int .i64 7]) (by simp [results, Tryz.results10, go_sem, zz, z4, p0, p1, p2, p3, p4]) rfl ⟨rfl, ?_⟩
    exact (((((((hBw.setCell (Nat.le_refl _) _).setCell (Nat.le_refl _) _).setCell (Nat.le_refl _) _).setCell (Nat.le_refl _) _).setCell (Nat.le_refl _) _).alloc (by simp [World.setCell]; omega) _).alloc (by simp [World.setCell]; omega) _)

/-- what both answer where a time is out of range or the times stand the wrong way round -/
theorem both_no (a b : Int) (w : World) (A1 : -9223372036854775808 ≤ a) (A2 : a < 9223372036854775808) (B1 : -9223372036854775808 ≤ b) (B2 : b < 9223372036854775808) (h : (a < -345600000000 ∨ 345600086399 < a) ∨ (b < -345600000000 ∨ 345600086399 < b) ∨ b < a) :
    ∃ q : Int, (∀ W, Hd W → Calls Tryz.prog 9 #[.int .i64 a, .int .i64 b] W fun e w' => e = .returned (.tuple #[.agg #[.int .i64 0, .int .i64 0, .int .i64 0, .int .i64 0, .int .i64 0], .int .i64 q]) ∧ Below W.heap.size W w') ∧
      (∀ W, Calls Tryz.prog 10 #[.int .i64 a, .int .i64 b] W fun e w' => e = .returned (.tuple #[.agg #[.int .i64 0, .int .i64 0, .int .i64 0, .int .i64 0, .int .i64 0], .int .i64 q]) ∧ Below W.heap.size W w') := by
  have rok : ∀ t : Int, -345600000000 ≤ t → t ≤ 345600086399 → ∃ y m d, Alm.IsDate 1 (t / 86400) y m d ∧ ∀ W, Calls Tryz.prog 33 #[.int .i64 t] W fun r w' => r = .returned (.tuple #[.agg #[.int .i64 1, .int .i64 y, .int .i64 m, .int .i64 d], .agg #[.int .i64 (t % 86400 / 3600), .int .i64 (t % 86400 % 3600 / 60), .int .i64 (t % 86400 % 60)], .int .i64 0]) ∧ Below W.heap.size W w' := by
    intro t t1 t2
    obtain ⟨y, m, d, hD, y1, y2⟩ := date_ex1 (t / 86400) w (by omega) (by omega)
    exact ⟨y, m, d, hD, fun W => rtell_ok t y m d W t1 t2 y1 y2 hD⟩
  by_cases ha : a < -345600000000 ∨ 345600086399 < a
  · refine ⟨4, fun W hW => psince_steps a b W _ _ _ _ _ 4 _ (fun W' => since_late1 a b W' ha) (fun W' hb => tell_err _ W' (hW.later hb)), fun W => ?_⟩
    by_cases hb : b < -345600000000 ∨ 345600086399 < b
    · exact rsince_no a b 4 4 4 _ _ _ _ _ _ _ _ _ _ _ _ _ _ W (fun W' => rtell_no a W' A1 A2 ha) (fun W' => rtell_no b W' B1 B2 hb) (.inl ⟨rfl, rfl⟩)
    · obtain ⟨y', m', d', _, kb⟩ := rok b (by omega) (by omega)
      exact rsince_no a b 4 0 4 _ _ _ _ _ _ _ _ _ _ _ _ _ _ W (fun W' => rtell_no a W' A1 A2 ha) kb (.inl ⟨rfl, rfl⟩)
  · obtain ⟨y, m, d, hD, ka⟩ := rok a (by omega) (by omega)
    have ka' := fun W => ctell_ok a y m d W (by omega) (by omega) hD
    by_cases hb : b < -345600000000 ∨ 345600086399 < b
    · exact ⟨4, fun W hW => psince_steps a b W _ _ _ _ _ 4 _ (fun W' => since_no2 a b y m d 4 _ _ _ W' (.int .i64 0) (.int .i64 0) ka' (.inl (fun W'' => ⟨rfl, tell_late b W'' hb⟩))) (fun W' hb => tell_err _ W' (hW.later hb)),
        fun W => rsince_no a b 0 4 4 _ _ _ _ _ _ _ _ _ _ _ _ _ _ W ka (fun W' => rtell_no b W' B1 B2 hb) (.inr (.inl ⟨rfl, rfl, rfl⟩))⟩
    · obtain ⟨y', m', d', hE, kb⟩ := rok b (by omega) (by omega)
      exact ⟨7, fun W hW => psince_steps a b W _ _ _ _ _ 7 _ (fun W' => since_no2 a b y m d 7 _ _ _ W' (.int .i64 0) (.int .i64 0) ka' (.inr ⟨y', m', d', _, _, _, rfl, by omega, fun W'' => ctell_ok b y' m' d' W'' (by omega) (by omega) hE⟩)) (fun W' hb => tell_err _ W' (hW.later hb)),
        fun W => rsince_no a b 0 0 7 _ _ _ _ _ _ _ _ _ _ _ _ _ _ W ka kb (.inr (.inr ⟨rfl, rfl, by omega, rfl⟩))⟩

set_option maxHeartbeats 3200000 in
theorem csinces_steps (a b v0 v1 v2 v3 v4 q : Int) (w : World) (hd : Hd w)
    (k1 : ∀ W, Hd W → Calls Tryz.prog 9 #[.int .i64 a, .int .i64 b] W fun r w' => r = .returned (.tuple #[.agg #[.int .i64 v0, .int .i64 v1, .int .i64 v2, .int .i64 v3, .int .i64 v4], .int .i64 q]) ∧ Below W.heap.size W w')
    (k2 : ∀ W, Calls Tryz.prog 10 #[.int .i64 a, .int .i64 b] W fun r w' => r = .returned (.tuple #[.agg #[.int .i64 v0, .int .i64 v1, .int .i64 v2, .int .i64 v3, .int .i64 v4], .int .i64 q]) ∧ Below W.heap.size W w') :
    Calls Tryz.prog 4 #[.int .i64 a, .int .i64 b] w fun r w' => r = .returned (.bool true) ∧ Below w.heap.size w w' := by
  have K1 := hide (k1 _ hd)
  have K2 := hide k2
  clear k1 k2
  go_enter Tryz.func4, Tryz.ntmps4
  go_wp2_with fail
  refine K1.out.mono ?_
  rintro r W ⟨rfl, hb⟩
  clear K1
  go_wp2_with fail
  refine (K2.out _).mono ?_
  rintro r W2 ⟨rfl, hb2⟩
  obtain ⟨⟨a0, a1, a2, a3, a4⟩, fz, hz⟩ := box5 W W2 _ _ _ _ _ _ hb2
  have hs := hb.size
  have hB2 : Below w.heap.size w W2 := (hb.alloc hs _).trans (hb2.mono (by simp; omega))
  clear K2 hb2
  go_wp2
  go_ret
  exact ⟨rfl, hB2.alloc (by omega) _⟩
theorem csince_walk (a b : Int) (w : World) (hd : Hd w) (A1 : -9223372036854775808 ≤ a) (A2 : a < 9223372036854775808) (B1 : -9223372036854775808 ≤ b) (B2 : b < 9223372036854775808) :
    Calls Tryz.prog 4 #[.int .i64 a, .int .i64 b] w fun e w' => e = .returned (.bool true) ∧ Below w.heap.size w w' := by
  by_cases h : (a < -345600000000 ∨ 345600086399 < a) ∨ (b < -345600000000 ∨ 345600086399 < b) ∨ b < a
  · obtain ⟨q, k1, k2⟩ := both_no a b w A1 A2 B1 B2 h
    exact csinces_steps a b _ _ _ _ _ q w hd k1 k2
  · have a1 : -345600000000 ≤ a := by omega
    have a2 : a ≤ 345600086399 := by omega
    have b1 : -345600000000 ≤ b := by omega
    have b2 : b ≤ 345600086399 := by omega
    have hab : a ≤ b := by omega
    obtain ⟨y, m, d, hD, y1, y2⟩ := date_ex1 (a / 86400) w (by omega) (by omega)
    obtain ⟨y', m', d', hE, z1, z2⟩ := date_ex1 (b / 86400) w (by omega) (by omega)
    obtain ⟨F, v, hF, ks⟩ := since_ok a b y m d w a1 a2 b1 b2 hab y1 y2 hD
    obtain ⟨i1, i2, i3, i4, i5⟩ := hD.idx
    obtain ⟨j1, j2, j3, j4, j5⟩ := hE.idx
    have hm2 : m ≤ 12 := by have := hD.m2; have := Alm.months_g y; omega
    have hp2 : m' ≤ 12 := by have := hE.m2; have := Alm.months_g y'; omega
    have hFM : F ≤ 12 * (y' - y) + m' - m := by
      have hv := hF.eq
      have hl := hF.le
      have bd := Alm.amon_bd (12 * y + (m - 1)) d F i2
      have := (Alm.idx_of_day (b / 86400) (12 * y' + (m' - 1)) d' j1 j2 j3 (12 * y + (m - 1) + F)).1 (by omega)
      omega
    have ra := fun W => rtell_ok a y m d W a1 a2 y1 y2 hD
    have rb := fun W => rtell_ok b y' m' d' W b1 b2 z1 z2 hE
    exact csinces_steps a b _ _ _ _ _ 0 w hd (fun W hW => psince_steps a b W _ _ _ _ _ 0 _ ks (fun W' _ => tell_nil W'))
      (fun W => rsince_steps a b y m d y' m' d' F v _ _ _ _ _ _ W a1 a2 b1 b2 hab y1 y2 hD.m1 hm2 z1 z2 hE.m1 hp2 i2 hD hF hFM ra rb)
end Go.Proofs.YtafaacliphdndaaGreatDoor
