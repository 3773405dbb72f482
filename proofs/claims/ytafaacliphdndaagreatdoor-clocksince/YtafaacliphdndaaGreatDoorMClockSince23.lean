/- ClockRound: the period since a time, added to it, is the time; one month more is later. -/
import Derived.Test.YtafaacliphdndaaGreatDoorMClockSince22
namespace Go.Proofs.YtafaacliphdndaaGreatDoor
open Go.RowKit Go.Shelf
set_option linter.unusedVariables false
set_option linter.unusedSimpArgs false

set_option maxRecDepth 100000 in
set_option maxHeartbeats 3200000 in
theorem since_late1 (a b : Int) (w : World) (h : a < -345600000000 ∨ 345600086399 < a) :
    Calls Tryz.prog 32 #[.int .i64 a, .int .i64 b] w fun e w' => e = .returned (.tuple #[.agg #[.int .i64 0, .int .i64 0, .int .i64 0, .int .i64 0, .int .i64 0], .iface 25 (.int .i64 4)]) ∧ Below w.heap.size w w' := by
  have KA := hide (fun W => tell_late a W h)
  clear h
  go_enter Tryz.func32, Tryz.ntmps32
  go_wp2_with fail
  refine (KA.out _).mono ?_
  rintro e W1 ⟨rfl, hb1⟩
  obtain ⟨⟨p0, p1, p2, p3, p4⟩, fz, zz⟩ := box5 w W1 _ _ _ _ _ _ hb1
  have hBw : Below w.heap.size w W1 := ((Below.refl _ w).alloc (Nat.le_refl _) _).trans (hb1.mono (by simp))
  clear hb1 KA
  go_wp2
  refine bodyPost_ret (v := .tuple #[.agg #[.int .i64 0, .int .i64 0, .int .i64 0, .int .i64 0, .int .i64 0], .iface 25 (.int .i64 4)]) (by simp [results, Tryz.results32, go_sem, zz, p0, p1, p2, p3, p4]) rfl ⟨rfl, ?_⟩
  exact (((((((hBw.setCell (Nat.le_refl _) _).setCell (Nat.le_refl _) _).setCell (Nat.le_refl _) _).setCell (Nat.le_refl _) _).setCell (Nat.le_refl _) _).alloc (by simp [World.setCell]; omega) _).alloc (by simp [World.setCell]; omega) _)

set_option maxRecDepth 100000 in
set_option maxHeartbeats 3200000 in
theorem since_no2 (a b y m d q c0 c1 c2 : Int) (w : World) (vD vC : Value)
    (ka : ∀ W, Calls Tryz.prog 54 #[.int .i64 a] W fun e w' => e = .returned (.tuple #[.agg #[.int .i64 1, .int .i64 y, .int .i64 m, .int .i64 d], .agg #[.int .i64 c0, .int .i64 c1, .int .i64 c2], .nilIface]) ∧ Below W.heap.size W w')
    (h : (∀ W, q = 4 ∧ Calls Tryz.prog 54 #[.int .i64 b] W fun e w' => e = .returned (.tuple #[.agg #[.int .i64 0, .int .i64 0, .int .i64 0, .int .i64 0], .agg #[.int .i64 0, .int .i64 0, .int .i64 0], .iface 25 (.int .i64 4)]) ∧ Below W.heap.size W w') ∨
      (∃ y' m' d' x0 x1 x2 : Int, q = 7 ∧ b < a ∧ ∀ W, Calls Tryz.prog 54 #[.int .i64 b] W fun e w' => e = .returned (.tuple #[.agg #[.int .i64 1, .int .i64 y', .int .i64 m', .int .i64 d'], .agg #[.int .i64 x0, .int .i64 x1, .int .i64 x2], .nilIface]) ∧ Below W.heap.size W w')) :
    Calls Tryz.prog 32 #[.int .i64 a, .int .i64 b] w fun e w' => e = .returned (.tuple #[.agg #[.int .i64 0, .int .i64 0, .int .i64 0, .int .i64 0, .int .i64 0], .iface 25 (.int .i64 q)]) ∧ Below w.heap.size w w' := by
  have KA := hide ka
  have H := hide h
  clear ka h
  go_enter Tryz.func32, Tryz.ntmps32
  go_wp2_with fail
  refine (KA.out _).mono ?_
  rintro e W1 ⟨rfl, hb1⟩
  have z1 : w.heap.size < W1.heap.size := by have := hb1.size; simp at this; omega
  have hB1 := (hb1.alloc hb1.size (.cells #[.int .i64 1, .int .i64 y, .int .i64 m, .int .i64 d] 55)).alloc (by have := hb1.size; simp at this ⊢; omega) (.cells #[.int .i64 c0, .int .i64 c1, .int .i64 c2] 68)
  clear hb1 KA
  rcases H.out with k | ⟨y', m', d', x0, x1, x2, rfl, hab, k⟩
  · have K := hide (fun W => (k W).2)
    obtain rfl := (k w).1
    clear H k
    go_wp2_with fail
    refine (K.out _).mono ?_
    rintro e W2 ⟨rfl, hb2⟩
    have z2 : w.heap.size < W2.heap.size := by have := hb2.size; simp at this; omega
    have hB2 := hB1.trans (hb2.mono (by simp; omega))
    obtain ⟨⟨p0, p1, p2, p3, p4⟩, fz, zz⟩ := box5 w W2 _ _ _ _ _ _ hB2
    have hBw : Below w.heap.size w W2 := ((Below.refl _ w).alloc (Nat.le_refl _) _).trans (hB2.mono (by simp))
    clear hb2 hB1 hB2 K
    go_wp2
    refine bodyPost_ret (v := .tuple #[.agg #[.int .i64 0, .int .i64 0, .int .i64 0, .int .i64 0, .int .i64 0], .iface 25 (.int .i64 4)]) (by simp [results, Tryz.results32, go_sem, zz, p0, p1, p2, p3, p4]) rfl ⟨rfl, ?_⟩
    exact (((((((hBw.setCell (Nat.le_refl _) _).setCell (Nat.le_refl _) _).setCell (Nat.le_refl _) _).setCell (Nat.le_refl _) _).setCell (Nat.le_refl _) _).alloc (by simp [World.setCell]; omega) _).alloc (by simp [World.setCell]; omega) _)
  · have K := hide k
    clear H k
    go_wp2_with fail
    refine (K.out _).mono ?_
    rintro e W2 ⟨rfl, hb2⟩
    have z2 : w.heap.size < W2.heap.size := by have := hb2.size; simp at this; omega
    have hB2 := hB1.trans (hb2.mono (by simp; omega))
    obtain ⟨⟨p0, p1, p2, p3, p4⟩, fz, zz⟩ := box5 w W2 _ _ _ _ _ _ hB2
    have hBw : Below w.heap.size w W2 := ((Below.refl _ w).alloc (Nat.le_refl _) _).trans (hB2.mono (by simp))
    clear hb2 hB1 hB2 K
    go_wp2
    refine bodyPost_ret (v := .tuple #[.agg #[.int .i64 0, .int .i64 0, .int .i64 0, .int .i64 0, .int .i64 0], .iface 25 (.int .i64 7)]) (by simp [results, Tryz.results32, go_sem, zz, p0, p1, p2, p3, p4]) rfl ⟨rfl, ?_⟩
    exact (((((((hBw.setCell (Nat.le_refl _) _).setCell (Nat.le_refl _) _).setCell (Nat.le_refl _) _).setCell (Nat.le_refl _) _).setCell (Nat.le_refl _) _).alloc (by simp [World.setCell]; omega) _).alloc (by simp [World.setCell]; omega) _)
/-- what is wrong with two times -/
theorem psince_no (a b : Int) (w : World) (hd : Hd w) (h : (a < -345600000000 ∨ 345600086399 < a) ∨ (b < -345600000000 ∨ 345600086399 < b) ∨ b < a) :
    ∃ q : Int, q ≠ 0 ∧ Calls Tryz.prog 9 #[.int .i64 a, .int .i64 b] w fun e w' => e = .returned (.tuple #[.agg #[.int .i64 0, .int .i64 0, .int .i64 0, .int .i64 0, .int .i64 0], .int .i64 q]) ∧ Below w.heap.size w w' := by
  by_cases ha : a < -345600000000 ∨ 345600086399 < a
  · exact ⟨4, by omega, psince_steps a b w _ _ _ _ _ 4 _ (fun W => since_late1 a b W ha) (fun W hb => tell_err _ W (hd.later hb))⟩
  · obtain ⟨y, m, d, hD, _, _⟩ := date_ex1 (a / 86400) w (by omega) (by omega)
    have ka := fun W => ctell_ok a y m d W (by omega) (by omega) hD
    by_cases hb : b < -345600000000 ∨ 345600086399 < b
    · exact ⟨4, by omega, psince_steps a b w _ _ _ _ _ 4 _ (fun W => since_no2 a b y m d 4 _ _ _ W (.int .i64 0) (.int .i64 0) ka (.inl (fun W => ⟨rfl, tell_late b W hb⟩))) (fun W hb => tell_err _ W (hd.later hb))⟩
    · obtain ⟨y', m', d', hE, _, _⟩ := date_ex1 (b / 86400) w (by omega) (by omega)
      exact ⟨7, by omega, psince_steps a b w _ _ _ _ _ 7 _ (fun W => since_no2 a b y m d 7 _ _ _ W (.int .i64 0) (.int .i64 0) ka (.inr ⟨y', m', d', _, _, _, rfl, by omega, fun W => ctell_ok b y' m' d' W (by omega) (by omega) hE⟩)) (fun W hb => tell_err _ W (hd.later hb))⟩

/-! ### the law -/
end Go.Proofs.YtafaacliphdndaaGreatDoor
