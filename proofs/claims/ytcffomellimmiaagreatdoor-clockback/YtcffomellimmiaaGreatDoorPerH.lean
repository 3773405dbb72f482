/- package clock: ParsePeriod. -/
import Derived.Test.YtcffomellimmiaaGreatDoorPerG
import Derived.Test.YtcffomellimmiaaGreatDoorPrsF
import Derived.Test.YtcffomellimmiaaGreatDoorPerB
namespace Go.Proofs.YtcffomellimmiaaGreatDoor
open Go.RowKit Go.Shelf
set_option linter.unusedVariables false
set_option linter.unusedSimpArgs false


set_option maxRecDepth 100000 in
set_option maxHeartbeats 8000000 in
theorem pperiod_ok (s : ByteArray) (bk : Bool) (E : Nat) (y m n d x : Int) (w : World) (hs : s.size ≤ 1000000000) (hE : s.size ≤ E) (hk : Nx s 0 45 bk) (hy : -1000000000000 ≤ y ∧ y ≤ 1000000000000) (hm : -1000000000000 ≤ m ∧ m ≤ 1000000000000) (hn : -1000000000000 ≤ n ∧ n ≤ 1000000000000) (hd : -1000000000000 ≤ d ∧ d ≤ 1000000000000) (hx : -1000000000000 ≤ x ∧ x ≤ 1000000000000)
    (kp : ∀ b W, Rd b s (if bk then 1 else 0) W → Calls Tryz.prog 55 #[.pointer (some ⟨b, 0, none⟩)] W fun e w' => e = .returned (.tuple #[.agg #[.int .i64 y, .int .i64 m, .int .i64 n, .int .i64 d, .int .i64 x], .nilIface]) ∧ Rd b s E w' ∧ Mv b W w') :
    Calls Tryz.prog 33 #[.string s] w fun e w' => e = .returned (.tuple #[(if bk then .agg #[.int .i64 (-y), .int .i64 (-m), .int .i64 (-n), .int .i64 (-d), .int .i64 (-x)] else .agg #[.int .i64 y, .int .i64 m, .int .i64 n, .int .i64 d, .int .i64 x]), .nilIface]) ∧ Below w.heap.size w w' := by
  have KS := hide (fun b W hW => skip_any b s 0 45 bk W hW hs hk (by omega))
  have KP := hide kp
  have KE := hide (fun b W hW => rend_ok b s E W hW hs hE)
  have KT := hide (fun W => turned_any y m n d x W hy hm hn hd hx)
  clear kp hk
  have hA : Rd (w.heap.size + 1) s 0 ((w.alloc (.cells #[.int .i64 0, .int .i64 0, .int .i64 0, .int .i64 0, .int .i64 0] 39)).alloc (.cells #[.string s, .int .i64 0] 89)) :=
    ⟨by simp [go_sem], by simp [go_sem], fun j => by simp, by simp⟩
  have hMA : Below w.heap.size w ((w.alloc (.cells #[.int .i64 0, .int .i64 0, .int .i64 0, .int .i64 0, .int .i64 0] 39)).alloc (.cells #[.string s, .int .i64 0] 89)) := ((Below.refl _ w).alloc (Nat.le_refl _) _).alloc (by simp) _
  have hf0 := five_below (W := w.alloc (.cells #[.int .i64 0, .int .i64 0, .int .i64 0, .int .i64 0, .int .i64 0] 39)) ((Below.refl _ _).alloc (Nat.le_refl _) (.cells #[.string s, .int .i64 0] 89)) (box5 w _ _ _ _ _ _ _ (Below.refl _ (w.alloc (.cells #[.int .i64 0, .int .i64 0, .int .i64 0, .int .i64 0, .int .i64 0] 39))))
  have hne : w.heap.size ≠ w.heap.size + 1 := by omega
  cases bk
  all_goals
    simp only [if_true, Bool.false_eq_true, if_false] at KS KP ⊢
    go_enter Tryz.func33, Tryz.ntmps33
    go_wp2_with fail
    refine (KS.out _ _ hA).mono ?_
    rintro e W1 ⟨rfl, hr1, hm1⟩
    have hf1 := five_mv hm1 hne hf0
    have hB1 := hide (hMA.trans (hm1.below (B := w.heap.size) (by omega) (by simp; omega)))
    clear hm1 hMA hA hf0
    go_wp2_with fail
    refine (KP.out _ _ hr1).mono ?_
    rintro e W2 ⟨rfl, hr2, hm2⟩
    have hf2 := five_mv hm2 hne hf1
    have hB2 := hide (hB1.out.trans (hm2.below (B := w.heap.size) (by omega) hB1.out.size))
    clear hm2 hB1 hf1 hr1
    have hbel : Below W2.heap.size W2 (W2.alloc (.cells #[.int .i64 y, .int .i64 m, .int .i64 n, .int .i64 d, .int .i64 x] 39)) := (Below.refl _ W2).alloc (Nat.le_refl _) _
    have hr3 := hr2.later hbel
    have hf3 := five_below hbel hf2
    have hg3 := box5 W2 _ _ _ _ _ _ _ (Below.refl _ (W2.alloc (.cells #[.int .i64 y, .int .i64 m, .int .i64 n, .int .i64 d, .int .i64 x] 39)))
    have hB3 := hide (hB2.out.trans (hbel.mono hB2.out.size))
    have hl2 := hr2.lt
    have hcb : W2.heap.size ≠ w.heap.size + 1 := by omega
    clear hbel hf2 hB2 hr2
    go_wp2_with fail
    refine (KE.out _ _ hr3).mono ?_
    rintro e W4 ⟨rfl, hr4, hm4⟩
    have hf4 := five_mv hm4 hne hf3
    have hg4 := five_mv hm4 hcb hg3
    have hB4 := hide (hB3.out.trans (hm4.below (B := w.heap.size) (by omega) hB3.out.size))
    clear hm4 hf3 hg3 hB3 hr3 hr4
  · obtain ⟨⟨f0, f1, f2, f3, f4⟩, ff, fl⟩ := hf4
    obtain ⟨⟨g0, g1, g2, g3, g4⟩, gf, gl⟩ := hg4
    obtain ⟨z0, z1, z2, z3, z4⟩ := five_read _ _ _ _ _ (.int .i64 y) (.int .i64 m) (.int .i64 n) (.int .i64 d) (.int .i64 x) f0 f1 f2 f3 f4
    go_wp2_with fail
    refine bodyPost_ret (v := .tuple #[.agg #[.int .i64 y, .int .i64 m, .int .i64 n, .int .i64 d, .int .i64 x], .nilIface]) (by simp [results, Tryz.results33, go_sem, z0, z1, z2, z3, z4]) rfl ⟨rfl, ?_⟩
    exact ((((hB4.out.setCell (Nat.le_refl _) _).setCell (Nat.le_refl _) _).setCell (Nat.le_refl _) _).setCell (Nat.le_refl _) _).setCell (Nat.le_refl _) _
  · obtain ⟨⟨g0, g1, g2, g3, g4⟩, gf, gl⟩ := hg4
    go_wp2_with fail
    refine (KT.out _).mono ?_
    rintro e W5 ⟨rfl, b5⟩
    obtain ⟨⟨f0, f1, f2, f3, f4⟩, ff, fl⟩ := five_below b5 hf4
    have hB5 := hide (hB4.out.trans (b5.mono hB4.out.size))
    obtain ⟨z0, z1, z2, z3, z4⟩ := five_read _ _ _ _ _ (.int .i64 (-y)) (.int .i64 (-m)) (.int .i64 (-n)) (.int .i64 (-d)) (.int .i64 (-x)) f0 f1 f2 f3 f4
    clear b5 hf4 hB4
    go_wp2_with fail
    refine bodyPost_ret (v := .tuple #[.agg #[.int .i64 (-y), .int .i64 (-m), .int .i64 (-n), .int .i64 (-d), .int .i64 (-x)], .nilIface]) (by simp [results, Tryz.results33, go_sem, z0, z1, z2, z3, z4]) rfl ⟨rfl, ?_⟩
    exact ((((hB5.out.setCell (Nat.le_refl _) _).setCell (Nat.le_refl _) _).setCell (Nat.le_refl _) _).setCell (Nat.le_refl _) _).setCell (Nat.le_refl _) _
set_option maxRecDepth 100000 in
set_option maxHeartbeats 8000000 in
theorem pperiod_err (s : ByteArray) (bk : Bool) (w : World) (hs : s.size ≤ 1000000000) (hk : Nx s 0 45 bk)
    (kp : ∀ b W, Rd b s (if bk then 1 else 0) W → Calls Tryz.prog 55 #[.pointer (some ⟨b, 0, none⟩)] W (PErr b W)) :
    Calls Tryz.prog 33 #[.string s] w fun e w' => ∃ B, e = .returned (.tuple #[.agg #[.int .i64 0, .int .i64 0, .int .i64 0, .int .i64 0, .int .i64 0], .iface 92 (.pointer (some ⟨B, 0, none⟩))]) ∧ AtB B w' ∧ w.heap.size ≤ B ∧ Below w.heap.size w w' := by
  have KS := hide (fun b W hW => skip_any b s 0 45 bk W hW hs hk (by omega))
  have KP := hide kp
  clear kp hk
  have hA : Rd (w.heap.size + 1) s 0 ((w.alloc (.cells #[.int .i64 0, .int .i64 0, .int .i64 0, .int .i64 0, .int .i64 0] 39)).alloc (.cells #[.string s, .int .i64 0] 89)) :=
    ⟨by simp [go_sem], by simp [go_sem], fun j => by simp, by simp⟩
  have hMA : Below w.heap.size w ((w.alloc (.cells #[.int .i64 0, .int .i64 0, .int .i64 0, .int .i64 0, .int .i64 0] 39)).alloc (.cells #[.string s, .int .i64 0] 89)) := ((Below.refl _ w).alloc (Nat.le_refl _) _).alloc (by simp) _
  have hf0 := five_below (W := w.alloc (.cells #[.int .i64 0, .int .i64 0, .int .i64 0, .int .i64 0, .int .i64 0] 39)) ((Below.refl _ _).alloc (Nat.le_refl _) (.cells #[.string s, .int .i64 0] 89)) (box5 w _ _ _ _ _ _ _ (Below.refl _ (w.alloc (.cells #[.int .i64 0, .int .i64 0, .int .i64 0, .int .i64 0, .int .i64 0] 39))))
  have hne : w.heap.size ≠ w.heap.size + 1 := by omega
  cases bk
  all_goals
    simp only [if_true, Bool.false_eq_true, if_false] at KS KP ⊢
    go_enter Tryz.func33, Tryz.ntmps33
    go_wp2_with fail
    refine (KS.out _ _ hA).mono ?_
    rintro e W1 ⟨rfl, hr1, hm1⟩
    have hf1 := five_mv hm1 hne hf0
    have hB1 := hide (hMA.trans (hm1.below (B := w.heap.size) (by omega) (by simp; omega)))
    have hl1 := hr1.lt
    clear hm1 hMA hA hf0
    go_wp2_with fail
    refine (KP.out _ _ hr1).mono ?_
    rintro e W2 ⟨B, rfl, hAt, hBB, hm2⟩
    have hf2 := five_mv hm2 hne hf1
    have hB2 := hide (hB1.out.trans (hm2.below (B := w.heap.size) (by omega) hB1.out.size))
    clear hm2 hB1 hf1 hr1
    have hbel : Below W2.heap.size W2 (W2.alloc (.cells #[.int .i64 0, .int .i64 0, .int .i64 0, .int .i64 0, .int .i64 0] 39)) := (Below.refl _ W2).alloc (Nat.le_refl _) _
    obtain ⟨⟨f0, f1, f2, f3, f4⟩, ff, fl⟩ := five_below hbel hf2
    have hAt3 := hAt.later hbel
    have hB3 := hide (hB2.out.trans (hbel.mono hB2.out.size))
    obtain ⟨z0, z1, z2, z3, z4⟩ := five_read _ _ _ _ _ (.int .i64 0) (.int .i64 0) (.int .i64 0) (.int .i64 0) (.int .i64 0) f0 f1 f2 f3 f4
    clear hbel hf2 hB2 hAt
    go_wp2_with fail
    refine bodyPost_ret (v := .tuple #[.agg #[.int .i64 0, .int .i64 0, .int .i64 0, .int .i64 0, .int .i64 0], .iface 92 (.pointer (some ⟨B, 0, none⟩))]) (by simp [results, Tryz.results33, go_sem, z0, z1, z2, z3, z4]) rfl ⟨B, rfl, at_set5 _ _ _ _ _ (by omega) hAt3, by omega, ?_⟩
    exact ((((hB3.out.setCell (Nat.le_refl _) _).setCell (Nat.le_refl _) _).setCell (Nat.le_refl _) _).setCell (Nat.le_refl _) _).setCell (Nat.le_refl _) _
end Go.Proofs.YtcffomellimmiaaGreatDoor
