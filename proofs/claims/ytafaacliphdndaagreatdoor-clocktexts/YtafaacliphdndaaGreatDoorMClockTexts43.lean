/- ClockTexts: times as texts. -/
import Derived.Test.YtafaacliphdndaaGreatDoorMClockTexts42
namespace Go.Proofs.YtafaacliphdndaaGreatDoor
open Go.RowKit Go.Shelf
set_option linter.unusedVariables false
set_option linter.unusedSimpArgs false

set_option maxHeartbeats 1600000 in
theorem pcstamp_gen (t z o k : Int) (T : ByteArray) (w : World) (hd : Hd w)
    (kc : ∀ W, Below w.heap.size w W → Calls Tryz.prog 37 #[.agg #[.int .i64 t, .int .i64 z, .int .i64 o]] W fun e w' => e = .returned (.tuple #[.string T, ev k]) ∧ Below W.heap.size W w') :
    Calls Tryz.prog 15 #[.agg #[.int .i64 t, .int .i64 z, .int .i64 o]] w fun e w' => e = .returned (.tuple #[.string T, .int .i64 k]) ∧ Below w.heap.size w w' := by
  have KT := hide (fun W hW => tell_ev k W hW)
  have KC := hide kc
  have hb0 : Below w.heap.size w (w.alloc (.cells #[.int .i64 t, .int .i64 z, .int .i64 o] 33)) := (Below.refl _ w).alloc (Nat.le_refl _) _
  clear kc
  generalize ev k = E at *
  go_enter Tryz.func15, Tryz.ntmps15
  go_wp2_with fail
  refine (KC.out _ hb0).mono ?_
  rintro e W ⟨rfl, hb⟩
  have hB := hb0.trans (hb.mono (by simp))
  clear hb hb0
  go_wp2_with fail
  refine (KT.out _ (hd.later hB)).mono ?_
  rintro e W2 ⟨rfl, hb2⟩
  go_wp2
  go_ret2
  exact ⟨rfl, hB.trans (hb2.mono hB.size)⟩
/-- a stamp's text, or what is told: by the program and by the reference -/
theorem stamp_both (t z o : Int) (b1 : -9223372036854775808 ≤ t) (b2 : t < 9223372036854775808) (w0 : World) : ∃ (T : ByteArray) (k : Int),
    (∀ W, Tab W → Calls Tryz.prog 37 #[.agg #[.int .i64 t, .int .i64 z, .int .i64 o]] W fun e w' => e = .returned (.tuple #[.string T, ev k]) ∧ Below W.heap.size W w') ∧
    (∀ W, Tab W → Calls Tryz.prog 16 #[.agg #[.int .i64 t, .int .i64 z, .int .i64 o]] W fun e w' => e = .returned (.tuple #[.string T, .int .i64 k]) ∧ Below W.heap.size W w') := by
  obtain ⟨T, k, h1, h2, hT, rfl | rfl⟩ := text_both t b1 b2 w0
  · have e0 : ev 0 = .nilIface := by unfold ev; rw [if_pos rfl]
    rw [e0] at h1
    by_cases hz : z = 2
    · subst hz
      obtain ⟨O, j, g1, g2, hO, hj⟩ := off_both o
      exact ⟨_, j, fun W hW => stext_off t o j T O W hW hj (by omega) (by omega) h1 g1, fun W hW => rstext_off t o j T O W hW hj (by omega) (by omega) h2 g2⟩
    · have q2 : (z != 2) = true := by simpa using hz
      by_cases ho : o = 0
      · by_cases z0 : z = 0
        · exact ⟨T, 0, fun W hW => stext_plain t z o T T 0 W hW (by omega) ⟨q2, .inr ⟨ho, .inl ⟨z0, rfl, rfl⟩⟩⟩ h1, fun W hW => rstext_plain t z o T T 0 W hW (by omega) (.inr (.inr (.inr (.inl ⟨z0, ho, rfl, rfl⟩)))) h2⟩
        · by_cases z1 : z = 1
          · exact ⟨T ++ ⟨#[90]⟩, 0, fun W hW => stext_plain t z o T _ 0 W hW (by omega) ⟨q2, .inr ⟨ho, .inr (.inl ⟨z1, rfl, rfl⟩)⟩⟩ h1, fun W hW => rstext_plain t z o T _ 0 W hW (by omega) (.inr (.inr (.inr (.inr ⟨z1, ho, rfl, rfl⟩)))) h2⟩
          · exact ⟨⟨#[]⟩, 1, fun W hW => stext_plain t z o T _ 1 W hW (by omega) ⟨q2, .inr ⟨ho, .inr (.inr ⟨by simpa using z0, by simpa using z1, rfl, rfl⟩)⟩⟩ h1, fun W hW => rstext_plain t z o T _ 1 W hW (by omega) (by
              by_cases hn : z < 0
              · exact .inl ⟨hn, rfl, rfl⟩
              · exact .inr (.inl ⟨by omega, by omega, rfl, rfl⟩)) h2⟩
      · have q1 : (o != 0) = true := by simpa using ho
        exact ⟨⟨#[]⟩, 1, fun W hW => stext_plain t z o T _ 1 W hW (by omega) ⟨q2, .inl ⟨q1, rfl, rfl⟩⟩ h1, fun W hW => rstext_plain t z o T _ 1 W hW (by omega) (by
            by_cases hn : z < 0
            · exact .inl ⟨hn, rfl, rfl⟩
            · by_cases hp : 2 < z
              · exact .inr (.inl ⟨by omega, hp, rfl, rfl⟩)
              · exact .inr (.inr (.inl ⟨by omega, by omega, q1, rfl, rfl⟩))) h2⟩
  · exact ⟨⟨#[]⟩, 4, fun W hW => stext_no t z o T W hW h1, fun W hW => rstext_no t z o T W hW h2⟩

set_option maxRecDepth 100000 in
set_option maxHeartbeats 8000000 in
theorem ctexts_walk (t n a z o : Int) (w : World) (hd : HT w) (b1 : -9223372036854775808 ≤ t) (b2 : t < 9223372036854775808) (b3 : -9223372036854775808 ≤ a) (b4 : a < 9223372036854775808) :
    Calls Tryz.prog 5 #[.int .i64 t, .int .i64 n, .agg #[.int .i64 a, .int .i64 z, .int .i64 o]] w fun r w' => r = .returned (.bool true) ∧ Below w.heap.size w w' := by
  obtain ⟨T, k, p1, p2, _, _⟩ := text_both t b1 b2 w
  obtain ⟨O, j, p3, p4, _, _⟩ := off_both n
  obtain ⟨R, i, p5, p6⟩ := stamp_both a z o b3 b4 w
  have P1 := hide (fun W hW => pctext_gen t k T W (HT.hd hW) (fun V hV => p1 V (HT.later hW hV).tab))
  have P2 := hide p2
  have P3 := hide (fun W hW => pcoff_gen n j O W (HT.hd hW) (fun V hV => p3 V (HT.later hW hV).tab))
  have P4 := hide p4
  have P5 := hide (fun W hW => pcstamp_gen a z o i R W (HT.hd hW) (fun V hV => p5 V (HT.later hW hV).tab))
  have P6 := hide p6
  have HD := hide (fun W (h : Below w.heap.size w W) => hd.later h)
  have hB0 : Below w.heap.size w (w.alloc (.cells #[.int .i64 a, .int .i64 z, .int .i64 o] 33)) := (Below.refl _ w).alloc (Nat.le_refl _) _
  clear p1 p2 p3 p4 p5 p6 b1 b2 b3 b4 hd
  go_enter Tryz.func5, Tryz.ntmps5
  go_wp2_with fail
  refine (P1.out _ (HD.out _ hB0)).mono ?_
  rintro r W1 ⟨rfl, c1⟩
  obtain ⟨y0, y1, y2, hs1, hb1⟩ := box3w w W1 _ _ _ _ c1
  clear c1 hB0
  go_wp2_with fail
  refine (P2.out _ (HD.out _ hb1).tab).mono ?_
  rintro r W2 ⟨rfl, c2⟩
  have y0 := (c2.cell (p := ⟨w.heap.size, 0, none⟩) hs1).trans y0
  have y1 := (c2.cell (p := ⟨w.heap.size, 1, none⟩) hs1).trans y1
  have y2 := (c2.cell (p := ⟨w.heap.size, 2, none⟩) hs1).trans y2
  have hs2 : w.heap.size < W2.heap.size := Nat.lt_of_lt_of_le hs1 c2.size
  have hb2 := hb1.trans (c2.mono hb1.size)
  clear c2 hb1 hs1
  go_wp2_with fail
  refine (P3.out _ (HD.out _ hb2)).mono ?_
  rintro r W3 ⟨rfl, c3⟩
  have y0 := (c3.cell (p := ⟨w.heap.size, 0, none⟩) hs2).trans y0
  have y1 := (c3.cell (p := ⟨w.heap.size, 1, none⟩) hs2).trans y1
  have y2 := (c3.cell (p := ⟨w.heap.size, 2, none⟩) hs2).trans y2
  have hs3 : w.heap.size < W3.heap.size := Nat.lt_of_lt_of_le hs2 c3.size
  have hb3 := hb2.trans (c3.mono hb2.size)
  clear c3 hb2 hs2
  go_wp2_with fail
  refine (P4.out _ (HD.out _ hb3).tab).mono ?_
  rintro r W4 ⟨rfl, c4⟩
  have y0 := (c4.cell (p := ⟨w.heap.size, 0, none⟩) hs3).trans y0
  have y1 := (c4.cell (p := ⟨w.heap.size, 1, none⟩) hs3).trans y1
  have y2 := (c4.cell (p := ⟨w.heap.size, 2, none⟩) hs3).trans y2
  have hs4 : w.heap.size < W4.heap.size := Nat.lt_of_lt_of_le hs3 c4.size
  have hb4 := hb3.trans (c4.mono hb3.size)
  clear c4 hb3 hs3
  go_wp2_with fail
  refine (P5.out _ (HD.out _ hb4)).mono ?_
  rintro r W5 ⟨rfl, c5⟩
  have y0 := (c5.cell (p := ⟨w.heap.size, 0, none⟩) hs4).trans y0
  have y1 := (c5.cell (p := ⟨w.heap.size, 1, none⟩) hs4).trans y1
  have y2 := (c5.cell (p := ⟨w.heap.size, 2, none⟩) hs4).trans y2
  have hb5 := hb4.trans (c5.mono hb4.size)
  clear c5 hb4
  go_wp2_with fail
  refine (P6.out _ (HD.out _ hb5).tab).mono ?_
  rintro r W6 ⟨rfl, c6⟩
  have hb6 := hb5.trans (c6.mono hb5.size)
  clear c6 hb5 y0 y1 y2
  go_wp2
  go_ret
  exact ⟨rfl, hb6⟩
end Go.Proofs.YtafaacliphdndaaGreatDoor
