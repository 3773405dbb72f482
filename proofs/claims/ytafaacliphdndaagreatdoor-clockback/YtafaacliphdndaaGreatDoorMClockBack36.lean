/- ClockTexts: times as texts. -/
import Derived.Test.YtafaacliphdndaaGreatDoorMClockBack34
import Derived.Test.YtafaacliphdndaaGreatDoorMClockBack31
import Derived.Test.YtafaacliphdndaaGreatDoorMClockBack35
namespace Go.Proofs.YtafaacliphdndaaGreatDoor
open Go.RowKit Go.Shelf
set_option linter.unusedVariables false
set_option linter.unusedSimpArgs false

/-- a period's text, none of whose parts is below 0 -/
def pbody (y m n d s : Nat) : ByteArray :=
  if s = 0 then ⟨#[80]⟩ ++ pt y 89 ++ pt m 77 ++ pt n 87 ++ pt d 68 else ⟨#[80]⟩ ++ pt y 89 ++ pt m 77 ++ pt n 87 ++ pt d 68 ++ ⟨#[84]⟩ ++ pt (s / 3600) 72 ++ pt (s % 3600 / 60) 77 ++ pt (s % 60) 83
theorem pbody_size (y m n d s : Nat) (h1 : y ≤ 1000000000000) (h2 : m ≤ 1000000000000) (h3 : n ≤ 1000000000000) (h4 : d ≤ 1000000000000) (h5 : s ≤ 1000000000000) : (pbody y m n d s).size ≤ 200 := by
  have z1 := pt_size y 89 h1
  have z2 := pt_size m 77 h2
  have z3 := pt_size n 87 h3
  have z4 := pt_size d 68 h4
  have z5 := pt_size (s / 3600) 72 (by omega)
  have z6 := pt_size (s % 3600 / 60) 77 (by omega)
  have z7 := pt_size (s % 60) 83 (by omega)
  have q1 : (⟨#[80]⟩ : ByteArray).size = 1 := rfl
  have q2 : (⟨#[84]⟩ : ByteArray).size = 1 := rfl
  unfold pbody
  split
  · simp only [ByteArray.size_append, q1]; omega
  · simp only [ByteArray.size_append, q1, q2]; omega
theorem partsText_any (y m n d s : Nat) (w : World) (ht : Tab w) (h1 : y ≤ 1000000000000) (h2 : m ≤ 1000000000000) (h3 : n ≤ 1000000000000) (h4 : d ≤ 1000000000000) (h5 : s ≤ 1000000000000) :
    Calls Tryz.prog 63 #[.agg #[.int .i64 y, .int .i64 m, .int .i64 n, .int .i64 d, .int .i64 s]] w fun e w' => e = .returned (.string (pbody y m n d s)) ∧ Below w.heap.size w w' := by
  by_cases h0 : s = 0
  · subst h0
    have e : pbody y m n d 0 = ⟨#[80]⟩ ++ pt y 89 ++ pt m 77 ++ pt n 87 ++ pt d 68 := by unfold pbody; rw [if_pos rfl]
    rw [e]
    exact partsText_days y m n d w ht h1 h2 h3 h4
  · have e : pbody y m n d s = ⟨#[80]⟩ ++ pt y 89 ++ pt m 77 ++ pt n 87 ++ pt d 68 ++ ⟨#[84]⟩ ++ pt (s / 3600) 72 ++ pt (s % 3600 / 60) 77 ++ pt (s % 60) 83 := by unfold pbody; rw [if_neg h0]
    rw [e]
    exact partsText_secs y m n d s _ _ _ w ht h1 h2 h3 h4 (by omega) (by omega) (by omega) (by omega) (by omega)
theorem turned_any (y m n d s : Int) (w : World) (hy : -1000000000000 ≤ y ∧ y ≤ 1000000000000) (hm : -1000000000000 ≤ m ∧ m ≤ 1000000000000) (hn : -1000000000000 ≤ n ∧ n ≤ 1000000000000) (hd : -1000000000000 ≤ d ∧ d ≤ 1000000000000) (hs : -1000000000000 ≤ s ∧ s ≤ 1000000000000) :
    Calls Tryz.prog 64 #[.agg #[.int .i64 y, .int .i64 m, .int .i64 n, .int .i64 d, .int .i64 s]] w fun e w' => e = .returned (.agg #[.int .i64 (-y), .int .i64 (-m), .int .i64 (-n), .int .i64 (-d), .int .i64 (-s)]) ∧ Below w.heap.size w w' := by
  go_enter Tryz.func64, Tryz.ntmps64
  go_wp2
  exact bodyPost_ret (v := .agg #[.int .i64 (-y), .int .i64 (-m), .int .i64 (-n), .int .i64 (-d), .int .i64 (-s)]) (by simp [results, Tryz.results64, go_sem]) rfl ⟨rfl, by repeat (first | exact (Below.refl _ w).alloc (Nat.le_refl _) _ | refine Below.alloc ?_ (by simp) _ | refine Below.setCell ?_ (by simp) _)⟩
set_option maxHeartbeats 1600000 in
theorem ptext_no (y m n d s : Int) (w : World) (hp : ¬ Small y m n d s) :
    Calls Tryz.prog 40 #[.agg #[.int .i64 y, .int .i64 m, .int .i64 n, .int .i64 d, .int .i64 s]] w fun e w' => e = .returned (.tuple #[.string ⟨#[]⟩, ev 4]) ∧ Below w.heap.size w w' := by
  have K := hide (fun W => check_no y m n d s W hp)
  clear hp
  go_enter Tryz.func40, Tryz.ntmps40
  go_wp2_with fail
  refine (K.out _).mono ?_
  rintro e W ⟨rfl, hb⟩
  have hB := ((Below.refl _ w).alloc (Nat.le_refl _) _).trans (hb.mono (by simp))
  go_wp2_with fail
  go_ret2
  exact ⟨rfl, hB⟩
set_option maxHeartbeats 1600000 in
theorem ptext_zero (w : World) :
    Calls Tryz.prog 40 #[.agg #[.int .i64 0, .int .i64 0, .int .i64 0, .int .i64 0, .int .i64 0]] w fun e w' => e = .returned (.tuple #[.string ⟨#[80, 84, 48, 83]⟩, .nilIface]) ∧ Below w.heap.size w w' := by
  have K := hide (fun W => check_ok 0 0 0 0 0 W (by omega) (by omega) (by omega) (by omega) (by omega))
  go_enter Tryz.func40, Tryz.ntmps40
  go_wp2_with fail
  refine (K.out _).mono ?_
  rintro e W ⟨rfl, hb⟩
  obtain ⟨⟨a0, a1, a2, a3, a4⟩, fz, hsz⟩ := box5 w W _ _ _ _ _ _ hb
  have hB := ((Below.refl _ w).alloc (Nat.le_refl _) _).trans (hb.mono (by simp))
  clear hb
  go_wp2_with fail
  go_ret2
  exact ⟨rfl, hB⟩
end Go.Proofs.YtafaacliphdndaaGreatDoor
namespace Go.Proofs.YtafaacliphdndaaGreatDoor
open Go.RowKit Go.Shelf
set_option linter.unusedVariables false
set_option linter.unusedSimpArgs false

set_option maxRecDepth 100000 in
set_option maxHeartbeats 4000000 in
theorem rstext_no (t z o : Int) (T : ByteArray) (w : World) (ht : Tab w)
    (kc : ∀ W, Tab W → Calls Tryz.prog 12 #[.int .i64 t] W fun e w' => e = .returned (.tuple #[.string T, (.int .i64 4)]) ∧ Below W.heap.size W w') :
    Calls Tryz.prog 16 #[.agg #[.int .i64 t, .int .i64 z, .int .i64 o]] w fun e w' => e = .returned (.tuple #[.string ⟨#[]⟩, (.int .i64 4)]) ∧ Below w.heap.size w w' := by
  have KC := hide kc
  have hd := hide (fun W (h : Below w.heap.size w W) => ht.later h)
  clear kc
  go_enter Tryz.func16, Tryz.ntmps16
  go_wp2_with fail
  refine (KC.out _ (hd.out _ ((Below.refl _ w).alloc (Nat.le_refl _) _))).mono ?_
  rintro e W1 ⟨rfl, b1⟩
  obtain ⟨a0, a1, a2, hsz, hB⟩ := box3w w W1 _ _ _ _ b1
  clear b1
  go_wp2_with fail
  go_ret2
  exact ⟨rfl, hB⟩
set_option maxRecDepth 100000 in
set_option maxHeartbeats 4000000 in
theorem rstext_off (t o j : Int) (T O : ByteArray) (w : World) (ht : Tab w) (hj : j = 0 ∨ j = 4) (hT : T.size ≤ 100) (hO : O.size ≤ 100)
    (kc : ∀ W, Tab W → Calls Tryz.prog 12 #[.int .i64 t] W fun e w' => e = .returned (.tuple #[.string T, .int .i64 0]) ∧ Below W.heap.size W w')
    (ko : ∀ W, Tab W → Calls Tryz.prog 14 #[.int .i64 o] W fun e w' => e = .returned (.tuple #[.string O, (.int .i64 j)]) ∧ Below W.heap.size W w') :
    Calls Tryz.prog 16 #[.agg #[.int .i64 t, .int .i64 2, .int .i64 o]] w fun e w' => e = .returned (.tuple #[.string (if j = 0 then T ++ O else ⟨#[]⟩), (.int .i64 j)]) ∧ Below w.heap.size w w' := by
  have KC := hide kc
  have KO := hide ko
  have hd := hide (fun W (h : Below w.heap.size w W) => ht.later h)
  have hs : T.size + O.size ≤ 1000 := by omega
  clear kc ko
  rcases hj with rfl | rfl
  · rw [if_pos rfl]
    go_enter Tryz.func16, Tryz.ntmps16
    go_wp2_with fail
    refine (KC.out _ (hd.out _ ((Below.refl _ w).alloc (Nat.le_refl _) _))).mono ?_
    rintro e W1 ⟨rfl, b1⟩
    obtain ⟨a0, a1, a2, hsz, hB⟩ := box3w w W1 _ _ _ _ b1
    clear b1
    go_wp2_with fail
    refine (KO.out _ (hd.out _ hB)).mono ?_
    rintro e W2 ⟨rfl, b2⟩
    have hB2 := hB.trans (b2.mono hB.size)
    clear b2
    go_wp2_with fail
    go_ret2
    exact ⟨rfl, hB2⟩
  · rw [if_neg (by decide)]
    go_enter Tryz.func16, Tryz.ntmps16
    go_wp2_with fail
    refine (KC.out _ (hd.out _ ((Below.refl _ w).alloc (Nat.le_refl _) _))).mono ?_
    rintro e W1 ⟨rfl, b1⟩
    obtain ⟨a0, a1, a2, hsz, hB⟩ := box3w w W1 _ _ _ _ b1
    clear b1
    go_wp2_with fail
    refine (KO.out _ (hd.out _ hB)).mono ?_
    rintro e W2 ⟨rfl, b2⟩
    have hB2 := hB.trans (b2.mono hB.size)
    clear b2
    go_wp2_with fail
    go_ret2
    exact ⟨rfl, hB2⟩
set_option maxRecDepth 100000 in
set_option maxHeartbeats 4000000 in
theorem rstext_plain (t z o : Int) (T R : ByteArray) (k : Int) (w : World) (ht : Tab w) (hT : T.size ≤ 100)
    (hz : z < 0 ∧ R = ⟨#[]⟩ ∧ k = 1 ∨ 0 ≤ z ∧ 2 < z ∧ R = ⟨#[]⟩ ∧ k = 1 ∨ 0 ≤ z ∧ z < 2 ∧ (o != 0) = true ∧ R = ⟨#[]⟩ ∧ k = 1 ∨ z = 0 ∧ o = 0 ∧ R = T ∧ k = 0 ∨ z = 1 ∧ o = 0 ∧ R = T ++ ⟨#[90]⟩ ∧ k = 0)
    (kc : ∀ W, Tab W → Calls Tryz.prog 12 #[.int .i64 t] W fun e w' => e = .returned (.tuple #[.string T, .int .i64 0]) ∧ Below W.heap.size W w') :
    Calls Tryz.prog 16 #[.agg #[.int .i64 t, .int .i64 z, .int .i64 o]] w fun e w' => e = .returned (.tuple #[.string R, (.int .i64 k)]) ∧ Below w.heap.size w w' := by
  have KC := hide kc
  have hd := hide (fun W (h : Below w.heap.size w W) => ht.later h)
  have hn := hide (app_nil T)
  have hs : T.size + (⟨#[90]⟩ : ByteArray).size ≤ 1000 := by have : (⟨#[90]⟩ : ByteArray).size = 1 := rfl; omega
  clear kc
  rcases hz with ⟨z1, rfl, rfl⟩ | ⟨z0, z1, rfl, rfl⟩ | ⟨z0, z1, o1, rfl, rfl⟩ | ⟨rfl, rfl, rfl, rfl⟩ | ⟨rfl, rfl, rfl, rfl⟩
  all_goals
    go_enter Tryz.func16, Tryz.ntmps16
    go_wp2_with fail
    refine (KC.out _ (hd.out _ ((Below.refl _ w).alloc (Nat.le_refl _) _))).mono ?_
    rintro e W1 ⟨rfl, b1⟩
    obtain ⟨a0, a1, a2, hsz, hB⟩ := box3w w W1 _ _ _ _ b1
    clear b1
    go_wp2_with fail
    go_ret2
    first | exact ⟨rfl, hB⟩ | exact ⟨by rw [hn.out]; rfl, hB⟩
end Go.Proofs.YtafaacliphdndaaGreatDoor
namespace Go.Proofs.YtafaacliphdndaaGreatDoor
open Go.RowKit Go.Shelf
set_option linter.unusedVariables false
set_option linter.unusedSimpArgs false

set_option maxHeartbeats 1600000 in
theorem pcstamp_gen (t z o k : Int) (T : ByteArray) (w : World) (hd : Hd w)
    (kc : ∀ W, Below w.heap.size w W → Calls Tryz.prog 37 #[.agg #[.int .i64 t, .int .i64 z, .int .i64 o]] W fun e w' => e = .returned (.tuple #[.string T, ev k]) ∧ Below W.heap.size W w') :
    Calls Tryz.prog 15 #[.agg #[.int .i64 t, .int .i64 z, .int .i64 o]] w fun e w' => e = .returned (.tuple #[.string T, .int .i64 k]) ∧ Below w.heap.size w w' := by
  have KT := hide (fun W hW => tell_ev k W hW)
  have KC := hide kc
  have hb0 : Below w.heap.size w (w.alloc (.cells #[.int .i64 t, .int .i64 z, .int .i64 o] 33)) := (Below.refl _ w).alloc (Nat.le_refl _) _
  clear kc
  generalize ev k = E at *
  go_enter Tryz.func15, Tryz.ntmps15
  go_wp2_with fail
  refine (KC.out _ hb0).mono ?_
  rintro e W ⟨rfl, hb⟩
  have hB := hb0.trans (hb.mono (by simp))
  clear hb hb0
  go_wp2_with fail
  refine (KT.out _ (hd.later hB)).mono ?_
  rintro e W2 ⟨rfl, hb2⟩
  go_wp2
  go_ret2
  exact ⟨rfl, hB.trans (hb2.mono hB.size)⟩
/-- a stamp's text, or what is told: by the program and by the reference -/
theorem stamp_both (t z o : Int) (b1 : -9223372036854775808 ≤ t) (b2 : t < 9223372036854775808) (w0 : World) : ∃ (T : ByteArray) (k : Int),
    (∀ W, Tab W → Calls Tryz.prog 37 #[.agg #[.int .i64 t, .int .i64 z, .int .i64 o]] W fun e w' => e = .returned (.tuple #[.string T, ev k]) ∧ Below W.heap.size W w') ∧
    (∀ W, Tab W → Calls Tryz.prog 16 #[.agg #[.int .i64 t, .int .i64 z, .int .i64 o]] W fun e w' => e = .returned (.tuple #[.string T, .int .i64 k]) ∧ Below W.heap.size W w') := by
  obtain ⟨T, k, h1, h2, hT, rfl | rfl⟩ := text_both t b1 b2 w0
  · have e0 : ev 0 = .nilIface := by unfold ev; rw [if_pos rfl]
    rw [e0] at h1
    by_cases hz : z = 2
    · subst hz
      obtain ⟨O, j, g1, g2, hO, hj⟩ := off_both o
      exact ⟨_, j, fun W hW => stext_off t o j T O W hW hj (by omega) (by omega) h1 g1, fun W hW => rstext_off t o j T O W hW hj (by omega) (by omega) h2 g2⟩
    · have q2 : (z != 2) = true := by simpa using hz
      by_cases ho : o = 0
      · by_cases z0 : z = 0
        · exact ⟨T, 0, fun W hW => stext_plain t z o T T 0 W hW (by omega) ⟨q2, .inr ⟨ho, .inl ⟨z0, rfl, rfl⟩⟩⟩ h1, fun W hW => rstext_plain t z o T T 0 W hW (by omega) (.inr (.inr (.inr (.inl ⟨z0, ho, rfl, rfl⟩)))) h2⟩
        · by_cases z1 : z = 1
          · exact ⟨T ++ ⟨#[90]⟩, 0, fun W hW => stext_plain t z o T _ 0 W hW (by omega) ⟨q2, .inr ⟨ho, .inr (.inl ⟨z1, rfl, rfl⟩)⟩⟩ h1, fun W hW => rstext_plain t z o T _ 0 W hW (by omega) (.inr (.inr (.inr (.inr ⟨z1, ho, rfl, rfl⟩)))) h2⟩
          · exact ⟨⟨#[]⟩, 1, fun W hW => stext_plain t z o T _ 1 W hW (by omega) ⟨q2, .inr ⟨ho, .inr (.inr ⟨by simpa using z0, by simpa using z1, rfl, rfl⟩)⟩⟩ h1, fun W hW => rstext_plain t z o T _ 1 W hW (by omega) (by
              by_cases hn : z < 0
              · exact .inl ⟨hn, rfl, rfl⟩
              · exact .inr (.inl ⟨by omega, by omega, rfl, rfl⟩)) h2⟩
      · have q1 : (o != 0) = true := by simpa using ho
        exact ⟨⟨#[]⟩, 1, fun W hW => stext_plain t z o T _ 1 W hW (by omega) ⟨q2, .inl ⟨q1, rfl, rfl⟩⟩ h1, fun W hW => rstext_plain t z o T _ 1 W hW (by omega) (by
            by_cases hn : z < 0
            · exact .inl ⟨hn, rfl, rfl⟩
            · by_cases hp : 2 < z
              · exact .inr (.inl ⟨by omega, hp, rfl, rfl⟩)
              · exact .inr (.inr (.inl ⟨by omega, by omega, q1, rfl, rfl⟩))) h2⟩
  · exact ⟨⟨#[]⟩, 4, fun W hW => stext_no t z o T W hW h1, fun W hW => rstext_no t z o T W hW h2⟩

set_option maxRecDepth 100000 in
set_option maxHeartbeats 8000000 in
theorem ctexts_walk (t n a z o : Int) (w : World) (hd : HT w) (b1 : -9223372036854775808 ≤ t) (b2 : t < 9223372036854775808) (b3 : -9223372036854775808 ≤ a) (b4 : a < 9223372036854775808) :
    Calls Tryz.prog 5 #[.int .i64 t, .int .i64 n, .agg #[.int .i64 a, .int .i64 z, .int .i64 o]] w fun r w' => r = .returned (.bool true) ∧ Below w.heap.size w w' := by
  obtain ⟨T, k, p1, p2, _, _⟩ := text_both t b1 b2 w
  obtain ⟨O, j, p3, p4, _, _⟩ := off_both n
  obtain ⟨R, i, p5, p6⟩ := stamp_both a z o b3 b4 w
  have P1 := hide (fun W hW => pctext_gen t k T W (HT.hd hW) (fun V hV => p1 V (HT.later hW hV).tab))
  have P2 := hide p2
  have P3 := hide (fun W hW => pcoff_gen n j O W (HT.hd hW) (fun V hV => p3 V (HT.later hW hV).tab))
  have P4 := hide p4
  have P5 := hide (fun W hW => pcstamp_gen a z o i R W (HT.hd hW) (fun V hV => p5 V (HT.later hW hV).tab))
  have P6 := hide p6
  have HD := hide (fun W (h : Below w.heap.size w W) => hd.later h)
  have hB0 : Below w.heap.size w (w.alloc (.cells #[.int .i64 a, .int .i64 z, .int .i64 o] 33)) := (Below.refl _ w).alloc (Nat.le_refl _) _
  clear p1 p2 p3 p4 p5 p6 b1 b2 b3 b4 hd
  go_enter Tryz.func5, Tryz.ntmps5
  go_wp2_with fail
  refine (P1.out _ (HD.out _ hB0)).mono ?_
  rintro r W1 ⟨rfl, c1⟩
  obtain ⟨y0, y1, y2, hs1, hb1⟩ := box3w w W1 _ _ _ _ c1
  clear c1 hB0
  go_wp2_with fail
  refine (P2.out _ (HD.out _ hb1).tab).mono ?_
  rintro r W2 ⟨rfl, c2⟩
  have y0 := (c2.cell (p := ⟨w.heap.size, 0, none⟩) hs1).trans y0
  have y1 := (c2.cell (p := ⟨w.heap.size, 1, none⟩) hs1).trans y1
  have y2 := (c2.cell (p := ⟨w.heap.size, 2, none⟩) hs1).trans y2
  have hs2 : w.heap.size < W2.heap.size := Nat.lt_of_lt_of_le hs1 c2.size
  have hb2 := hb1.trans (c2.mono hb1.size)
  clear c2 hb1 hs1
  go_wp2_with fail
  refine (P3.out _ (HD.out _ hb2)).mono ?_
  rintro r W3 ⟨rfl, c3⟩
  have y0 := (c3.cell (p := ⟨w.heap.size, 0, none⟩) hs2).trans y0
  have y1 := (c3.cell (p := ⟨w.heap.size, 1, none⟩) hs2).trans y1
  have y2 := (c3.cell (p := ⟨w.heap.size, 2, none⟩) hs2).trans y2
  have hs3 : w.heap.size < W3.heap.size := Nat.lt_of_lt_of_le hs2 c3.size
  have hb3 := hb2.trans (c3.mono hb2.size)
  clear c3 hb2 hs2
  go_wp2_with fail
  refine (P4.out _ (HD.out _ hb3).tab).mono ?_
  rintro r W4 ⟨rfl, c4⟩
  have y0 := (c4.cell (p := ⟨w.heap.size, 0, none⟩) hs3).trans y0
  have y1 := (c4.cell (p := ⟨w.heap.size, 1, none⟩) hs3).trans y1
  have y2 := (c4.cell (p := ⟨w.heap.size, 2, none⟩) hs3).trans y2
  have hs4 : w.heap.size < W4.heap.size := Nat.lt_of_lt_of_le hs3 c4.size
  have hb4 := hb3.trans (c4.mono hb3.size)
  clear c4 hb3 hs3
  go_wp2_with fail
  refine (P5.out _ (HD.out _ hb4)).mono ?_
  rintro r W5 ⟨rfl, c5⟩
  have y0 := (c5.cell (p := ⟨w.heap.size, 0, none⟩) hs4).trans y0
  have y1 := (c5.cell (p := ⟨w.heap.size, 1, none⟩) hs4).trans y1
  have y2 := (c5.cell (p := ⟨w.heap.size, 2, none⟩) hs4).trans y2
  have hb5 := hb4.trans (c5.mono hb4.size)
  clear c5 hb4
  go_wp2_with fail
  refine (P6.out _ (HD.out _ hb5).tab).mono ?_
  rintro r W6 ⟨rfl, c6⟩
  have hb6 := hb5.trans (c6.mono hb5.size)
  clear c6 hb5 y0 y1 y2
  go_wp2
  go_ret
  exact ⟨rfl, hb6⟩
end Go.Proofs.YtafaacliphdndaaGreatDoor
