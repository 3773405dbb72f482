/- StampText: package clock's, and the reference's. -/
import Derived.Test.YtafaacliphdndaaGreatDoorMClockBack34
namespace Go.Proofs.YtafaacliphdndaaGreatDoor
open Go.RowKit Go.Shelf
set_option linter.unusedVariables false
set_option linter.unusedSimpArgs false

set_option maxHeartbeats 1600000 in
theorem text_no (t : Int) (w : World) (h : t < -345600000000 ∨ 345600086399 < t) :
    Calls Tryz.prog 34 #[.int .i64 t] w fun e w' => e = .returned (.tuple #[.string ⟨#[]⟩, ev 4]) ∧ Below w.heap.size w w' := by
  have KC := hide (fun W => tell_late t W h)
  clear h
  go_enter Tryz.func34, Tryz.ntmps34
  go_wp2_with fail
  refine (KC.out _).mono ?_
  rintro e W1 ⟨rfl, b1⟩
  have hB : Below w.heap.size w ((W1.alloc (.cells #[.int .i64 0, .int .i64 0, .int .i64 0, .int .i64 0] 55)).alloc (.cells #[.int .i64 0, .int .i64 0, .int .i64 0] 68)) := (b1.alloc b1.size _).alloc (by have := b1.size; simp; omega) _
  go_wp2_with fail
  go_ret2
  exact ⟨rfl, hB⟩
set_option maxHeartbeats 1600000 in
theorem rtext_no (t : Int) (w : World) (b1 : -9223372036854775808 ≤ t) (b2 : t < 9223372036854775808) (h : t < -345600000000 ∨ 345600086399 < t) :
    Calls Tryz.prog 12 #[.int .i64 t] w fun e w' => e = .returned (.tuple #[.string ⟨#[]⟩, .int .i64 4]) ∧ Below w.heap.size w w' := by
  have KC := hide (fun W => rtell_no t W b1 b2 h)
  clear h b1 b2
  go_enter Tryz.func12, Tryz.ntmps12
  go_wp2_with fail
  refine (KC.out _).mono ?_
  rintro e W1 ⟨rfl, b1⟩
  have hB : Below w.heap.size w ((W1.alloc (.cells #[.int .i64 0, .int .i64 0, .int .i64 0, .int .i64 0] 55)).alloc (.cells #[.int .i64 0, .int .i64 0, .int .i64 0] 68)) := (b1.alloc b1.size _).alloc (by have := b1.size; simp; omega) _
  go_wp2_with fail
  go_ret2
  exact ⟨rfl, hB⟩
theorem pctext_gen (t k : Int) (T : ByteArray) (w : World) (hd : Hd w)
    (kc : ∀ W, Below w.heap.size w W → Calls Tryz.prog 34 #[.int .i64 t] W fun e w' => e = .returned (.tuple #[.string T, ev k]) ∧ Below W.heap.size W w') :
    Calls Tryz.prog 11 #[.int .i64 t] w fun e w' => e = .returned (.tuple #[.string T, .int .i64 k]) ∧ Below w.heap.size w w' := by
  have KT := hide (fun W hW => tell_ev k W hW)
  have KC := hide (kc w (Below.refl _ _))
  clear kc
  generalize ev k = E at *
  go_enter Tryz.func11, Tryz.ntmps11
  go_wp2_with fail
  refine KC.out.mono ?_
  rintro e W ⟨rfl, hb⟩
  go_wp2_with fail
  refine (KT.out _ (hd.later hb)).mono ?_
  rintro e W2 ⟨rfl, hb2⟩
  go_wp2
  go_ret2
  exact ⟨rfl, hb.trans (hb2.mono hb.size)⟩
theorem pcoff_gen (t k : Int) (T : ByteArray) (w : World) (hd : Hd w)
    (kc : ∀ W, Below w.heap.size w W → Calls Tryz.prog 36 #[.int .i64 t] W fun e w' => e = .returned (.tuple #[.string T, ev k]) ∧ Below W.heap.size W w') :
    Calls Tryz.prog 13 #[.int .i64 t] w fun e w' => e = .returned (.tuple #[.string T, .int .i64 k]) ∧ Below w.heap.size w w' := by
  have KT := hide (fun W hW => tell_ev k W hW)
  have KC := hide (kc w (Below.refl _ _))
  clear kc
  generalize ev k = E at *
  go_enter Tryz.func13, Tryz.ntmps13
  go_wp2_with fail
  refine KC.out.mono ?_
  rintro e W ⟨rfl, hb⟩
  go_wp2_with fail
  refine (KT.out _ (hd.later hb)).mono ?_
  rintro e W2 ⟨rfl, hb2⟩
  go_wp2
  go_ret2
  exact ⟨rfl, hb.trans (hb2.mono hb.size)⟩

/-- a time's text, or what is told: by the program and by the reference -/
theorem text_both (t : Int) (b1 : -9223372036854775808 ≤ t) (b2 : t < 9223372036854775808) (w0 : World) : ∃ (T : ByteArray) (k : Int),
    (∀ W, Tab W → Calls Tryz.prog 34 #[.int .i64 t] W fun e w' => e = .returned (.tuple #[.string T, ev k]) ∧ Below W.heap.size W w') ∧
    (∀ W, Tab W → Calls Tryz.prog 12 #[.int .i64 t] W fun e w' => e = .returned (.tuple #[.string T, .int .i64 k]) ∧ Below W.heap.size W w') ∧ T.size ≤ 21 ∧ (k = 0 ∨ k = 4) := by
  by_cases ht : t < -345600000000 ∨ 345600086399 < t
  · exact ⟨⟨#[]⟩, 4, fun W _ => text_no t W ht, fun W _ => rtext_no t W b1 b2 ht, by decide, .inr rfl⟩
  · obtain ⟨y, mo, d, hD, y1, y2⟩ := date_ex1 (t / 86400) w0 (by omega) (by omega)
    have hb : 1 ≤ mo ∧ mo ≤ 13 ∧ 1 ≤ d ∧ d ≤ 31 := by
      have b1 := Alm.mlen_bd 1 y mo hD.m1 hD.m2
      have b2 := Alm.months_bd 1 y
      have := hD.m1; have := hD.m2; have := hD.d1; have := hD.d2
      omega
    obtain ⟨M, hM⟩ : ∃ M : Nat, mo = M := ⟨mo.toNat, by omega⟩
    obtain ⟨D, hDD⟩ : ∃ D : Nat, d = D := ⟨d.toNat, by omega⟩
    have hc : clk (t % 86400) = .agg #[.int .i64 (((t % 86400).toNat / 3600 : Nat) : Int), .int .i64 (((t % 86400).toNat % 3600 / 60 : Nat) : Int), .int .i64 (((t % 86400).toNat % 60 : Nat) : Int)] := by
      unfold clk
      have a1 : t % 86400 / 3600 = (((t % 86400).toNat / 3600 : Nat) : Int) := by omega
      have a2 : t % 86400 % 3600 / 60 = (((t % 86400).toNat % 3600 / 60 : Nat) : Int) := by omega
      have a3 : t % 86400 % 60 = (((t % 86400).toNat % 60 : Nat) : Int) := by omega
      rw [a1, a2, a3]
    have k1 := fun W => ctell_ok t y mo d W (by omega) (by omega) hD
    have k2 := fun W => rtell_ok t y mo d W (by omega) (by omega) y1 y2 hD
    rw [hc, hM, hDD] at k1 k2
    exact ⟨_, 0, fun W hW => text_steps t y M D _ _ _ W hW y1 y2 (by omega) (by omega) (by omega) (by omega) (by omega) k1, fun W hW => rtext_steps t y M D _ _ _ W hW y1 y2 (by omega) (by omega) (by omega) (by omega) (by omega) k2,
      Tx.txt_size _ _ _ _ _ _ y1 y2 (by omega) (by omega) (by omega) (by omega) (by omega), .inl rfl⟩
/-- an offset's text, or what is told -/
theorem off_both (n : Int) : ∃ (T : ByteArray) (k : Int),
    (∀ W, Tab W → Calls Tryz.prog 36 #[.int .i64 n] W fun e w' => e = .returned (.tuple #[.string T, ev k]) ∧ Below W.heap.size W w') ∧
    (∀ W, Tab W → Calls Tryz.prog 14 #[.int .i64 n] W fun e w' => e = .returned (.tuple #[.string T, .int .i64 k]) ∧ Below W.heap.size W w') ∧ T.size ≤ 6 ∧ (k = 0 ∨ k = 4) := by
  rcases Obad.dec n with h | ⟨h1, h2, h3⟩
  · exact ⟨⟨#[]⟩, 4, fun W _ => offText_no n W h, fun W _ => roffText_no n W h, by decide, .inr rfl⟩
  · have hd : (60 : Int) ∣ n := Int.dvd_of_tmod_eq_zero h3
    by_cases h0 : n < 0
    · obtain ⟨k, hk⟩ : ∃ k : Nat, -n = k := ⟨(-n).toNat, by omega⟩
      exact ⟨otx 45 k, 0, fun W hW => offText_neg k n W hW hk h0 (by omega) (by omega), fun W hW => roffText_neg k n W hW hk h0 (by omega) (by omega), Nat.le_of_eq (otx_size _ _ (by omega)), .inl rfl⟩
    · obtain ⟨k, hk⟩ : ∃ k : Nat, n = k := ⟨n.toNat, by omega⟩
      exact ⟨otx 43 k, 0, fun W hW => offText_pos k n W hW hk (by omega) (by omega), fun W hW => roffText_pos k n W hW hk (by omega) (by omega), Nat.le_of_eq (otx_size _ _ (by omega)), .inl rfl⟩
end Go.Proofs.YtafaacliphdndaaGreatDoor
namespace Go.Proofs.YtafaacliphdndaaGreatDoor
open Go.RowKit Go.Shelf
set_option linter.unusedVariables false
set_option linter.unusedSimpArgs false

theorem box3w (w W : World) (T : TypeId) (c0 c1 c2 : Value) (hb : Below (w.alloc (.cells #[c0, c1, c2] T)).heap.size (w.alloc (.cells #[c0, c1, c2] T)) W) :
    W.cell? ⟨w.heap.size, 0, none⟩ = some c0 ∧ W.cell? ⟨w.heap.size, 1, none⟩ = some c1 ∧ W.cell? ⟨w.heap.size, 2, none⟩ = some c2 ∧ w.heap.size < W.heap.size ∧ Below w.heap.size w W := by
  refine ⟨?_, ?_, ?_, by have := hb.size; simp at this; omega, ((Below.refl _ w).alloc (Nat.le_refl _) _).trans (hb.mono (by simp))⟩
  · rw [hb.cell (p := ⟨w.heap.size, 0, none⟩) (by simp)]; simp [go_sem]
  · rw [hb.cell (p := ⟨w.heap.size, 1, none⟩) (by simp)]; simp [go_sem]
  · rw [hb.cell (p := ⟨w.heap.size, 2, none⟩) (by simp)]; simp [go_sem]
/-- a stamp's text, and what is told: of its time's text T (k is told) and its offset's text O (j is told) -/
def stT (z o : Int) (T : ByteArray) (k : Int) (O : ByteArray) (j : Int) : ByteArray :=
  if k ≠ 0 then ⟨#[]⟩ else if z = 2 then (if j = 0 then T ++ O else ⟨#[]⟩) else if o ≠ 0 then ⟨#[]⟩ else if z = 0 then T else if z = 1 then T ++ ⟨#[90]⟩ else ⟨#[]⟩
def stK (z o k j : Int) : Int :=
  if k ≠ 0 then k else if z = 2 then j else if o ≠ 0 then 1 else if z = 0 then 0 else if z = 1 then 0 else 1
/-- one of the ways: the walk from the time's text on -/
theorem app_nil (T : ByteArray) : T ++ ⟨#[]⟩ = T := by
  obtain ⟨d⟩ := T
  rw [Tx.mk_app, Array.append_empty]
set_option maxRecDepth 100000 in
set_option maxHeartbeats 4000000 in
theorem stext_no (t z o : Int) (T : ByteArray) (w : World) (ht : Tab w)
    (kc : ∀ W, Tab W → Calls Tryz.prog 34 #[.int .i64 t] W fun e w' => e = .returned (.tuple #[.string T, ev 4]) ∧ Below W.heap.size W w') :
    Calls Tryz.prog 37 #[.agg #[.int .i64 t, .int .i64 z, .int .i64 o]] w fun e w' => e = .returned (.tuple #[.string ⟨#[]⟩, ev 4]) ∧ Below w.heap.size w w' := by
  have KC := hide kc
  have hd := hide (fun W (h : Below w.heap.size w W) => ht.later h)
  clear kc
  unfold ev at *
  rw [if_neg (by decide)] at *
  go_enter Tryz.func37, Tryz.ntmps37
  go_wp2_with fail
  refine (KC.out _ (hd.out _ ((Below.refl _ w).alloc (Nat.le_refl _) _))).mono ?_
  rintro e W1 ⟨rfl, b1⟩
  obtain ⟨a0, a1, a2, hsz, hB⟩ := box3w w W1 _ _ _ _ b1
  clear b1
  go_wp2_with fail
  go_ret2
  exact ⟨rfl, hB⟩
set_option maxRecDepth 100000 in
set_option maxHeartbeats 4000000 in
theorem stext_off (t o j : Int) (T O : ByteArray) (w : World) (ht : Tab w) (hj : j = 0 ∨ j = 4) (hT : T.size ≤ 100) (hO : O.size ≤ 100)
    (kc : ∀ W, Tab W → Calls Tryz.prog 34 #[.int .i64 t] W fun e w' => e = .returned (.tuple #[.string T, .nilIface]) ∧ Below W.heap.size W w')
    (ko : ∀ W, Tab W → Calls Tryz.prog 36 #[.int .i64 o] W fun e w' => e = .returned (.tuple #[.string O, ev j]) ∧ Below W.heap.size W w') :
    Calls Tryz.prog 37 #[.agg #[.int .i64 t, .int .i64 2, .int .i64 o]] w fun e w' => e = .returned (.tuple #[.string (if j = 0 then T ++ O else ⟨#[]⟩), ev j]) ∧ Below w.heap.size w w' := by
  have KC := hide kc
  have KO := hide ko
  have hd := hide (fun W (h : Below w.heap.size w W) => ht.later h)
  have hs : T.size + O.size ≤ 1000 := by omega
  clear kc ko
  rcases hj with rfl | rfl
  · rw [if_pos rfl]
    unfold ev at *
    rw [if_pos rfl] at *
    go_enter Tryz.func37, Tryz.ntmps37
    go_wp2_with fail
    refine (KC.out _ (hd.out _ ((Below.refl _ w).alloc (Nat.le_refl _) _))).mono ?_
    rintro e W1 ⟨rfl, b1⟩
    obtain ⟨a0, a1, a2, hsz, hB⟩ := box3w w W1 _ _ _ _ b1
    clear b1
    go_wp2_with fail
    refine (KO.out _ (hd.out _ hB)).mono ?_
    rintro e W2 ⟨rfl, b2⟩
    have hB2 := hB.trans (b2.mono hB.size)
    clear b2
    go_wp2_with fail
    go_ret2
    exact ⟨rfl, hB2⟩
  · rw [if_neg (by decide)]
    unfold ev at *
    rw [if_neg (by decide)] at *
    go_enter Tryz.func37, Tryz.ntmps37
    go_wp2_with fail
    refine (KC.out _ (hd.out _ ((Below.refl _ w).alloc (Nat.le_refl _) _))).mono ?_
    rintro e W1 ⟨rfl, b1⟩
    obtain ⟨a0, a1, a2, hsz, hB⟩ := box3w w W1 _ _ _ _ b1
    clear b1
    go_wp2_with fail
    refine (KO.out _ (hd.out _ hB)).mono ?_
    rintro e W2 ⟨rfl, b2⟩
    have hB2 := hB.trans (b2.mono hB.size)
    clear b2
    go_wp2_with fail
    go_ret2
    exact ⟨rfl, hB2⟩
set_option maxRecDepth 100000 in
set_option maxHeartbeats 4000000 in
theorem stext_plain (t z o : Int) (T R : ByteArray) (k : Int) (w : World) (ht : Tab w) (hT : T.size ≤ 100)
    (hz : (z != 2) = true ∧ ((o != 0) = true ∧ R = ⟨#[]⟩ ∧ k = 1 ∨ o = 0 ∧ (z = 0 ∧ R = T ∧ k = 0 ∨ z = 1 ∧ R = T ++ ⟨#[90]⟩ ∧ k = 0 ∨ (z != 0) = true ∧ (z != 1) = true ∧ R = ⟨#[]⟩ ∧ k = 1)))
    (kc : ∀ W, Tab W → Calls Tryz.prog 34 #[.int .i64 t] W fun e w' => e = .returned (.tuple #[.string T, .nilIface]) ∧ Below W.heap.size W w') :
    Calls Tryz.prog 37 #[.agg #[.int .i64 t, .int .i64 z, .int .i64 o]] w fun e w' => e = .returned (.tuple #[.string R, ev k]) ∧ Below w.heap.size w w' := by
  have KC := hide kc
  have hd := hide (fun W (h : Below w.heap.size w W) => ht.later h)
  have hn := hide (app_nil T)
  have hs : T.size + (⟨#[90]⟩ : ByteArray).size ≤ 1000 := by have : (⟨#[90]⟩ : ByteArray).size = 1 := rfl; omega
  clear kc
  obtain ⟨z2, ⟨o1, rfl, rfl⟩ | ⟨rfl, ⟨rfl, rfl, rfl⟩ | ⟨rfl, rfl, rfl⟩ | ⟨z0, z1, rfl, rfl⟩⟩⟩ := hz
  all_goals
    unfold ev
    first | rw [if_pos rfl] | rw [if_neg (by decide)]
    go_enter Tryz.func37, Tryz.ntmps37
    go_wp2_with fail
    refine (KC.out _ (hd.out _ ((Below.refl _ w).alloc (Nat.le_refl _) _))).mono ?_
    rintro e W1 ⟨rfl, b1⟩
    obtain ⟨a0, a1, a2, hsz, hB⟩ := box3w w W1 _ _ _ _ b1
    clear b1
    go_wp2_with fail
    go_ret2
    first | exact ⟨rfl, hB⟩ | exact ⟨by rw [hn.out]; rfl, hB⟩
end Go.Proofs.YtafaacliphdndaaGreatDoor
