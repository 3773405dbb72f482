/- Text of a time that is not there; package plain's ClockText and ClockOffsetText; both texts are one. -/
import Derived.Test.YtafaacliphdndaaGreatDoorMClockTexts40
namespace Go.Proofs.YtafaacliphdndaaGreatDoor
open Go.RowKit Go.Shelf
set_option linter.unusedVariables false
set_option linter.unusedSimpArgs false

set_option maxHeartbeats 1600000 in
theorem text_no (t : Int) (w : World) (h : t < -345600000000 ∨ 345600086399 < t) :
    Calls Tryz.prog 34 #[.int .i64 t] w fun e w' => e = .returned (.tuple #[.string ⟨#[]⟩, ev 4]) ∧ Below w.heap.size w w' := by
  have KC := hide (fun W => tell_late t W h)
  clear h
  go_enter Tryz.func34, Tryz.ntmps34
  go_wp2_with fail
  refine (KC.out _).mono ?_
  rintro e W1 ⟨rfl, b1⟩
  have hB : Below w.heap.size w ((W1.alloc (.cells #[.int .i64 0, .int .i64 0, .int .i64 0, .int .i64 0] 55)).alloc (.cells #[.int .i64 0, .int .i64 0, .int .i64 0] 68)) := (b1.alloc b1.size _).alloc (by have := b1.size; simp; omega) _
  go_wp2_with fail
  go_ret2
  exact ⟨rfl, hB⟩
set_option maxHeartbeats 1600000 in
theorem rtext_no (t : Int) (w : World) (b1 : -9223372036854775808 ≤ t) (b2 : t < 9223372036854775808) (h : t < -345600000000 ∨ 345600086399 < t) :
    Calls Tryz.prog 12 #[.int .i64 t] w fun e w' => e = .returned (.tuple #[.string ⟨#[]⟩, .int .i64 4]) ∧ Below w.heap.size w w' := by
  have KC := hide (fun W => rtell_no t W b1 b2 h)
  clear h b1 b2
  go_enter Tryz.func12, Tryz.ntmps12
  go_wp2_with fail
  refine (KC.out _).mono ?_
  rintro e W1 ⟨rfl, b1⟩
  have hB : Below w.heap.size w ((W1.alloc (.cells #[.int .i64 0, .int .i64 0, .int .i64 0, .int .i64 0] 55)).alloc (.cells #[.int .i64 0, .int .i64 0, .int .i64 0] 68)) := (b1.alloc b1.size _).alloc (by have := b1.size; simp; omega) _
  go_wp2_with fail
  go_ret2
  exact ⟨rfl, hB⟩
theorem pctext_gen (t k : Int) (T : ByteArray) (w : World) (hd : Hd w)
    (kc : ∀ W, Below w.heap.size w W → Calls Tryz.prog 34 #[.int .i64 t] W fun e w' => e = .returned (.tuple #[.string T, ev k]) ∧ Below W.heap.size W w') :
    Calls Tryz.prog 11 #[.int .i64 t] w fun e w' => e = .returned (.tuple #[.string T, .int .i64 k]) ∧ Below w.heap.size w w' := by
  have KT := hide (fun W hW => tell_ev k W hW)
  have KC := hide (kc w (Below.refl _ _))
  clear kc
  generalize ev k = E at *
  go_enter Tryz.func11, Tryz.ntmps11
  go_wp2_with fail
  refine KC.out.mono ?_
  rintro e W ⟨rfl, hb⟩
  go_wp2_with fail
  refine (KT.out _ (hd.later hb)).mono ?_
  rintro e W2 ⟨rfl, hb2⟩
  go_wp2
  go_ret2
  exact ⟨rfl, hb.trans (hb2.mono hb.size)⟩
theorem pcoff_gen (t k : Int) (T : ByteArray) (w : World) (hd : Hd w)
    (kc : ∀ W, Below w.heap.size w W → Calls Tryz.prog 36 #[.int .i64 t] W fun e w' => e = .returned (.tuple #[.string T, ev k]) ∧ Below W.heap.size W w') :
    Calls Tryz.prog 13 #[.int .i64 t] w fun e w' => e = .returned (.tuple #[.string T, .int .i64 k]) ∧ Below w.heap.size w w' := by
  have KT := hide (fun W hW => tell_ev k W hW)
  have KC := hide (kc w (Below.refl _ _))
  clear kc
  generalize ev k = E at *
  go_enter Tryz.func13, Tryz.ntmps13
  go_wp2_with fail
  refine KC.out.mono ?_
  rintro e W ⟨rfl, hb⟩
  go_wp2_with fail
  refine (KT.out _ (hd.later hb)).mono ?_
  rintro e W2 ⟨rfl, hb2⟩
  go_wp2
  go_ret2
  exact ⟨rfl, hb.trans (hb2.mono hb.size)⟩

/-- a time's text, or what is told: by the program and by the reference -/
theorem text_both (t : Int) (b1 : -9223372036854775808 ≤ t) (b2 : t < 9223372036854775808) (w0 : World) : ∃ (T : ByteArray) (k : Int),
    (∀ W, Tab W → Calls Tryz.prog 34 #[.int .i64 t] W fun e w' => e = .returned (.tuple #[.string T, ev k]) ∧ Below W.heap.size W w') ∧
    (∀ W, Tab W → Calls Tryz.prog 12 #[.int .i64 t] W fun e w' => e = .returned (.tuple #[.string T, .int .i64 k]) ∧ Below W.heap.size W w') ∧ T.size ≤ 21 ∧ (k = 0 ∨ k = 4) := by
  by_cases ht : t < -345600000000 ∨ 345600086399 < t
  · exact ⟨⟨#[]⟩, 4, fun W _ => text_no t W ht, fun W _ => rtext_no t W b1 b2 ht, by decide, .inr rfl⟩
  · obtain ⟨y, mo, d, hD, y1, y2⟩ := date_ex1 (t / 86400) w0 (by omega) (by omega)
    have hb : 1 ≤ mo ∧ mo ≤ 13 ∧ 1 ≤ d ∧ d ≤ 31 := by
      have b1 := Alm.mlen_bd 1 y mo hD.m1 hD.m2
      have b2 := Alm.months_bd 1 y
      have := hD.m1; have := hD.m2; have := hD.d1; have := hD.d2
      omega
    obtain ⟨M, hM⟩ : ∃ M : Nat, mo = M := ⟨mo.toNat, by omega⟩
    obtain ⟨D, hDD⟩ : ∃ D : Nat, d = D := ⟨d.toNat, by omega⟩
    have hc : clk (t % 86400) = .agg #[.int .i64 (((t % 86400).toNat / 3600 : Nat) : Int), .int .i64 (((t % 86400).toNat % 3600 / 60 : Nat) : Int), .int .i64 (((t % 86400).toNat % 60 : Nat) : Int)] := by
      unfold clk
      have a1 : t % 86400 / 3600 = (((t % 86400).toNat / 3600 : Nat) : Int) := by omega
      have a2 : t % 86400 % 3600 / 60 = (((t % 86400).toNat % 3600 / 60 : Nat) : Int) := by omega
      have a3 : t % 86400 % 60 = (((t % 86400).toNat % 60 : Nat) : Int) := by omega
      rw [a1, a2, a3]
    have k1 := fun W => ctell_ok t y mo d W (by omega) (by omega) hD
    have k2 := fun W => rtell_ok t y mo d W (by omega) (by omega) y1 y2 hD
    rw [hc, hM, hDD] at k1 k2
    exact ⟨_, 0, fun W hW => text_steps t y M D _ _ _ W hW y1 y2 (by omega) (by omega) (by omega) (by omega) (by omega) k1, fun W hW => rtext_steps t y M D _ _ _ W hW y1 y2 (by omega) (by omega) (by omega) (by omega) (by omega) k2,
      Tx.txt_size _ _ _ _ _ _ y1 y2 (by omega) (by omega) (by omega) (by omega) (by omega), .inl rfl⟩
/-- an offset's text, or what is told -/
theorem off_both (n : Int) : ∃ (T : ByteArray) (k : Int),
    (∀ W, Tab W → Calls Tryz.prog 36 #[.int .i64 n] W fun e w' => e = .returned (.tuple #[.string T, ev k]) ∧ Below W.heap.size W w') ∧
    (∀ W, Tab W → Calls Tryz.prog 14 #[.int .i64 n] W fun e w' => e = .returned (.tuple #[.string T, .int .i64 k]) ∧ Below W.heap.size W w') ∧ T.size ≤ 6 ∧ (k = 0 ∨ k = 4) := by
  rcases Obad.dec n with h | ⟨h1, h2, h3⟩
  · exact ⟨⟨#[]⟩, 4, fun W _ => offText_no n W h, fun W _ => roffText_no n W h, by decide, .inr rfl⟩
  · have hd : (60 : Int) ∣ n := Int.dvd_of_tmod_eq_zero h3
    by_cases h0 : n < 0
    · obtain ⟨k, hk⟩ : ∃ k : Nat, -n = k := ⟨(-n).toNat, by omega⟩
      exact ⟨otx 45 k, 0, fun W hW => offText_neg k n W hW hk h0 (by omega) (by omega), fun W hW => roffText_neg k n W hW hk h0 (by omega) (by omega), Nat.le_of_eq (otx_size _ _ (by omega)), .inl rfl⟩
    · obtain ⟨k, hk⟩ : ∃ k : Nat, n = k := ⟨n.toNat, by omega⟩
      exact ⟨otx 43 k, 0, fun W hW => offText_pos k n W hW hk (by omega) (by omega), fun W hW => roffText_pos k n W hW hk (by omega) (by omega), Nat.le_of_eq (otx_size _ _ (by omega)), .inl rfl⟩
end Go.Proofs.YtafaacliphdndaaGreatDoor
