/- ClockBack: a time's text tells the time; so do a stamp's, and a period's. -/
import Derived.Test.YtafaacliphdndaaGreatDoorMClockBack42
namespace Go.Proofs.YtafaacliphdndaaGreatDoor
open Go.RowKit Go.Shelf
set_option linter.unusedVariables false
set_option linter.unusedSimpArgs false

theorem text_case (t : Int) (w0 : World) (ht : ¬ (t < -345600000000 ∨ 345600086399 < t)) : ∃ (y : Int) (M D : Nat), -20000 ≤ y ∧ y ≤ 20000 ∧ Alm.IsDate 1 (t / 86400) y M D ∧ M < 100 ∧ D < 100 ∧
    (Tx.txt y M D ((t % 86400).toNat / 3600) ((t % 86400).toNat % 3600 / 60) ((t % 86400).toNat % 60)).size ≤ 21 ∧
    ∀ W, Tab W → Calls Tryz.prog 34 #[.int .i64 t] W fun e w' => e = .returned (.tuple #[.string (Tx.txt y M D ((t % 86400).toNat / 3600) ((t % 86400).toNat % 3600 / 60) ((t % 86400).toNat % 60)), .nilIface]) ∧ Below W.heap.size W w' := by
  obtain ⟨y, mo, d, hD, y1, y2⟩ := date_ex1 (t / 86400) w0 (by omega) (by omega)
  have hb : 1 ≤ mo ∧ mo ≤ 13 ∧ 1 ≤ d ∧ d ≤ 31 := by
    have b1 := Alm.mlen_bd 1 y mo hD.m1 hD.m2
    have b2 := Alm.months_bd 1 y
    have := hD.m1; have := hD.m2; have := hD.d1; have := hD.d2
    omega
  obtain ⟨M, rfl⟩ : ∃ M : Nat, mo = M := ⟨mo.toNat, by omega⟩
  obtain ⟨D, rfl⟩ : ∃ D : Nat, d = D := ⟨d.toNat, by omega⟩
  have hc : clk (t % 86400) = .agg #[.int .i64 (((t % 86400).toNat / 3600 : Nat) : Int), .int .i64 (((t % 86400).toNat % 3600 / 60 : Nat) : Int), .int .i64 (((t % 86400).toNat % 60 : Nat) : Int)] := by
    unfold clk
    have a1 : t % 86400 / 3600 = (((t % 86400).toNat / 3600 : Nat) : Int) := by omega
    have a2 : t % 86400 % 3600 / 60 = (((t % 86400).toNat % 3600 / 60 : Nat) : Int) := by omega
    have a3 : t % 86400 % 60 = (((t % 86400).toNat % 60 : Nat) : Int) := by omega
    rw [a1, a2, a3]
  have k1 := fun W => ctell_ok t y M D W (by omega) (by omega) hD
  rw [hc] at k1
  exact ⟨y, M, D, y1, y2, hD, by omega, by omega, Tx.txt_size _ _ _ _ _ _ y1 y2 (by omega) (by omega) (by omega) (by omega) (by omega),
    fun W hW => text_steps t y M D _ _ _ W hW y1 y2 (by omega) (by omega) (by omega) (by omega) (by omega) k1⟩
theorem stamp_back (t z o : Int) (w0 : World) : ∃ (T : ByteArray) (k : Int),
    (∀ W, Tab W → Calls Tryz.prog 37 #[.agg #[.int .i64 t, .int .i64 z, .int .i64 o]] W fun e w' => e = .returned (.tuple #[.string T, ev k]) ∧ Below W.heap.size W w') ∧
    ((k != 0) = true ∨ (k = 0 ∧ ∀ W, Calls Tryz.prog 38 #[.string T] W fun e w' => e = .returned (.tuple #[.agg #[.int .i64 t, .int .i64 z, .int .i64 o], .nilIface]) ∧ Below W.heap.size W w')) := by
  by_cases ht : t < -345600000000 ∨ 345600086399 < t
  · exact ⟨⟨#[]⟩, 4, fun W hW => stext_no t z o ⟨#[]⟩ W hW (fun W _ => text_no t W ht), .inl (by decide)⟩
  · obtain ⟨y, M, D, y1, y2, hD, hM, hDb, hsz, h1⟩ := text_case t w0 ht
    have e0 : ev 0 = .nilIface := by unfold ev; rw [if_pos rfl]
    have PB := fun (S : ByteArray) (z o : Int) (hS : Behind S z o) (W : World) => parse_back t y M D z o M D S (by omega) (by omega) y1 y2 hD rfl rfl hM hDb hS W
    generalize Tx.txt y M D ((t % 86400).toNat / 3600) ((t % 86400).toNat % 3600 / 60) ((t % 86400).toNat % 60) = T at *
    by_cases hz : z = 2
    · subst hz
      rcases Obad.dec o with h | ⟨g1, g2, g3⟩
      · exact ⟨_, 4, fun W hW => stext_off t o 4 T ⟨#[]⟩ W hW (.inr rfl) (by omega) (by decide) h1 (fun W _ => offText_no o W h), .inl (by decide)⟩
      · have hd : (60 : Int) ∣ o := Int.dvd_of_tmod_eq_zero g3
        by_cases h0 : o < 0
        · obtain ⟨k, hk⟩ : ∃ k : Nat, -o = k := ⟨(-o).toNat, by omega⟩
          have hO : (otx 45 k).size ≤ 100 := by rw [otx_size _ _ (by omega)]; decide
          have p := fun W hW => stext_off t o 0 T (otx 45 k) W hW (.inl rfl) (by omega) hO h1 (fun V hV => by rw [e0]; exact offText_neg k o V hV hk h0 (by omega) (by omega))
          rw [if_pos rfl] at p
          exact ⟨_, 0, p, .inr ⟨rfl, PB _ _ _ (.neg k o hk (by omega) (by omega))⟩⟩
        · obtain ⟨k, hk⟩ : ∃ k : Nat, o = k := ⟨o.toNat, by omega⟩
          have hO : (otx 43 k).size ≤ 100 := by rw [otx_size _ _ (by omega)]; decide
          have p := fun W hW => stext_off t o 0 T (otx 43 k) W hW (.inl rfl) (by omega) hO h1 (fun V hV => by rw [e0]; exact offText_pos k o V hV hk (by omega) (by omega))
          rw [if_pos rfl] at p
          exact ⟨_, 0, p, .inr ⟨rfl, PB _ _ _ (.pos k o hk (by omega) (by omega))⟩⟩
    · have q2 : (z != 2) = true := by simpa using hz
      by_cases ho : o = 0
      · by_cases z0 : z = 0
        · have q := PB _ _ _ .none
          rw [app_nil] at q
          subst z0 ho
          exact ⟨T, 0, fun W hW => stext_plain t 0 0 T T 0 W hW (by omega) ⟨q2, .inr ⟨rfl, .inl ⟨rfl, rfl, rfl⟩⟩⟩ h1, .inr ⟨rfl, q⟩⟩
        · by_cases z1 : z = 1
          · subst z1 ho
            exact ⟨T ++ ⟨#[90]⟩, 0, fun W hW => stext_plain t 1 0 T _ 0 W hW (by omega) ⟨q2, .inr ⟨rfl, .inr (.inl ⟨rfl, rfl, rfl⟩)⟩⟩ h1, .inr ⟨rfl, PB _ _ _ .zulu⟩⟩
          · exact ⟨⟨#[]⟩, 1, fun W hW => stext_plain t z o T _ 1 W hW (by omega) ⟨q2, .inr ⟨ho, .inr (.inr ⟨by simpa using z0, by simpa using z1, rfl, rfl⟩)⟩⟩ h1, .inl (by decide)⟩
      · exact ⟨⟨#[]⟩, 1, fun W hW => stext_plain t z o T _ 1 W hW (by omega) ⟨q2, .inl ⟨by simpa using ho, rfl, rfl⟩⟩ h1, .inl (by decide)⟩
/-- is the period great? -/
def Gr (y m n d x : Int) : Prop := 99999999 < y ∨ 99999999 < m ∨ 99999999 < n ∨ 99999999 < d ∨ 359999996400 < x ∨ y < -99999999 ∨ m < -99999999 ∨ n < -99999999 ∨ d < -99999999 ∨ x < -359999996400
theorem Bg.gr (bk : Bool) {y m n d x : Nat} (h : Bg y m n d x) : Gr (sgn bk y) (sgn bk m) (sgn bk n) (sgn bk d) (sgn bk x) := by
  unfold Bg at h
  unfold Gr sgn
  cases bk
  · simp only [Bool.false_eq_true, if_false]; omega
  · simp only [if_true]; omega
def PerBack (y m n d x : Int) : Prop := ∃ (R : ByteArray) (j : Int),
    (∀ W, Tab W → Calls Tryz.prog 40 #[.agg #[.int .i64 y, .int .i64 m, .int .i64 n, .int .i64 d, .int .i64 x]] W fun e w' => e = .returned (.tuple #[.string R, ev j]) ∧ Below W.heap.size W w') ∧
    (((j != 0) = true ∧ R = ⟨#[]⟩) ∨ (j = 0 ∧ ((∀ W, Hd W → Calls Tryz.prog 19 #[.string R] W fun e w' => ∃ k2 : Int, e = .returned (.tuple #[.agg #[.int .i64 y, .int .i64 m, .int .i64 n, .int .i64 d, .int .i64 x], .int .i64 0, .int .i64 k2]) ∧ Below W.heap.size W w') ∨
      (Gr y m n d x ∧ ∀ W, Hd W → Calls Tryz.prog 19 #[.string R] W fun e w' => ∃ k2 : Int, e = .returned (.tuple #[.agg #[.int .i64 0, .int .i64 0, .int .i64 0, .int .i64 0, .int .i64 0], .int .i64 6, .int .i64 k2]) ∧ Below W.heap.size W w'))))
theorem period_one (bk : Bool) (y m n d x : Nat) (h1 : y ≤ 1000000000000) (h2 : m ≤ 1000000000000) (h3 : n ≤ 1000000000000) (h4 : d ≤ 1000000000000) (h5 : x ≤ 1000000000000) (hz : ¬ (y = 0 ∧ m = 0 ∧ n = 0 ∧ d = 0 ∧ x = 0)) :
    PerBack (sgn bk y) (sgn bk m) (sgn bk n) (sgn bk d) (sgn bk x) := by
  have e0 : ev 0 = .nilIface := by unfold ev; rw [if_pos rfl]
  refine ⟨stx bk (pbody y m n d x), 0, fun W hW => ?_, .inr ⟨rfl, ?_⟩⟩
  · rw [e0]; exact per_text bk y m n d x W hW h1 h2 h3 h4 h5 hz
  · rcases ppback bk y m n d x h1 h2 h3 h4 h5 hz with h | ⟨hb, h⟩
    · exact .inl h
    · exact .inr ⟨hb.gr bk, h⟩
theorem period_back (y m n d x : Int) : PerBack y m n d x := by
  by_cases hS : Small y m n d x
  · have e0 : ev 0 = .nilIface := by unfold ev; rw [if_pos rfl]
    obtain ⟨h1, h2, h3, h4, h5⟩ := hS
    by_cases hz : y = 0 ∧ m = 0 ∧ n = 0 ∧ d = 0 ∧ x = 0
    · obtain ⟨rfl, rfl, rfl, rfl, rfl⟩ := hz
      exact ⟨⟨#[80, 84, 48, 83]⟩, 0, fun W _ => by rw [e0]; exact ptext_zero W, .inr ⟨rfl, .inl zero_back⟩⟩
    · by_cases hN : Neg y m n d x 5
      · by_cases hP : Pos y m n d x 5
        · have e1 : ev 1 = .iface 25 (.int .i64 1) := by unfold ev; rw [if_neg (by decide)]
          exact ⟨⟨#[]⟩, 1, fun W hW => by rw [e1]; exact ptext_loop y m n d x (.string ⟨#[]⟩) (.iface 25 (.int .i64 1)) W hW h1 h2 h3 h4 h5 hz (fun _ _ => ⟨rfl, rfl⟩) (fun _ h => absurd hP h) (fun h => absurd hN h), .inl ⟨by decide, rfl⟩⟩
        · have hP' : y ≤ 0 ∧ m ≤ 0 ∧ n ≤ 0 ∧ d ≤ 0 ∧ x ≤ 0 := by unfold Pos at hP; omega
          have g := period_one true (-y).toNat (-m).toNat (-n).toNat (-d).toNat (-x).toNat (by omega) (by omega) (by omega) (by omega) (by omega) (by omega)
          have s1 : ∀ v : Int, v ≤ 0 → sgn true (-v).toNat = v := fun v hv => by unfold sgn; rw [if_pos rfl]; omega
          rw [s1 y (by omega), s1 m (by omega), s1 n (by omega), s1 d (by omega), s1 x (by omega)] at g
          exact g
      · have hN' : 0 ≤ y ∧ 0 ≤ m ∧ 0 ≤ n ∧ 0 ≤ d ∧ 0 ≤ x := by unfold Neg at hN; omega
        have g := period_one false y.toNat m.toNat n.toNat d.toNat x.toNat (by omega) (by omega) (by omega) (by omega) (by omega) (by omega)
        have s1 : ∀ v : Int, 0 ≤ v → sgn false v.toNat = v := fun v hv => by unfold sgn; rw [if_neg (by simp)]; omega
        rw [s1 y (by omega), s1 m (by omega), s1 n (by omega), s1 d (by omega), s1 x (by omega)] at g
        exact g
  · exact ⟨⟨#[]⟩, 4, fun W _ => ptext_no y m n d x W hS, .inl ⟨by decide, rfl⟩⟩
end Go.Proofs.YtafaacliphdndaaGreatDoor
namespace Go.Proofs.YtafaacliphdndaaGreatDoor
open Go.RowKit Go.Shelf
set_option linter.unusedVariables false
set_option linter.unusedSimpArgs false

/-- the law's two arguments, in their boxes -/
def EB (t z o y m n d x : Int) (w X : World) : Prop :=
  (X.cell? ⟨w.heap.size, 0, none⟩ = some (.int .i64 t) ∧ X.cell? ⟨w.heap.size, 1, none⟩ = some (.int .i64 z) ∧ X.cell? ⟨w.heap.size, 2, none⟩ = some (.int .i64 o)) ∧
  (X.cell? ⟨w.heap.size + 1, 0, none⟩ = some (.int .i64 y) ∧ X.cell? ⟨w.heap.size + 1, 1, none⟩ = some (.int .i64 m) ∧ X.cell? ⟨w.heap.size + 1, 2, none⟩ = some (.int .i64 n) ∧ X.cell? ⟨w.heap.size + 1, 3, none⟩ = some (.int .i64 d) ∧ X.cell? ⟨w.heap.size + 1, 4, none⟩ = some (.int .i64 x)) ∧ w.heap.size + 1 < X.heap.size ∧ Below w.heap.size w X
theorem EB.step {t z o y m n d x : Int} {w X X' : World} (h : EB t z o y m n d x w X) (hb : Below X.heap.size X X') : EB t z o y m n d x w X' := by
  obtain ⟨⟨a0, a1, a2⟩, ⟨c0, c1, c2, c3, c4⟩, hl, hB⟩ := h
  have g : ∀ k j, k ≤ w.heap.size + 1 → X'.cell? ⟨k, j, none⟩ = X.cell? ⟨k, j, none⟩ := fun k j hk => hb.cell (p := ⟨k, j, none⟩) (show k < X.heap.size by omega)
  exact ⟨⟨(g _ _ (by omega)).trans a0, (g _ _ (by omega)).trans a1, (g _ _ (by omega)).trans a2⟩, ⟨(g _ _ (by omega)).trans c0, (g _ _ (by omega)).trans c1, (g _ _ (by omega)).trans c2, (g _ _ (by omega)).trans c3, (g _ _ (by omega)).trans c4⟩, Nat.lt_of_lt_of_le hl hb.size, hB.trans (hb.mono hB.size)⟩
set_option maxRecDepth 100000 in
set_option maxHeartbeats 16000000 in
theorem cback_steps (t z o y m n d x k j : Int) (T R : ByteArray) (w : World) (hd : HT w)
    (p1 : ∀ W, HT W → Calls Tryz.prog 15 #[.agg #[.int .i64 t, .int .i64 z, .int .i64 o]] W fun e w' => e = .returned (.tuple #[.string T, .int .i64 k]) ∧ Below W.heap.size W w')
    (p2 : (k != 0) = true ∨ (k = 0 ∧ ∀ W, HT W → Calls Tryz.prog 17 #[.string T] W fun e w' => e = .returned (.tuple #[.agg #[.int .i64 t, .int .i64 z, .int .i64 o], .int .i64 0, .int .i64 (-1)]) ∧ Below W.heap.size W w'))
    (p3 : ∀ W, HT W → Calls Tryz.prog 18 #[.agg #[.int .i64 y, .int .i64 m, .int .i64 n, .int .i64 d, .int .i64 x]] W fun e w' => e = .returned (.tuple #[.string R, .int .i64 j]) ∧ Below W.heap.size W w')
    (p4 : ((j != 0) = true ∧ R = ⟨#[]⟩) ∨ (j = 0 ∧ ((∀ W, HT W → Calls Tryz.prog 19 #[.string R] W fun e w' => ∃ k2 : Int, e = .returned (.tuple #[.agg #[.int .i64 y, .int .i64 m, .int .i64 n, .int .i64 d, .int .i64 x], .int .i64 0, .int .i64 k2]) ∧ Below W.heap.size W w') ∨
      (Gr y m n d x ∧ ∀ W, HT W → Calls Tryz.prog 19 #[.string R] W fun e w' => ∃ k2 : Int, e = .returned (.tuple #[.agg #[.int .i64 0, .int .i64 0, .int .i64 0, .int .i64 0, .int .i64 0], .int .i64 6, .int .i64 k2]) ∧ Below W.heap.size W w')))) :
    Calls Tryz.prog 6 #[.agg #[.int .i64 t, .int .i64 z, .int .i64 o], .agg #[.int .i64 y, .int .i64 m, .int .i64 n, .int .i64 d, .int .i64 x]] w fun r w' => r = .returned (.bool true) ∧ Below w.heap.size w w' := by
  have P1 := hide p1
  have P2 := hide p2
  have P3 := hide p3
  have P4 := hide p4
  have HD := hide (fun W (h : Below w.heap.size w W) => hd.later h)
  have h0 : EB t z o y m n d x w ((w.alloc (.cells #[.int .i64 t, .int .i64 z, .int .i64 o] 33)).alloc (.cells #[.int .i64 y, .int .i64 m, .int .i64 n, .int .i64 d, .int .i64 x] 24)) :=
    ⟨⟨by simp [go_sem], by simp [go_sem], by simp [go_sem]⟩, ⟨by simp [go_sem], by simp [go_sem], by simp [go_sem], by simp [go_sem], by simp [go_sem]⟩, by simp, ((Below.refl _ w).alloc (Nat.le_refl _) _).alloc (by simp) _⟩
  clear p1 p2 p3 p4 hd
  go_enter Tryz.func6, Tryz.ntmps6
  go_wp2_with fail
  refine (P1.out _ (HD.out _ h0.2.2.2)).mono ?_
  rintro r W1 ⟨rfl, b1⟩
  have h1 := h0.step b1
  clear h0 b1 P1
  have h1' := h1
  obtain ⟨⟨a0, a1, a2⟩, ⟨c0, c1, c2, c3, c4⟩, hl1, hB1⟩ := h1'
  refine Or.elim P2.out ?g1 ?g2
  case' g1 =>
    intro hk
    clear P2
    go_wp2_with fail
    have hE := h1
    clear h1 a0 a1 a2 c0 c1 c2 c3 c4 hl1 hB1
  case' g2 =>
    rintro ⟨rfl, hk⟩
    have PK := hide hk
    clear P2 hk
    go_wp2_with fail
    refine (PK.out _ (HD.out _ hB1)).mono ?_
    rintro r W2 ⟨rfl, b2⟩
    have h2 := h1.step b2
    have h3 := h2.step ((Below.refl _ W2).alloc (Nat.le_refl _) (.cells #[.int .i64 t, .int .i64 z, .int .i64 o] 33))
    clear h1 b2 PK a0 a1 a2 c0 c1 c2 c3 c4 hl1 hB1
    have h3' := h3
    obtain ⟨⟨a0, a1, a2⟩, ⟨c0, c1, c2, c3, c4⟩, hl2, hB2⟩ := h3'
    go_wp2_with fail
    have hE := h3
    clear h2 h3 a0 a1 a2 c0 c1 c2 c3 c4 hl2 hB2
  all_goals
    refine (P3.out _ (HD.out _ hE.2.2.2)).mono ?_
    rintro r W3 ⟨rfl, b3⟩
    have h4 := hE.step b3
    clear hE b3
    have h4' := h4
    obtain ⟨⟨a0, a1, a2⟩, ⟨c0, c1, c2, c3, c4⟩, hl4, hB4⟩ := h4'
    clear a0 a1 a2
    rcases P4.out with ⟨hj, rfl⟩ | ⟨rfl, hp⟩
    · go_wp2
      go_ret
      exact ⟨rfl, hB4⟩
    · have PP := hide hp
      clear hp P4 P3
      go_wp2_with fail
      all_goals
        clear c0 c1 c2 c3 c4 hl4
        rcases PP.out with hp | ⟨hG, hp⟩
        · clear PP
          refine (hp _ (HD.out _ hB4)).mono ?_
          rintro r W5 ⟨k2, rfl, b5⟩
          have h6 := (h4.step b5).step ((Below.refl _ W5).alloc (Nat.le_refl _) (.cells #[.int .i64 y, .int .i64 m, .int .i64 n, .int .i64 d, .int .i64 x] 24))
          obtain ⟨⟨a0, a1, a2⟩, ⟨c0, c1, c2, c3, c4⟩, hl6, hB6⟩ := h6
          clear hp h4 b5 hB4 a0 a1 a2
          go_wp2
          all_goals go_ret
          all_goals first | exact ⟨rfl, hB6⟩ | (refine ⟨?_, hB6⟩; simp)
        · have HG := hide hG
          clear PP hG
          refine (hp _ (HD.out _ hB4)).mono ?_
          rintro r W5 ⟨k2, rfl, b5⟩
          have h6 := (h4.step b5).step ((Below.refl _ W5).alloc (Nat.le_refl _) (.cells #[.int .i64 0, .int .i64 0, .int .i64 0, .int .i64 0, .int .i64 0] 24))
          obtain ⟨⟨a0, a1, a2⟩, ⟨c0, c1, c2, c3, c4⟩, hl6, hB6⟩ := h6
          clear hp h4 b5 hB4 a0 a1 a2
          go_wp2
          all_goals go_ret
          all_goals first | exact ⟨rfl, hB6⟩ | (refine ⟨?_, hB6⟩; simp; have g := HG.out; unfold Gr at g; omega)
theorem cback_walk (t z o y m n d x : Int) (w : World) (hd : HT w) :
    Calls Tryz.prog 6 #[.agg #[.int .i64 t, .int .i64 z, .int .i64 o], .agg #[.int .i64 y, .int .i64 m, .int .i64 n, .int .i64 d, .int .i64 x]] w fun r w' => r = .returned (.bool true) ∧ Below w.heap.size w w' := by
  obtain ⟨T, k, p1, p2⟩ := stamp_back t z o w
  obtain ⟨R, j, p3, p4⟩ := period_back y m n d x
  refine cback_steps t z o y m n d x k j T R w hd (fun W hW => pcstamp_gen t z o k T W (HT.hd hW) (fun V hV => p1 V (HT.later hW hV).tab)) ?_ (fun W hW => pcper_gen y m n d x j R W (HT.hd hW) (fun V hV => p3 V (HT.later hW hV).tab)) ?_
  · rcases p2 with h | ⟨h, hp⟩
    · exact .inl h
    · exact .inr ⟨h, fun W hW => pcparse_steps T t z o W hp⟩
  · rcases p4 with h | ⟨h, hp | ⟨hg, hp⟩⟩
    · exact .inl h
    · exact .inr ⟨h, .inl fun W hW => hp W hW.hd⟩
    · exact .inr ⟨h, .inr ⟨hg, fun W hW => hp W hW.hd⟩⟩
end Go.Proofs.YtafaacliphdndaaGreatDoor
