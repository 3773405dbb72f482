/- The reference's join of sets; SpanWays. -/
import Derived.Test.YtnacplnddopomaaDoorSpnF
import Derived.Test.YtnacplnddopomaaDoorSpnG
import Derived.Test.YtnacplnddopomaaDoorSpnH
namespace Go.Proofs.YtnacplnddopomaaDoor
open Go.RowKit
set_option linter.unusedVariables false
set_option linter.unusedSimpArgs false

set_option maxRecDepth 100000 in
set_option maxHeartbeats 8000000 in
theorem rjoin_any (p q : Int) (w : World) : Calls Tryd.prog 34 #[.agg (tabA Spn.fol), .int .i64 p, .int .i64 q] w fun e w' => e = .returned (.int .i64 (joinN p q : Nat)) ∧ Below w.heap.size w w' := by
  have hsz := tabA_size Spn.fol
  have hrow := heap_alloc_last w (.cells (tabA Spn.fol) 62)
  have HC : Hid (∀ i k : Nat, i < 13 → k < 13 → (w.alloc (.cells (tabA Spn.fol) 62)).cell? ⟨w.heap.size, i * 13 + k, none⟩ = some (.int .i64 (Spn.fol i k : Nat))) := fun i k hi hk => (row_at hrow i k hi hk).1
  have HB := hide (show Below w.heap.size w (w.alloc (.cells (tabA Spn.fol) 62)) from (Below.refl _ w).alloc (Nat.le_refl _) _)
  generalize tabA Spn.fol = T at *
  clear hrow
  go_enter Tryd.func34, Tryd.ntmps34
  go_wp2_with fail
  generalize w.alloc (.cells T 62) = W0 at *
  go_loop [7, 8] (fun s i => ∃ n : Nat, n ≤ 13 ∧ i = .int .i64 n ∧ s = .int .i64 (joinOut p q n : Nat)) (fun _ i => 13 - (intOf i).toNat)
  case atStart => exact ⟨0, by omega, rfl, rfl⟩
  case round =>
    obtain ⟨n, hn, rfl, rfl⟩ := hrel
    have hl := joinOut_lt p q n hn
    by_cases hlt : n < 13
    · have hlti : (n : Int) < 13 := by omega
      go_wp2_with fail
      go_loop [7, 9] (fun s k => ∃ m : Nat, m ≤ 13 ∧ k = .int .i64 m ∧ s = .int .i64 (joinIn p q n m (joinOut p q n) : Nat)) (fun _ k => 13 - (intOf k).toNat)
      case atStart => exact ⟨0, by omega, rfl, rfl⟩
      case round =>
        obtain ⟨m, hm, rfl, rfl⟩ := hrel
        have hl2 := joinIn_lt p q n hlt m _ hm hl
        by_cases hmt : m < 13
        · have hmti : (m : Int) < 13 := by omega
          have g := HC.out n m hlt hmt
          have hfl := Spn.fol_lt n m hlt hmt
          have HO := hide (i64_or_nat (joinIn p q n m (joinOut p q n)) (Spn.fol n m) (by omega) (by omega))
          have HA := hide (fun W => in_any p n W (by omega))
          have HB2 := hide (fun W => in_any q m W (by omega))
          obtain ⟨x, hx⟩ : ∃ x, hasB p n = x := ⟨_, rfl⟩
          obtain ⟨y, hy⟩ : ∃ y, hasB q m = y := ⟨_, rfl⟩
          have HJ : Hid (joinIn p q n (m + 1) (joinOut p q n) = if x && y then joinIn p q n m (joinOut p q n) ||| Spn.fol n m else joinIn p q n m (joinOut p q n)) := by
            rw [← hx, ← hy]; rfl
          rw [hx] at HA
          rw [hy] at HB2
          clear hx hy
          go_wp2_with fail
          refine (HA.out _).mono ?_
          rintro e W' ⟨rfl, rfl⟩
          cases x
          · go_wp2
            go_round
            case rel => exact ⟨m + 1, by omega, by go_num, by rw [HJ.out]; rfl⟩
            case measure => simp [intOf]; omega
          · go_wp2_with fail
            refine (HB2.out _).mono ?_
            rintro e W' ⟨rfl, rfl⟩
            cases y
            · go_wp2
              go_round
              case rel => exact ⟨m + 1, by omega, by go_num, by rw [HJ.out]; rfl⟩
              case measure => simp [intOf]; omega
            · go_wp2
              go_round
              case rel => exact ⟨m + 1, by omega, by go_num, by rw [HJ.out, HO.out]; rfl⟩
              case measure => simp [intOf]; omega
        · have h13 : m = 13 := by omega
          have hmi : 13 ≤ (m : Int) := by omega
          rw [h13]
          go_wp2
          go_round
          case rel => exact ⟨n + 1, by omega, by go_num, rfl⟩
          case measure => simp [intOf]; omega
    · have h13 : n = 13 := by omega
      go_wp2
      go_ret
      subst h13
      exact ⟨rfl, HB.out⟩
/-- what both joins tell -/
def jnR (p q : Int) : Int := if (0 ≤ p ∧ p ≤ 8191) ∧ (0 ≤ q ∧ q ≤ 8191) then (joinN p q : Nat) else 0
def jnE (p q : Int) : Int := if (0 ≤ p ∧ p ≤ 8191) ∧ (0 ≤ q ∧ q ≤ 8191) then 0 else 1
theorem pjoin_any (p q : Int) (w : World) (hf : FT w) : Calls Tryd.prog 12 #[.int .i64 p, .int .i64 q] w fun e w' => e = .returned (.tuple #[.int .i64 (jnR p q), .int .i64 (jnE p q)]) ∧ Below w.heap.size w w' := by
  unfold jnR jnE
  by_cases h : (0 ≤ p ∧ p ≤ 8191) ∧ (0 ≤ q ∧ q ≤ 8191)
  · rw [if_pos h, if_pos h]; exact pjoin_ok p q w hf h.1 h.2
  · rw [if_neg h, if_neg h]; exact pjoin_no p q w hf.hd (Decidable.not_and_iff_or_not.1 h)
set_option maxRecDepth 100000 in
set_option maxHeartbeats 4000000 in
theorem rjoins_any (p q : Int) (w : World) : Calls Tryd.prog 13 #[.int .i64 p, .int .i64 q] w fun e w' => e = .returned (.tuple #[.int .i64 (jnR p q), .int .i64 (jnE p q)]) ∧ Below w.heap.size w w' := by
  have K1 := hide (fun W => setok_any p W)
  have K2 := hide (fun W => setok_any q W)
  unfold jnR jnE
  by_cases h1 : 0 ≤ p ∧ p ≤ 8191
  · have e1 : decide (0 ≤ p ∧ p ≤ 8191) = true := decide_eq_true h1
    rw [e1] at K1
    by_cases h2 : 0 ≤ q ∧ q ≤ 8191
    · rw [if_pos ⟨h1, h2⟩, if_pos ⟨h1, h2⟩]
      have e2 : decide (0 ≤ q ∧ q ≤ 8191) = true := decide_eq_true h2
      rw [e2] at K2
      have K3 := hide table_any
      have K4 := hide (rjoin_any p q)
      generalize tabA Spn.fol = T at *
      clear e1 e2 h1 h2
      go_enter Tryd.func13, Tryd.ntmps13
      go_wp2_with fail
      refine (K1.out _).mono ?_
      rintro e W ⟨rfl, rfl⟩
      go_wp2_with fail
      refine (K2.out _).mono ?_
      rintro e W ⟨rfl, rfl⟩
      go_wp2_with fail
      refine (K3.out _).mono ?_
      rintro e W1 ⟨rfl, hb⟩
      go_wp2_with fail
      refine (K4.out _).mono ?_
      rintro e W2 ⟨rfl, hb2⟩
      go_wp2
      go_ret2
      exact ⟨rfl, hb.trans (hb2.mono hb.size)⟩
    · rw [if_neg (fun g => h2 g.2), if_neg (fun g => h2 g.2)]
      have e2 : decide (0 ≤ q ∧ q ≤ 8191) = false := decide_eq_false h2
      rw [e2] at K2
      clear e1 e2 h1 h2
      go_enter Tryd.func13, Tryd.ntmps13
      go_wp2_with fail
      refine (K1.out _).mono ?_
      rintro e W ⟨rfl, rfl⟩
      go_wp2_with fail
      refine (K2.out _).mono ?_
      rintro e W ⟨rfl, rfl⟩
      go_wp2
      go_ret2
      exact ⟨rfl, Below.refl _ _⟩
  · rw [if_neg (fun g => h1 g.1), if_neg (fun g => h1 g.1)]
    have e1 : decide (0 ≤ p ∧ p ≤ 8191) = false := decide_eq_false h1
    rw [e1] at K1
    clear e1 h1
    go_enter Tryd.func13, Tryd.ntmps13
    go_wp2_with fail
    refine (K1.out _).mono ?_
    rintro e W ⟨rfl, rfl⟩
    go_wp2
    go_ret2
    exact ⟨rfl, Below.refl _ _⟩
/-- two boxes of the law's spans, and what was -/
def E2 (a b c d : Int) (w X : World) : Prop :=
  ((X.cell? ⟨w.heap.size, 0, none⟩ = some (.int .i64 a) ∧ X.cell? ⟨w.heap.size, 1, none⟩ = some (.int .i64 b)) ∧ (X.cell? ⟨w.heap.size + 1, 0, none⟩ = some (.int .i64 c) ∧ X.cell? ⟨w.heap.size + 1, 1, none⟩ = some (.int .i64 d))) ∧ w.heap.size + 1 < X.heap.size ∧ Below w.heap.size w X
theorem E2.step {a b c d : Int} {w X X' : World} (h : E2 a b c d w X) (hb : Below X.heap.size X X') : E2 a b c d w X' := by
  obtain ⟨⟨⟨a0, a1⟩, ⟨b0, b1⟩⟩, hl, hB⟩ := h
  have g : ∀ k j, k ≤ w.heap.size + 1 → X'.cell? ⟨k, j, none⟩ = X.cell? ⟨k, j, none⟩ := fun k j hk => hb.cell (p := ⟨k, j, none⟩) (show k < X.heap.size by omega)
  exact ⟨⟨⟨(g _ _ (by omega)).trans a0, (g _ _ (by omega)).trans a1⟩, ⟨(g _ _ (by omega)).trans b0, (g _ _ (by omega)).trans b1⟩⟩, Nat.lt_of_lt_of_le hl hb.size, hB.trans (hb.mono hB.size)⟩
set_option maxRecDepth 100000 in
set_option maxHeartbeats 8000000 in
theorem sways_walk (a b c d p q : Int) (w : World) (hf : FT w) :
    Calls Tryd.prog 3 #[.agg #[.int .i64 a, .int .i64 b], .agg #[.int .i64 c, .int .i64 d], .int .i64 p, .int .i64 q] w fun r w' => r = .returned (.bool true) ∧ Below w.heap.size w w' := by
  have HD := hide (fun W (h : Below w.heap.size w W) => hf.later h)
  have h0 : E2 a b c d w ((w.alloc (.cells #[.int .i64 a, .int .i64 b] 23)).alloc (.cells #[.int .i64 c, .int .i64 d] 23)) :=
    ⟨⟨⟨by simp [go_sem], by simp [go_sem]⟩, ⟨by simp [go_sem], by simp [go_sem]⟩⟩, by simp, ((Below.refl _ w).alloc (Nat.le_refl _) _).alloc (by simp) _⟩
  have K1 := hide (fun W hW => pof_any a b c d W hW)
  have K2 := hide (fun W => rof_any a b c d W)
  have K3 := hide (fun W hW => pback_any p W hW)
  have K4 := hide (fun W => rback_any p W)
  have K5 := hide (fun W hW => pjoin_any p q W hW)
  have K6 := hide (fun W => rjoins_any p q W)
  have K7 := hide (fun W => pcount_any p W)
  have K8 := hide (fun W => rcount_any p W)
  generalize ofR a b c d = x1 at *
  generalize ofE a b c d = x2 at *
  generalize bkR p = x3 at *
  generalize bkE p = x4 at *
  generalize jnR p q = x5 at *
  generalize jnE p q = x6 at *
  generalize cntN p 13 = x7 at *
  clear hf
  have h0' := h0
  obtain ⟨⟨⟨a0, a1⟩, ⟨c0, c1⟩⟩, hl, hB⟩ := h0'
  go_enter Tryd.func3, Tryd.ntmps3
  go_wp2_with fail
  refine (K1.out _ (HD.out _ hB).hd).mono ?_
  rintro r W1 ⟨rfl, hx1⟩
  have h1 := h0.step hx1
  clear h0 hx1 a0 a1 c0 c1 hl hB
  have h1' := h1
  obtain ⟨⟨⟨a0, a1⟩, ⟨c0, c1⟩⟩, hl, hB⟩ := h1'
  go_wp2_with fail
  refine (K2.out _).mono ?_
  rintro r W2 ⟨rfl, hx2⟩
  have hB2 := hB.trans (hx2.mono hB.size)
  clear h1 hx2 a0 a1 c0 c1 hl hB
  go_wp2_with fail
  refine (K3.out _ (HD.out _ hB2).hd).mono ?_
  rintro r W3 ⟨rfl, hx3⟩
  have hB3 := hB2.trans (hx3.mono hB2.size)
  clear hx3 hB2
  go_wp2_with fail
  refine (K4.out _).mono ?_
  rintro r W4 ⟨rfl, rfl⟩
  go_wp2_with fail
  refine (K5.out _ (HD.out _ hB3)).mono ?_
  rintro r W5 ⟨rfl, hx5⟩
  have hB5 := hB3.trans (hx5.mono hB3.size)
  clear hx5 hB3
  go_wp2_with fail
  refine (K6.out _).mono ?_
  rintro r W6 ⟨rfl, hx6⟩
  have hB6 := hB5.trans (hx6.mono hB5.size)
  clear hx6 hB5
  go_wp2_with fail
  refine (K7.out _).mono ?_
  rintro r W7 ⟨rfl, rfl⟩
  go_wp2_with fail
  refine (K8.out _).mono ?_
  rintro r W8 ⟨rfl, rfl⟩
  go_wp2
  go_ret
  exact ⟨by simp, hB6⟩
end Go.Proofs.YtnacplnddopomaaDoor
