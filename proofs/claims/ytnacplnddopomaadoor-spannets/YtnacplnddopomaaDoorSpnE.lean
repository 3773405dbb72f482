/- The reference's ways: In, SetOK, Way, SpanOf, Count. -/
import Derived.Test.YtnacplnddopomaaDoorSpnC
import Derived.WalkKit
namespace Go.Proofs.YtnacplnddopomaaDoor
open Go.RowKit
set_option linter.unusedVariables false
set_option linter.unusedSimpArgs false

theorem below_dr {B : Nat} {w w' : World} (h : Below B w w') (n : Nat) : Below B w (w'.drewN n) := ⟨h.os, h.tape, h.output, h.size, h.block⟩
theorem in_any (s : Int) (k : Nat) (w : World) (hk : k ≤ 60) : Calls Tryd.prog 32 #[.int .i64 s, .int .i64 k] w fun e w' => e = .returned (.bool (hasB s k)) ∧ w' = w := by
  go_enter Tryd.func32, Tryd.ntmps32
  go_wp2
  go_ret
  refine ⟨?_, rfl⟩
  unfold hasB
  simp [i64_and1]
theorem setok_any (s : Int) (w : World) : Calls Tryd.prog 31 #[.int .i64 s] w fun e w' => e = .returned (.bool (decide (0 ≤ s ∧ s ≤ 8191))) ∧ w' = w := by
  go_enter Tryd.func31, Tryd.ntmps31
  go_wp2
  all_goals
    go_ret
    refine ⟨ret_bool ?_, rfl⟩
    simp
    try omega
set_option maxHeartbeats 1000000 in
theorem rway_any (a b c d : Int) (w : World) (h1 : a < b) (h2 : c < d) :
    Calls Tryd.prog 29 #[.agg #[.int .i64 a, .int .i64 b], .agg #[.int .i64 c, .int .i64 d]] w fun e w' => e = .returned (.int .i64 (Spn.way a b c d : Nat)) ∧ Below w.heap.size w w' := by
  have hB : Below w.heap.size w ((w.alloc (.cells #[.int .i64 a, .int .i64 b] 23)).alloc (.cells #[.int .i64 c, .int .i64 d] 23)) := ((Below.refl _ w).alloc (Nat.le_refl _) _).alloc (by simp) _
  have HB := hide hB
  clear hB
  go_enter Tryd.func29, Tryd.ntmps29
  go_wp2_with fail
  all_goals
    go_ret
    refine ⟨ret_int ?_, ((Below.refl _ w).alloc (Nat.le_refl _) _).alloc (by simp) _⟩
    clear HB
    unfold Spn.way
    repeat' split
    all_goals first | rfl | (exfalso; simp at *; omega)
set_option maxHeartbeats 1000000 in
theorem rof_any (a b c d : Int) (w : World) :
    Calls Tryd.prog 9 #[.agg #[.int .i64 a, .int .i64 b], .agg #[.int .i64 c, .int .i64 d]] w fun e w' => e = .returned (.tuple #[.int .i64 (ofR a b c d), .int .i64 (ofE a b c d)]) ∧ Below w.heap.size w w' := by
  have hB : Below w.heap.size w ((w.alloc (.cells #[.int .i64 a, .int .i64 b] 23)).alloc (.cells #[.int .i64 c, .int .i64 d] 23)) := ((Below.refl _ w).alloc (Nat.le_refl _) _).alloc (by simp) _
  have HB := hide hB
  clear hB
  by_cases h : a < b ∧ c < d
  · have e1 : ofR a b c d = (Spn.way a b c d : Nat) := by unfold ofR; rw [if_pos h]
    have e2 : ofE a b c d = 0 := by unfold ofE; rw [if_pos h]
    obtain ⟨h1, h2⟩ := h
    rw [e1, e2]
    have K := hide (fun W => rway_any a b c d W h1 h2)
    clear e1 e2
    generalize Spn.way a b c d = r at *
    go_enter Tryd.func9, Tryd.ntmps9
    go_wp2_with fail
    refine (K.out _).mono ?_
    rintro e W ⟨rfl, hb⟩
    go_wp2
    go_ret2
    exact ⟨rfl, HB.out.trans (hb.mono HB.out.size)⟩
  · have e1 : ofR a b c d = 0 := by unfold ofR; rw [if_neg h]
    have e2 : ofE a b c d = 13 := by unfold ofE; rw [if_neg h]
    rw [e1, e2]
    have h' : b ≤ a ∨ (a < b ∧ d ≤ c) := by omega
    clear e1 e2 h
    rcases h' with h1 | ⟨h1, h2⟩
    all_goals
      go_enter Tryd.func9, Tryd.ntmps9
      go_wp2
      go_ret2
      exact ⟨rfl, HB.out⟩
/-- how many ways a set has: of the first k -/
def cntN (s : Int) : Nat → Nat
  | 0 => 0
  | k + 1 => if hasB s k then cntN s k + 1 else cntN s k
theorem cntN_le (s : Int) : ∀ k, cntN s k ≤ k
  | 0 => Nat.le_refl 0
  | k + 1 => by have := cntN_le s k; unfold cntN; split <;> omega
theorem rcount_any (s : Int) (w : World) : Calls Tryd.prog 15 #[.int .i64 s] w fun e w' => e = .returned (.int .i64 (cntN s 13 : Nat)) ∧ w' = w := by
  go_enter Tryd.func15, Tryd.ntmps15
  go_wp2
  go_loop [3, 4] (fun c k => ∃ n : Nat, n ≤ 13 ∧ k = .int .i64 n ∧ c = .int .i64 (cntN s n : Nat)) (fun _ k => 13 - (intOf k).toNat)
  case atStart => exact ⟨0, by omega, rfl, rfl⟩
  case round =>
    obtain ⟨n, hn, rfl, rfl⟩ := hrel
    have hl := cntN_le s n
    by_cases hlt : n < 13
    · have hlti : (n : Int) < 13 := by omega
      have HA := hide (fun W => in_any s n W (by omega))
      obtain ⟨x, hx⟩ : ∃ x, hasB s n = x := ⟨_, rfl⟩
      have HJ : Hid (cntN s (n + 1) = if x then cntN s n + 1 else cntN s n) := by rw [← hx]; rfl
      rw [hx] at HA
      clear hx
      go_wp2_with fail
      refine (HA.out _).mono ?_
      rintro e W' ⟨rfl, rfl⟩
      cases x
      all_goals
        go_wp2
        go_round
        case rel => exact ⟨n + 1, by omega, by go_num, by rw [HJ.out]; rfl⟩
        case measure => simp [intOf]; omega
    · go_wp2
      go_ret
      have : n = 13 := by omega
      subst this
      exact ⟨rfl, rfl⟩
end Go.Proofs.YtnacplnddopomaaDoor
