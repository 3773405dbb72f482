/- package span: Join; plain.SpanJoin; pick. -/
import Derived.Test.YtnacplnddopomaaDoorSpnB
namespace Go.Proofs.YtnacplnddopomaaDoor
open Go.RowKit
set_option linter.unusedVariables false
set_option linter.unusedSimpArgs false

set_option maxHeartbeats 1000000 in
theorem cjoin_ok (p q : Int) (w : World) (hf : FT w) (hp : 0 ≤ p ∧ p ≤ 8191) (hq : 0 ≤ q ∧ q ≤ 8191) :
    Calls Tryd.prog 33 #[.int .i64 p, .int .i64 q] w fun e w' => e = .returned (.tuple #[.int .i64 (joinN p q : Nat), .nilIface]) ∧ w' = w := by
  have K1 := hide (fun W => isset_any p W)
  have K2 := hide (fun W => isset_any q W)
  have K3 := hide (join_any p q w hf)
  have e1 : decide (0 ≤ p ∧ p ≤ 8191) = true := by simpa using hp
  have e2 : decide (0 ≤ q ∧ q ≤ 8191) = true := by simpa using hq
  rw [e1] at K1
  rw [e2] at K2
  clear e1 e2 hp hq hf
  go_enter Tryd.func33, Tryd.ntmps33
  go_wp2_with fail
  refine (K1.out _).mono ?_
  rintro e W ⟨rfl, rfl⟩
  go_wp2_with fail
  refine (K2.out _).mono ?_
  rintro e W ⟨rfl, rfl⟩
  go_wp2_with fail
  refine K3.out.mono ?_
  rintro e W ⟨rfl, rfl⟩
  go_wp2
  go_ret2
  exact ⟨rfl, rfl⟩
set_option maxHeartbeats 1000000 in
theorem cjoin_no (p q : Int) (w : World) (h : ¬ (0 ≤ p ∧ p ≤ 8191) ∨ ¬ (0 ≤ q ∧ q ≤ 8191)) :
    Calls Tryd.prog 33 #[.int .i64 p, .int .i64 q] w fun e w' => e = .returned (.tuple #[.int .i64 0, .iface 25 (.int .i64 1)]) ∧ w' = w := by
  have K1 := hide (fun W => isset_any p W)
  have K2 := hide (fun W => isset_any q W)
  by_cases hp : 0 ≤ p ∧ p ≤ 8191
  · have hq := h.resolve_left (fun k => k hp)
    have e1 : decide (0 ≤ p ∧ p ≤ 8191) = true := by simpa using hp
    have e2 : decide (0 ≤ q ∧ q ≤ 8191) = false := decide_eq_false hq
    rw [e1] at K1
    rw [e2] at K2
    clear e1 e2 hp hq h
    go_enter Tryd.func33, Tryd.ntmps33
    go_wp2_with fail
    refine (K1.out _).mono ?_
    rintro e W ⟨rfl, rfl⟩
    go_wp2_with fail
    refine (K2.out _).mono ?_
    rintro e W ⟨rfl, rfl⟩
    go_wp2
    go_ret2
    exact ⟨rfl, rfl⟩
  · have e1 : decide (0 ≤ p ∧ p ≤ 8191) = false := decide_eq_false hp
    rw [e1] at K1
    clear e1 hp h
    go_enter Tryd.func33, Tryd.ntmps33
    go_wp2_with fail
    refine (K1.out _).mono ?_
    rintro e W ⟨rfl, rfl⟩
    go_wp2
    go_ret2
    exact ⟨rfl, rfl⟩
set_option maxHeartbeats 1000000 in
theorem pjoin_gen (p q r k : Int) (E : Value) (w : World) (hd : Hd w)
    (kc : Calls Tryd.prog 33 #[.int .i64 p, .int .i64 q] w fun e w' => e = .returned (.tuple #[.int .i64 r, E]) ∧ w' = w)
    (kt : ∀ W, Hd W → Calls Tryd.prog 28 #[E] W fun e w' => e = .returned (.int .i64 k) ∧ Below W.heap.size W w') :
    Calls Tryd.prog 12 #[.int .i64 p, .int .i64 q] w fun e w' => e = .returned (.tuple #[.int .i64 r, .int .i64 k]) ∧ Below w.heap.size w w' := by
  have KC := hide kc
  have KT := hide (kt w hd)
  clear kc kt hd
  go_enter Tryd.func12, Tryd.ntmps12
  go_wp2_with fail
  refine KC.out.mono ?_
  rintro e W ⟨rfl, rfl⟩
  go_wp2_with fail
  refine KT.out.mono ?_
  rintro e W2 ⟨rfl, b2⟩
  go_wp2
  go_ret2
  exact ⟨rfl, b2⟩
theorem pjoin_ok (p q : Int) (w : World) (hf : FT w) (hp : 0 ≤ p ∧ p ≤ 8191) (hq : 0 ≤ q ∧ q ≤ 8191) :
    Calls Tryd.prog 12 #[.int .i64 p, .int .i64 q] w fun e w' => e = .returned (.tuple #[.int .i64 (joinN p q : Nat), .int .i64 0]) ∧ Below w.heap.size w w' :=
  pjoin_gen p q _ 0 .nilIface w hf.hd (cjoin_ok p q w hf hp hq) (fun W _ => tell_nil W)
theorem pjoin_no (p q : Int) (w : World) (hd : Hd w) (h : ¬ (0 ≤ p ∧ p ≤ 8191) ∨ ¬ (0 ≤ q ∧ q ≤ 8191)) :
    Calls Tryd.prog 12 #[.int .i64 p, .int .i64 q] w fun e w' => e = .returned (.tuple #[.int .i64 0, .int .i64 1]) ∧ Below w.heap.size w w' :=
  pjoin_gen p q _ 1 _ w hd (cjoin_no p q w h) (fun W hW => tell_err 1 W hW)
theorem pick_any (n k : Int) (w : World) (h1 : 0 < k) (h2 : k ≤ 1000000) (h3 : -9223372036854775808 ≤ n) (h4 : n ≤ 9223372036854775807) :
    Calls Tryd.prog 26 #[.int .i64 n, .int .i64 k] w fun e w' => e = .returned (.int .i64 (n % k)) ∧ w' = w := by
  obtain ⟨hc, c1, c2⟩ := tmod_cases n k h1
  go_enter Tryd.func26, Tryd.ntmps26
  go_wp2
  all_goals
    go_ret
    refine ⟨ret_int ?_, rfl⟩
    first | omega | (rw [wrap64_id] <;> omega)
/-- a join of two single ways -/
theorem hasB_pow (x i : Nat) (hx : x < 13) (hi : i < 13) : hasB (2 ^ x : Nat) i = decide (i = x) := by
  have h : ∀ x : Fin 13, ∀ i : Fin 13, hasB (2 ^ x.1 : Nat) i.1 = decide (i.1 = x.1) := by decide +kernel
  exact h ⟨x, hx⟩ ⟨i, hi⟩
theorem joinN_pow (x y : Nat) (hx : x < 13) (hy : y < 13) : joinN (2 ^ x : Nat) (2 ^ y : Nat) = Spn.fol x y := by
  have h : ∀ x : Fin 13, ∀ y : Fin 13, joinN (2 ^ x.1 : Nat) (2 ^ y.1 : Nat) = Spn.fol x.1 y.1 := by decide +kernel
  exact h ⟨x, hx⟩ ⟨y, hy⟩
theorem hasB_bit (s z : Nat) : hasB (s : Int) z = s.testBit z := by
  unfold hasB
  rw [Nat.testBit_eq_decide_div_mod_eq]
  rw [Bool.eq_iff_iff]
  simp
  have : (s : Int) / 2 ^ z % 2 = ((s / 2 ^ z % 2 : Nat) : Int) := by simp
  rw [this]
  omega
/-- what plain.SpanOf tells, of whatever spans -/
def ofE (a b c d : Int) : Int := if a < b ∧ c < d then 0 else 13
def ofR (a b c d : Int) : Int := if a < b ∧ c < d then (Spn.way a b c d : Nat) else 0
theorem pof_any (a b c d : Int) (w : World) (hd : Hd w) :
    Calls Tryd.prog 8 #[.agg #[.int .i64 a, .int .i64 b], .agg #[.int .i64 c, .int .i64 d]] w fun e w' => e = .returned (.tuple #[.int .i64 (ofR a b c d), .int .i64 (ofE a b c d)]) ∧ Below w.heap.size w w' := by
  unfold ofE ofR
  by_cases h : a < b ∧ c < d
  · rw [if_pos h, if_pos h]; exact pof_ok a b c d w hd h.1 h.2
  · rw [if_neg h, if_neg h]; exact pof_no a b c d w hd (by omega)
theorem wrap64_pow (x : Nat) (h : x < 13) : wrap64 (2 ^ x) = ((2 ^ x : Nat) : Int) := by
  have g : ∀ x : Fin 13, wrap64 (2 ^ x.1) = ((2 ^ x.1 : Nat) : Int) := by decide +kernel
  exact g ⟨x, h⟩
theorem wrap_pow (x : Nat) (h : x < 13) : IntKind.i64.wrap (2 ^ x) = ((2 ^ x : Nat) : Int) := by
  have g : ∀ x : Fin 13, IntKind.i64.wrap (2 ^ x.1) = ((2 ^ x.1 : Nat) : Int) := by decide +kernel
  exact g ⟨x, h⟩
end Go.Proofs.YtnacplnddopomaaDoor
