/- package span: marks. -/
import Derived.Test.YtnaggcadmfmibaaDoorSqP
namespace Go.Proofs.YtnaggcadmfmibaaDoor
open Go.RowKit
set_option linter.unusedVariables false
set_option linter.unusedSimpArgs false

/-- is a number among two words' marks? -/
def mb (A : Nat → Nat) (b : Nat) : Bool := (A (b / 64)).testBit (b % 64)
theorem u64_and1 (x : Nat) (k : Nat) (hx : x < 18446744073709551616) : bits .and .u64 ((x : Int) / 2 ^ k) 1 = ((x.testBit k).toNat : Nat) := by
  have h : ((x : Int) / 2 ^ k) = ((x / 2 ^ k : Nat) : Int) := by simp
  have hle : x / 2 ^ k ≤ x := Nat.div_le_self _ _
  rw [h, show (1 : Int) = ((1 : Nat) : Int) from rfl, u64_and_nat _ _ (by omega) (by omega)]
  congr 1
  rw [Nat.testBit_eq_decide_div_mod_eq, Nat.and_one_is_mod]
  by_cases h : x / 2 ^ k % 2 = 1
  · rw [h]; rfl
  · have : x / 2 ^ k % 2 = 0 := by omega
    rw [this]; rfl
theorem u64_or_nat (a b : Nat) (ha : a < 18446744073709551616) (hb : b < 18446744073709551616) : bits .or .u64 (a : Int) (b : Int) = ((a ||| b : Nat) : Int) := by
  have h1 : (BitVec.ofInt 64 (a : Int)).toNat = a := by rw [BitVec.toNat_ofInt]; omega
  have h2 : (BitVec.ofInt 64 (b : Int)).toNat = b := by rw [BitVec.toNat_ofInt]; omega
  have h3 : a ||| b < 2 ^ 64 := Nat.or_lt_two_pow (by omega) (by omega)
  show IntKind.u64.wrap ((BitVec.ofInt 64 (a : Int) ||| BitVec.ofInt 64 (b : Int)).toNat : Nat) = ((a ||| b : Nat) : Int)
  rw [BitVec.toNat_or, h1, h2]
  exact u64_id _ (by omega)
theorem mq (b : Nat) : (b : Int).tdiv 64 = ((b / 64 : Nat) : Int) ∧ (b : Int).tmod 64 = ((b % 64 : Nat) : Int) := ⟨rfl, rfl⟩
set_option maxHeartbeats 2000000 in
theorem mhas_any (A : Nat → Nat) (b : Nat) (w : World) (hA : ∀ j, A j < 18446744073709551616) (hb : b < 128) :
    Calls Tryd.prog 39 #[.agg #[.int .u64 (A 0 : Nat), .int .u64 (A 1 : Nat)], .int .i64 b] w fun e w' => e = .returned (.bool (mb A b)) ∧ Below w.heap.size w w' := by
  have hB : Below w.heap.size w (w.alloc (.cells #[.int .u64 (A 0 : Nat), .int .u64 (A 1 : Nat)] 59)) := (Below.refl _ w).alloc (Nat.le_refl _) _
  have HB := hide hB
  clear hB
  go_enter Tryd.func39, Tryd.ntmps39
  unfold mb
  rcases (show b / 64 = 0 ∨ b / 64 = 1 by omega) with e | e
  · have e1 : (b : Int) / 64 = 0 := by omega
    rw [e]
    go_wp2_with fail
    go_ret
    refine ⟨ret_bool ?_, HB.out⟩
    rw [u64_and1 _ _ (hA _)]
    cases (A _).testBit (b % 64) <;> rfl
  · have e1 : (b : Int) / 64 = 1 := by omega
    rw [e]
    go_wp2_with fail
    go_ret
    refine ⟨ret_bool ?_, HB.out⟩
    rw [u64_and1 _ _ (hA _)]
    cases (A _).testBit (b % 64) <;> rfl
theorem both2_bit (A D : Nat → Nat) (b : Nat) : mb (fun j => A j &&& D j) b = (mb A b && mb D b) := by unfold mb; dsimp only; rw [Nat.testBit_and]
set_option maxHeartbeats 2000000 in
theorem mboth_any (A D : Nat → Nat) (w : World) (hA : ∀ j, A j < 18446744073709551616) (hD : ∀ j, D j < 18446744073709551616) :
    Calls Tryd.prog 56 #[.agg #[.int .u64 (A 0 : Nat), .int .u64 (A 1 : Nat)], .agg #[.int .u64 (D 0 : Nat), .int .u64 (D 1 : Nat)]] w fun e w' => e = .returned (.agg #[.int .u64 (A 0 &&& D 0 : Nat), .int .u64 (A 1 &&& D 1 : Nat)]) ∧ Below w.heap.size w w' := by
  have e0 := u64_and_nat (A 0) (D 0) (hA 0) (hD 0)
  have e1 := u64_and_nat (A 1) (D 1) (hA 1) (hD 1)
  rw [← e0, ← e1]
  clear e0 e1
  go_enter Tryd.func56, Tryd.ntmps56
  go_wp2_with fail
  refine bodyPost_ret (v := .agg #[.int .u64 (bits .and .u64 (A 0 : Nat) (D 0 : Nat)), .int .u64 (bits .and .u64 (A 1 : Nat) (D 1 : Nat))]) (by simp [results, Tryd.results56, go_sem]) rfl ⟨rfl, ?_⟩
  exact (((Below.refl _ w).alloc (Nat.le_refl _) _).alloc (by simp) _).alloc (by simp; omega) _
theorem cnt_split (A : Nat → Nat) : cntB (mb A) 128 = cntB (fun j => (A 0).testBit j) 64 + cntB (fun j => (A 1).testBit j) 64 := by
  rw [show 128 = 64 + 64 from rfl, cntB_add]
  have e1 : cntB (mb A) 64 = cntB (fun j => (A 0).testBit j) 64 := cntB_congr 64 fun k hk => by unfold mb; rw [show k / 64 = 0 by omega, show k % 64 = k by omega]
  have e2 : cntB (fun k => mb A (64 + k)) 64 = cntB (fun j => (A 1).testBit j) 64 := cntB_congr 64 fun k hk => by unfold mb; rw [show (64 + k) / 64 = 1 by omega, show (64 + k) % 64 = k by omega]
  rw [e1, e2]
set_option maxHeartbeats 2000000 in
theorem ones_all (x : Nat) (w : World) (hx : x < 18446744073709551616) : Calls Tryd.prog 68 #[.int .u64 x] w fun e w' => e = .returned (.int .i64 (cntB (fun j => x.testBit j) 64 : Nat)) ∧ w' = w := by
  have hl := cntB_le (fun j => x.testBit j) 64
  go_enter Tryd.func68, Tryd.ntmps68
  go_wp2
  go_ret
  refine ⟨ret_int ?_, rfl⟩
  have q1 : IntKind.u64.wrap (bits .and .u64 ((x : Int) / 2) 6148914691236517205 + bits .and .u64 (x : Int) 6148914691236517205) = (s1 x : Nat) := by
    have h1 := u64_and_nat (x / 2) 6148914691236517205 (by omega) (by omega)
    have h2 := u64_and_nat x 6148914691236517205 hx (by omega)
    have h4 := u64_id (s1 x) (s1_lt x)
    rw [← h4]
    congr 1
    unfold s1
    rw [Int.natCast_add, ← h1, ← h2]
    rfl
  have q2 : IntKind.u64.wrap (bits .and .u64 ((s1 x : Nat) / 4 : Int) 3689348814741910323 + bits .and .u64 ((s1 x : Nat) : Int) 3689348814741910323) = (s2 (s1 x) : Nat) := by
    have hs := s1_lt x
    have h1 := u64_and_nat (s1 x / 4) 3689348814741910323 (by omega) (by omega)
    have h2 := u64_and_nat (s1 x) 3689348814741910323 hs (by omega)
    have h4 := u64_id (s2 (s1 x)) (s2_lt x).1
    rw [← h4]
    congr 1
    unfold s2
    rw [Int.natCast_add, ← h1, ← h2]
    rfl
  have q3 : bits .and .u64 (IntKind.u64.wrap ((s2 (s1 x) : Nat) / 16 + (s2 (s1 x) : Nat) : Int)) 1085102592571150095 = (s3 (s2 (s1 x)) : Nat) := by
    have h4 := u64_id (s2 (s1 x) / 16 + s2 (s1 x)) (s2_lt x).2
    rw [show ((s2 (s1 x) : Nat) / 16 + (s2 (s1 x) : Nat) : Int) = ((s2 (s1 x) / 16 + s2 (s1 x) : Nat) : Int) by omega, h4]
    exact u64_and_nat _ 1085102592571150095 (s2_lt x).2 (by omega)
  simp only [q1, q2, q3]
  obtain ⟨h1, h2, h3, h4, h5⟩ := pop_all (x := x) rfl rfl rfl
  generalize s3 (s2 (s1 x)) = y at *
  have a1 : IntKind.u64.wrap ((y : Int) + y / 256) = ((y + y / 256 : Nat) : Int) := by
    rw [← u64_id _ h2]; congr 1
  simp only [a1]
  generalize y + y / 256 = a at *
  have a2 : IntKind.u64.wrap ((a : Int) + a / 65536) = ((a + a / 65536 : Nat) : Int) := by
    rw [← u64_id _ h3]; congr 1
  simp only [a2]
  generalize a + a / 65536 = b at *
  have a3 : IntKind.u64.wrap ((b : Int) + b / 4294967296) = ((b + b / 4294967296 : Nat) : Int) := by
    rw [← u64_id _ (show b + b / 4294967296 < 18446744073709551616 by omega)]; congr 1
  simp only [a3]
  rw [wrap64_id (by omega) (by omega), ← h5]
  exact i64_and_nat (b + b / 4294967296) 127 h4 (by omega)
set_option maxHeartbeats 2000000 in
theorem mcount_any (A : Nat → Nat) (w : World) (hA : ∀ j, A j < 18446744073709551616) :
    Calls Tryd.prog 57 #[.agg #[.int .u64 (A 0 : Nat), .int .u64 (A 1 : Nat)]] w fun e w' => e = .returned (.int .i64 (cntB (mb A) 128 : Nat)) ∧ Below w.heap.size w w' := by
  have hB : Below w.heap.size w (w.alloc (.cells #[.int .u64 (A 0 : Nat), .int .u64 (A 1 : Nat)] 59)) := (Below.refl _ w).alloc (Nat.le_refl _) _
  have HB := hide hB
  have K0 := hide (fun j W => ones_all (A j) W (hA j))
  have l0 : ∀ i, cntB (fun j => (A i).testBit j) 64 ≤ 64 := fun i => cntB_le _ 64
  rw [cnt_split]
  clear hB
  generalize hc : (fun i => cntB (fun j => (A i).testBit j) 64) = c at *
  have hc' : ∀ i, cntB (fun j => (A i).testBit j) 64 = c i := fun i => by rw [← hc]
  rw [hc', hc']
  have K0 : Hid (∀ j W, Calls Tryd.prog 68 #[.int .u64 (A j : Nat)] W fun e w' => e = .returned (.int .i64 (c j : Nat)) ∧ w' = W) := fun j W => by rw [← hc' j]; exact K0.out j W
  have l1 : ∀ i, c i ≤ 64 := fun i => by rw [← hc' i]; exact l0 i
  clear hc hc' l0
  have l0 := l1 0
  have l2 := l1 1
  go_enter Tryd.func57, Tryd.ntmps57
  go_wp2_with fail
  go_quiet (first | (go_at_call 68; exact Calls.quiet_of_same (K0.out _ _)))
  have HBq := hide (below_dr HB.out nq)
  go_wp2
  go_ret
  refine ⟨ret_int ?_, HBq.out⟩
  omega
set_option maxHeartbeats 2000000 in
theorem madd_any (B o : Nat) (A : Nat → Nat) (b : Nat) (w : World) (hA : ∀ j, A j < 18446744073709551616) (hb : b < 128)
    (h0 : w.cell? ⟨B, o + b / 64, none⟩ = some (.int .u64 (A (b / 64) : Nat))) (f0 : w.frozen? ⟨B, o + b / 64, none⟩ = false) :
    Calls Tryd.prog 38 #[.pointer (some ⟨B, o, none⟩), .int .i64 b] w fun e w' => e = .returned (.tuple #[]) ∧ w' = (w.setCell ⟨B, o + b / 64, none⟩ (.int .u64 (A (b / 64) ||| 2 ^ (b % 64) : Nat))).drew := by
  have HO : Hid (bits .or .u64 ((A (b / 64) : Nat) : Int) ((2 ^ (b % 64) : Nat) : Int) = ((A (b / 64) ||| 2 ^ (b % 64) : Nat) : Int)) :=
    u64_or_nat _ _ (hA _) (Nat.pow_lt_pow_right (by omega) (Nat.mod_lt b (by omega)))
  have HW : Hid (IntKind.u64.wrap (2 ^ (b % 64)) = ((2 ^ (b % 64) : Nat) : Int)) := by
    have h1 : 2 ^ (b % 64) < 2 ^ 64 := Nat.pow_lt_pow_right (by omega) (Nat.mod_lt b (by omega))
    have := u64_id (2 ^ (b % 64)) (by omega)
    unfold Hid
    rw [← this]
    congr 1
  rcases (show b / 64 = 0 ∨ b / 64 = 1 by omega) with e | e
  · have e1 : (b : Int) / 64 = 0 := by omega
    rw [e] at h0 f0 HO ⊢
    simp only [Nat.add_zero] at h0 f0 ⊢
    go_enter Tryd.func38, Tryd.ntmps38
    go_wp2_with fail
    go_region
    rw [HW.out, HO.out]
    go_wp2
    go_end0
    exact ⟨rfl, rfl⟩
  · have e1 : (b : Int) / 64 = 1 := by omega
    rw [e] at h0 f0 HO ⊢
    go_enter Tryd.func38, Tryd.ntmps38
    go_wp2_with fail
    go_region
    rw [HW.out, HO.out]
    go_wp2
    go_end0
    exact ⟨rfl, rfl⟩
end Go.Proofs.YtnaggcadmfmibaaDoor
