/- How many ways a set has: package span over math/bits. -/
import Derived.Test.YtnaggcadmfmibaaDoorSpnE
namespace Go.Proofs.YtnaggcadmfmibaaDoor
open Go.RowKit
set_option linter.unusedVariables false
set_option linter.unusedSimpArgs false

theorem u64_and_nat (a b : Nat) (ha : a < 18446744073709551616) (hb : b < 18446744073709551616) : bits .and .u64 (a : Int) (b : Int) = ((a &&& b : Nat) : Int) := by
  have h1 : (BitVec.ofInt 64 (a : Int)).toNat = a := by rw [BitVec.toNat_ofInt]; omega
  have h2 : (BitVec.ofInt 64 (b : Int)).toNat = b := by rw [BitVec.toNat_ofInt]; omega
  have h3 : a &&& b ≤ a := Nat.and_le_left
  show IntKind.u64.wrap ((BitVec.ofInt 64 (a : Int) &&& BitVec.ofInt 64 (b : Int)).toNat : Nat) = ((a &&& b : Nat) : Int)
  rw [BitVec.toNat_and, h1, h2]
  simp [IntKind.wrap, IntKind.signed, IntKind.bits]
  omega
theorem i64_and_nat (a b : Nat) (ha : a < 4611686018427387904) (hb : b < 4611686018427387904) : bits .and .i64 (a : Int) (b : Int) = ((a &&& b : Nat) : Int) := by
  have h1 : (BitVec.ofInt 64 (a : Int)).toNat = a := by rw [BitVec.toNat_ofInt]; omega
  have h2 : (BitVec.ofInt 64 (b : Int)).toNat = b := by rw [BitVec.toNat_ofInt]; omega
  have h3 : a &&& b ≤ a := Nat.and_le_left
  show IntKind.i64.wrap ((BitVec.ofInt 64 (a : Int) &&& BitVec.ofInt 64 (b : Int)).toNat : Nat) = ((a &&& b : Nat) : Int)
  rw [BitVec.toNat_and, h1, h2, IntKind.wrap_i64]
  omega
theorem u64_id (a : Nat) (h : a < 18446744073709551616) : IntKind.u64.wrap (a : Int) = a := by
  simp [IntKind.wrap, IntKind.signed, IntKind.bits]; omega
def s1 (x : Nat) : Nat := (x / 2 &&& 6148914691236517205) + (x &&& 6148914691236517205)
def s2 (x : Nat) : Nat := (x / 4 &&& 3689348814741910323) + (x &&& 3689348814741910323)
def s3 (x : Nat) : Nat := (x / 16 + x) &&& 1085102592571150095
theorem s1_le (x : Nat) : s1 x ≤ 2 * x := by
  have h1 : x / 2 &&& 6148914691236517205 ≤ x / 2 := Nat.and_le_left
  have h2 : x &&& 6148914691236517205 ≤ x := Nat.and_le_left
  unfold s1; omega
theorem s2_le (x : Nat) : s2 x ≤ 2 * x := by
  have h1 : x / 4 &&& 3689348814741910323 ≤ x / 4 := Nat.and_le_left
  have h2 : x &&& 3689348814741910323 ≤ x := Nat.and_le_left
  unfold s2; omega
theorem s3_le (x : Nat) : s3 x ≤ 2 * x := by
  have h1 : (x / 16 + x) &&& 1085102592571150095 ≤ x / 16 + x := Nat.and_le_left
  unfold s3; omega
def popN (x : Nat) : Nat :=
  let y := s3 (s2 (s1 x))
  let a := y + y / 256
  let b := a + a / 65536
  (b + b / 4294967296) &&& 127
theorem pop_cnt (x : Nat) (hx : x < 8192) : popN x = cntN x 13 := by
  have g : ((List.range 8192).all fun x => popN x == cntN x 13) = true := by decide +kernel
  rw [List.all_eq_true] at g
  simpa using g x (by simpa using hx)
theorem e1 (x : Nat) (h : x < 1000000) : IntKind.u64.wrap (bits .and .u64 ((x : Int) / 2) 6148914691236517205 + bits .and .u64 (x : Int) 6148914691236517205) = (s1 x : Nat) := by
  have h1 := u64_and_nat (x / 2) 6148914691236517205 (by omega) (by omega)
  have h2 := u64_and_nat x 6148914691236517205 (by omega) (by omega)
  have h3 := s1_le x
  have h4 := u64_id (s1 x) (by omega)
  rw [← h4]
  congr 1
  unfold s1
  rw [Int.natCast_add, ← h1, ← h2]
  rfl
theorem e2 (x : Nat) (h : x < 1000000) : IntKind.u64.wrap (bits .and .u64 ((x : Int) / 4) 3689348814741910323 + bits .and .u64 (x : Int) 3689348814741910323) = (s2 x : Nat) := by
  have h1 := u64_and_nat (x / 4) 3689348814741910323 (by omega) (by omega)
  have h2 := u64_and_nat x 3689348814741910323 (by omega) (by omega)
  have h3 := s2_le x
  have h4 := u64_id (s2 x) (by omega)
  rw [← h4]
  congr 1
  unfold s2
  rw [Int.natCast_add, ← h1, ← h2]
  rfl
theorem e3 (x : Nat) (h : x < 1000000) : bits .and .u64 (IntKind.u64.wrap ((x : Int) / 16 + x)) 1085102592571150095 = (s3 x : Nat) := by
  have h4 := u64_id (x / 16 + x) (by omega)
  rw [show (x : Int) / 16 + x = ((x / 16 + x : Nat) : Int) by omega, h4]
  exact u64_and_nat (x / 16 + x) 1085102592571150095 (by omega) (by omega)
theorem e4 (x k : Nat) (h : x < 1000000) (hk : 2 ≤ k) : IntKind.u64.wrap ((x : Int) + x / (k : Int)) = (x + x / k : Nat) := by
  have : x / k ≤ x := Nat.div_le_self x k
  have h4 := u64_id (x + x / k) (by omega)
  rw [← h4]
  congr 1
set_option maxHeartbeats 1000000 in
theorem ones64_any (x : Nat) (w : World) (hx : x < 8192) : Calls Tryd.prog 68 #[.int .u64 x] w fun e w' => e = .returned (.int .i64 (cntN x 13 : Nat)) ∧ w' = w := by
  have hp := pop_cnt x hx
  go_enter Tryd.func68, Tryd.ntmps68
  go_wp2
  go_ret
  refine ⟨ret_int ?_, rfl⟩
  have l1 := s1_le x
  have l2 := s2_le (s1 x)
  have l3 := s3_le (s2 (s1 x))
  rw [← hp]
  unfold popN
  simp only [e1 x (by omega), e2 (s1 x) (by omega), e3 (s2 (s1 x)) (by omega)]
  generalize s3 (s2 (s1 x)) = y at *
  have a1 : IntKind.u64.wrap ((y : Int) + y / 256) = ((y + y / 256 : Nat) : Int) := e4 y 256 (by omega) (by omega)
  simp only [a1]
  have hA : y + y / 256 < 70000 := by omega
  generalize y + y / 256 = A at *
  have a2 : IntKind.u64.wrap ((A : Int) + A / 65536) = ((A + A / 65536 : Nat) : Int) := e4 A 65536 (by omega) (by omega)
  simp only [a2]
  have hB : A + A / 65536 < 80000 := by omega
  generalize hBe : A + A / 65536 = B at *
  have hB' : B < 1000000 := by omega
  have a3 : IntKind.u64.wrap ((B : Int) + B / 4294967296) = ((B + B / 4294967296 : Nat) : Int) := e4 B 4294967296 (by omega) (by omega)
  simp only [a3]
  rw [wrap64_id (by omega) (by omega)]
  exact i64_and_nat (B + B / 4294967296) 127 (by omega) (by omega)
theorem cnt_mod (s : Int) : cntN s 13 = cntN (s % 8192) 13 := by
  have g : ∀ k : Nat, k < 13 → hasB s k = hasB (s % 8192) k := by
    intro k hk
    unfold hasB
    have : s / 2 ^ k % 2 = s % 8192 / 2 ^ k % 2 := by
      match k, hk with
      | 0, _ => omega
      | 1, _ => omega
      | 2, _ => omega
      | 3, _ => omega
      | 4, _ => omega
      | 5, _ => omega
      | 6, _ => omega
      | 7, _ => omega
      | 8, _ => omega
      | 9, _ => omega
      | 10, _ => omega
      | 11, _ => omega
      | 12, _ => omega
    rw [this]
  have h : ∀ k, k ≤ 13 → cntN s k = cntN (s % 8192) k := by
    intro k
    induction k with
    | zero => intro _; rfl
    | succ k ih =>
      intro hk
      unfold cntN
      rw [g k (by omega), ih (by omega)]
  exact h 13 (Nat.le_refl _)
theorem i64_and8191 (n : Int) : bits .and .i64 n 8191 = n % 8192 := by
  have h127 : (BitVec.ofInt 64 8191).toNat = 2 ^ 13 - 1 := by decide
  have key : (BitVec.ofInt 64 n &&& BitVec.ofInt 64 8191).toNat = (n % ((2 ^ 64 : Nat) : Int)).toNat % 2 ^ 13 := by
    rw [BitVec.toNat_and, BitVec.toNat_ofInt, h127, Nat.and_two_pow_sub_one_eq_mod]
  show IntKind.i64.wrap ((BitVec.ofInt 64 n &&& BitVec.ofInt 64 8191).toNat : Nat) = n % 8192
  rw [key, IntKind.wrap_i64]
  omega
end Go.Proofs.YtnaggcadmfmibaaDoor
