/- Sets turned round, and counted: package span over math/bits; plain's wrappers. -/
import Derived.Test.YtnaggcadmfmibaaDoorSpnE
namespace Go.Proofs.YtnaggcadmfmibaaDoor
open Go.RowKit
set_option linter.unusedVariables false
set_option linter.unusedSimpArgs false

theorem u16_and255 (n : Int) : bits .and .u16 n 255 = n % 256 := by
  have h127 : (BitVec.ofInt 16 255).toNat = 2 ^ 8 - 1 := by decide
  have key : (BitVec.ofInt 16 n &&& BitVec.ofInt 16 255).toNat = (n % ((2 ^ 16 : Nat) : Int)).toNat % 2 ^ 8 := by
    rw [BitVec.toNat_and, BitVec.toNat_ofInt, h127, Nat.and_two_pow_sub_one_eq_mod]
  show IntKind.u16.wrap ((BitVec.ofInt 16 n &&& BitVec.ofInt 16 255).toNat : Nat) = n % 256
  rw [key]
  simp [IntKind.wrap, IntKind.signed, IntKind.bits]
  omega
theorem u16_or_nat (a b : Nat) (ha : a < 65536) (hb : b < 65536) : bits .or .u16 (a : Int) (b : Int) = ((a ||| b : Nat) : Int) := by
  have h1 : (BitVec.ofInt 16 (a : Int)).toNat = a := by rw [BitVec.toNat_ofInt]; omega
  have h2 : (BitVec.ofInt 16 (b : Int)).toNat = b := by rw [BitVec.toNat_ofInt]; omega
  have h3 : a ||| b < 2 ^ 16 := Nat.or_lt_two_pow ha hb
  show IntKind.u16.wrap ((BitVec.ofInt 16 (a : Int) ||| BitVec.ofInt 16 (b : Int)).toNat : Nat) = ((a ||| b : Nat) : Int)
  rw [BitVec.toNat_or, h1, h2]
  simp [IntKind.wrap, IntKind.signed, IntKind.bits]
  omega
theorem u16_id (a : Nat) (h : a < 65536) : IntKind.u16.wrap (a : Int) = a := by
  simp [IntKind.wrap, IntKind.signed, IntKind.bits]; omega
/-- a byte's bits, from behind -/
def rv8 (j : Nat) : Nat := j % 2 * 128 + j / 2 % 2 * 64 + j / 4 % 2 * 32 + j / 8 % 2 * 16 + j / 16 % 2 * 8 + j / 32 % 2 * 4 + j / 64 % 2 * 2 + j / 128 % 2
theorem rv8_lt (j : Nat) : rv8 j < 256 := by unfold rv8; omega
theorem getb (T : ByteArray) (j : Nat) (h : j < T.size) : T[j] = T.get! j := by
  show T.data[j] = T.data[j]!
  exact (getElem!_pos T.data j h).symm
set_option maxRecDepth 100000 in
set_option maxHeartbeats 4000000 in
theorem rev_any (x : Nat) (w : World) (hx : x < 8192) : Calls Tryd.prog 66 #[.int .u16 x] w fun e w' => e = .returned (.int .u16 ((rv8 (x / 256) ||| rv8 (x % 256) * 256 : Nat) : Int)) ∧ Below w.heap.size w w' := by
  have hor := hide (u16_or_nat (rv8 (x / 256)) (rv8 (x % 256) * 256) (by have := rv8_lt (x / 256); omega) (by have := rv8_lt (x % 256); omega))
  have hi1 := hide (u16_id (rv8 (x / 256)) (by have := rv8_lt (x / 256); omega))
  have hi2 := hide (u16_id (rv8 (x % 256)) (by have := rv8_lt (x % 256); omega))
  have hi3 := hide (u16_id (rv8 (x % 256) * 256) (by have := rv8_lt (x % 256); omega))
  go_enter Tryd.func66, Tryd.ntmps66
  generalize hT : (ByteArray.mk (List.toArray (List.append _ _))) = T
  have hs : T.size = 256 := by rw [← hT]; rfl
  have HT : Hid (∀ j : Nat, (h : j < T.size) → T[j].toNat = rv8 j) := by
    have k : ∀ j : Fin 256, (T.get! j.1).toNat = rv8 j.1 := by
      rw [← hT]
      decide +kernel
    exact fun j h => by rw [getb T j h]; exact k ⟨j, by omega⟩
  clear hT
  have h1 : (x : Int) / 256 < 256 := by omega
  have h2 : 0 ≤ (x : Int) / 256 := by omega
  have h3 : (x : Int) % 256 < 256 := by omega
  have h4 : 0 ≤ (x : Int) % 256 := by omega
  have h5 := u16_and255 x
  go_wp2_with fail
  go_quiet (fail)
  go_wp2
  go_ret
  refine ⟨?_, below_dr (Below.refl _ _) _⟩
  rw [HT.out, HT.out, hi1.out, hi2.out]
  have hmul : ((rv8 (x % 256) : Nat) : Int) * 256 = ((rv8 (x % 256) * 256 : Nat) : Int) := by omega
  rw [hmul, hi3.out, hor.out]
  rfl
/-- a set turned round: of its first k ways -/
def bkN (s : Int) : Nat → Nat
  | 0 => 0
  | k + 1 => if hasB s k then bkN s k ||| 2 ^ (12 - k) else bkN s k
theorem bkN_lt (s : Int) : ∀ k, k ≤ 13 → bkN s k < 8192
  | 0, _ => by unfold bkN; omega
  | k + 1, h => by
    have ih := bkN_lt s k (by omega)
    unfold bkN
    split
    · exact Nat.or_lt_two_pow (n := 13) ih (Nat.pow_lt_pow_right (by omega) (by omega))
    · exact ih
theorem rev_bk (x : Nat) (hx : x < 8192) : (rv8 (x / 256) ||| rv8 (x % 256) * 256) / 8 = bkN x 13 := by
  have g : ((List.range 8192).all fun x => (rv8 (x / 256) ||| rv8 (x % 256) * 256) / 8 == bkN x 13) = true := by decide +kernel
  rw [List.all_eq_true] at g
  simpa using g x (by simpa using hx)
theorem cback_any (x : Nat) (w : World) (hx : x < 8192) : Calls Tryd.prog 53 #[.int .i64 x] w fun e w' => e = .returned (.int .i64 (bkN x 13 : Nat)) ∧ Below w.heap.size w w' := by
  have K := hide (fun W => rev_any x W hx)
  have hb := rev_bk x hx
  have hl := bkN_lt x 13 (Nat.le_refl _)
  generalize bkN x 13 = r at *
  generalize rv8 (x / 256) ||| rv8 (x % 256) * 256 = y at *
  have hy : (y : Int) / 8 = r := by omega
  have hy2 : y < 65536 := by omega
  clear hb
  go_enter Tryd.func53, Tryd.ntmps53
  go_wp2_with fail
  refine (K.out _).mono ?_
  rintro e W ⟨rfl, hb⟩
  go_wp2
  go_ret
  exact ⟨ret_int (by omega), hb⟩
/-- the set turned round, or what is told -/
def bkR (p : Int) : Int := if 0 ≤ p ∧ p ≤ 8191 then (bkN p 13 : Nat) else 0
def bkE (p : Int) : Int := if 0 ≤ p ∧ p ≤ 8191 then 0 else 1
theorem rback_any (p : Int) (w : World) : Calls Tryd.prog 23 #[.int .i64 p] w fun e w' => e = .returned (.tuple #[.int .i64 (bkR p), .int .i64 (bkE p)]) ∧ w' = w := by
  have K1 := hide (fun W => setok_any p W)
  unfold bkR bkE
  by_cases h : 0 ≤ p ∧ p ≤ 8191
  · rw [if_pos h, if_pos h]
    have e1 : decide (0 ≤ p ∧ p ≤ 8191) = true := decide_eq_true h
    rw [e1] at K1
    clear e1 h
    go_enter Tryd.func23, Tryd.ntmps23
    go_wp2_with fail
    refine (K1.out _).mono ?_
    rintro e W ⟨rfl, rfl⟩
    go_wp2_with fail
    go_loop [4, 5] (fun c k => ∃ n : Nat, n ≤ 13 ∧ k = .int .i64 n ∧ c = .int .i64 (bkN p n : Nat)) (fun _ k => 13 - (intOf k).toNat)
    case atStart => exact ⟨0, by omega, rfl, rfl⟩
    case round =>
      obtain ⟨n, hn, rfl, rfl⟩ := hrel
      by_cases hlt : n < 13
      · have hlti : (n : Int) < 13 := by omega
        have hl := bkN_lt p n hn
        have HA := hide (fun W => in_any p n W (by omega))
        have HO : Hid (bits .or .i64 (bkN p n : Nat) (wrap64 (2 ^ (12 - n))) = ((bkN p n ||| 2 ^ (12 - n) : Nat) : Int)) := by
          have g : (2 : Nat) ^ (12 - n) ≤ 2 ^ 13 := Nat.pow_le_pow_right (by omega) (by omega)
          rw [wrap64_pow (12 - n) (by omega)]
          exact i64_or_nat _ _ (by omega) (by omega)
        have HJ : Hid (bkN p (n + 1) = if hasB p n then bkN p n ||| 2 ^ (12 - n) else bkN p n) := rfl
        generalize hasB p n = x at *
        generalize bkN p n = r at *
        go_wp2_with fail
        refine (HA.out _).mono ?_
        rintro e W' ⟨rfl, rfl⟩
        cases x
        · go_wp2
          go_round
          case rel => exact ⟨n + 1, by omega, by go_num, by rw [HJ.out]; rfl⟩
          case measure => simp [intOf]; omega
        · go_wp2
          go_round
          case rel => exact ⟨n + 1, by omega, by go_num, by rw [HJ.out, HO.out]; rfl⟩
          case measure => simp [intOf]; omega
      · go_wp2
        go_ret2
        have : n = 13 := by omega
        subst this
        exact ⟨rfl, rfl⟩
  · rw [if_neg h, if_neg h]
    have e1 : decide (0 ≤ p ∧ p ≤ 8191) = false := decide_eq_false h
    rw [e1] at K1
    clear e1 h
    go_enter Tryd.func23, Tryd.ntmps23
    go_wp2_with fail
    refine (K1.out _).mono ?_
    rintro e W ⟨rfl, rfl⟩
    go_wp2
    go_ret2
    exact ⟨rfl, rfl⟩
end Go.Proofs.YtnaggcadmfmibaaDoor
