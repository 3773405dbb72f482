/- package span: sets of ways: has, isSet, join, Join; plain.SpanJoin. -/
import Derived.Test.YtnaggcadmfmibaaDoorSpnA
import Derived.Laws.Bits128
import Derived.Laws.BitsLemmas
namespace Go.Proofs.YtnaggcadmfmibaaDoor
open Go.RowKit
set_option linter.unusedVariables false
set_option linter.unusedSimpArgs false

theorem i64_and1 (n : Int) : bits .and .i64 n 1 = n % 2 := by
  have h127 : (BitVec.ofInt 64 1).toNat = 2 ^ 1 - 1 := by decide
  have key : (BitVec.ofInt 64 n &&& BitVec.ofInt 64 1).toNat = (n % ((2 ^ 64 : Nat) : Int)).toNat % 2 ^ 1 := by
    rw [BitVec.toNat_and, BitVec.toNat_ofInt, h127, Nat.and_two_pow_sub_one_eq_mod]
  show IntKind.i64.wrap ((BitVec.ofInt 64 n &&& BitVec.ofInt 64 1).toNat : Nat) = n % 2
  rw [key, IntKind.wrap_i64]
  omega
/-- has a set the way of this number? -/
def hasB (s : Int) (k : Nat) : Bool := s / 2 ^ k % 2 == 1
theorem has_any (s : Int) (k : Nat) (w : World) (hk : k ≤ 60) : Calls Tryd.prog 50 #[.int .i64 s, .int .i64 k] w fun e w' => e = .returned (.bool (hasB s k)) ∧ w' = w := by
  go_enter Tryd.func50, Tryd.ntmps50
  go_wp2
  go_ret
  refine ⟨?_, rfl⟩
  unfold hasB
  simp [i64_and1]
theorem isset_any (s : Int) (w : World) : Calls Tryd.prog 63 #[.int .i64 s] w fun e w' => e = .returned (.bool (decide (0 ≤ s ∧ s ≤ 8191))) ∧ w' = w := by
  go_enter Tryd.func63, Tryd.ntmps63
  go_wp2
  all_goals
    go_ret
    refine ⟨ret_bool ?_, rfl⟩
    simp
    try omega
theorem i64_or_nat (a b : Nat) (ha : a < 4611686018427387904) (hb : b < 4611686018427387904) : bits .or .i64 (a : Int) (b : Int) = ((a ||| b : Nat) : Int) := by
  have h1 : (BitVec.ofInt 64 (a : Int)).toNat = a := by rw [BitVec.toNat_ofInt]; omega
  have h2 : (BitVec.ofInt 64 (b : Int)).toNat = b := by rw [BitVec.toNat_ofInt]; omega
  have h3 : a ||| b < 2 ^ 62 := Nat.or_lt_two_pow ha hb
  show IntKind.i64.wrap ((BitVec.ofInt 64 (a : Int) ||| BitVec.ofInt 64 (b : Int)).toNat : Nat) = ((a ||| b : Nat) : Int)
  rw [BitVec.toNat_or, h1, h2, IntKind.wrap_i64]
  omega
def joinIn (p q : Int) (i : Nat) : Nat → Nat → Nat
  | 0, s => s
  | k + 1, s => if hasB p i && hasB q k then joinIn p q i k s ||| Spn.fol i k else joinIn p q i k s
def joinOut (p q : Int) : Nat → Nat
  | 0 => 0
  | i + 1 => joinIn p q i 13 (joinOut p q i)
def joinN (p q : Int) : Nat := joinOut p q 13
theorem joinIn_lt (p q : Int) (i : Nat) (hi : i < 13) : ∀ k s, k ≤ 13 → s < 8192 → joinIn p q i k s < 8192
  | 0, s, _, h => h
  | k + 1, s, hk, h => by
    have ih := joinIn_lt p q i hi k s (by omega) h
    unfold joinIn
    split
    · exact Nat.or_lt_two_pow (n := 13) ih (Spn.fol_lt i k hi (by omega))
    · exact ih
theorem joinOut_lt (p q : Int) : ∀ i, i ≤ 13 → joinOut p q i < 8192
  | 0, _ => by unfold joinOut; omega
  | i + 1, h => joinIn_lt p q i (by omega) 13 _ (Nat.le_refl _) (joinOut_lt p q i (by omega))
theorem joinN_lt (p q : Int) : joinN p q < 8192 := joinOut_lt p q 13 (Nat.le_refl _)
/-- package errors' variable, and the table of what follows of two ways -/
def FT (w : World) : Prop := Hd w ∧ 1 < w.heap.size ∧ ∀ i k : Nat, i < 13 → k < 13 → w.cell? ⟨1, i * 13 + k, none⟩ = some (.int .u16 (Spn.fol i k : Nat))
theorem FT.hd {w : World} (h : FT w) : Hd w := h.1
theorem FT.later {w w' : World} (h : FT w) (hb : Below w.heap.size w w') : FT w' :=
  ⟨h.1.later hb, Nat.lt_of_lt_of_le h.2.1 hb.size, fun i k hi hk => (hb.cell (p := ⟨1, i * 13 + k, none⟩) h.2.1).trans (h.2.2 i k hi hk)⟩
set_option maxHeartbeats 1000000 in
theorem join_any (p q : Int) (w : World) (hf : FT w) : Calls Tryd.prog 54 #[.int .i64 p, .int .i64 q] w fun e w' => e = .returned (.int .i64 (joinN p q : Nat)) ∧ w' = w := by
  have hc := hide hf.2.2
  clear hf
  go_enter Tryd.func54, Tryd.ntmps54
  go_wp2
  go_loop [8, 5] (fun i s => ∃ n : Nat, n ≤ 13 ∧ i = .int .i64 n ∧ s = .int .i64 (joinOut p q n : Nat)) (fun i _ => 13 - (intOf i).toNat)
  case atStart => exact ⟨0, by omega, rfl, rfl⟩
  case round =>
    obtain ⟨n, hn, rfl, rfl⟩ := hrel
    have hl := joinOut_lt p q n hn
    by_cases hlt : n < 13
    · go_wp2
      go_loop [7, 11, 5] (fun _ k s => ∃ m : Nat, m ≤ 13 ∧ k = .int .i64 m ∧ s = .int .i64 (joinIn p q n m (joinOut p q n) : Nat)) (fun _ k _ => 13 - (intOf k).toNat)
      case atStart => exact ⟨0, by omega, rfl, rfl⟩
      case round =>
        obtain ⟨m, hm, rfl, rfl⟩ := hrel
        have hl2 := joinIn_lt p q n hlt m _ hm hl
        by_cases hmt : m < 13
        · have g := hc.out n m hlt hmt
          have hfl := Spn.fol_lt n m hlt hmt
          have HO := hide (i64_or_nat (joinIn p q n m (joinOut p q n)) (Spn.fol n m) (by omega) (by omega))
          have HA := hide (fun W => has_any p n W (by omega))
          have HB := hide (fun W => has_any q m W (by omega))
          obtain ⟨x, hx⟩ : ∃ x, hasB p n = x := ⟨_, rfl⟩
          obtain ⟨y, hy⟩ : ∃ y, hasB q m = y := ⟨_, rfl⟩
          have HJ : Hid (joinIn p q n (m + 1) (joinOut p q n) = if x && y then joinIn p q n m (joinOut p q n) ||| Spn.fol n m else joinIn p q n m (joinOut p q n)) := by
            rw [← hx, ← hy]; rfl
          rw [hx] at HA
          rw [hy] at HB
          clear hx hy
          go_wp2_with fail
          refine (HA.out _).mono ?_
          rintro e W' ⟨rfl, rfl⟩
          cases x
          · go_wp2
            go_round
            case rel => exact ⟨m + 1, by omega, by go_num, by rw [HJ.out]; rfl⟩
            case measure => simp [intOf]; omega
          · go_wp2_with fail
            refine (HB.out _).mono ?_
            rintro e W' ⟨rfl, rfl⟩
            cases y
            · go_wp2
              go_round
              case rel => exact ⟨m + 1, by omega, by go_num, by rw [HJ.out]; rfl⟩
              case measure => simp [intOf]; omega
            · go_wp2
              go_round
              case rel => exact ⟨m + 1, by omega, by go_num, by rw [HJ.out, HO.out]; rfl⟩
              case measure => simp [intOf]; omega
        · go_wp2
          go_round
          obtain rfl : m = 13 := by omega
          case rel => exact ⟨n + 1, by omega, by go_num, rfl⟩
          case measure => simp [intOf]; omega
    · go_wp2
      go_ret
      have : n = 13 := by omega
      subst this
      exact ⟨rfl, rfl⟩
end Go.Proofs.YtnaggcadmfmibaaDoor
