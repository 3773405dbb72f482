/- SpanKeeps, plain mathematics: spans that lie as a net says lie as the greatest closed net within it says. -/
import Derived.Test.YtnaggcadmfmibaaDoorSpoB
namespace Go.Proofs.YtnaggcadmfmibaaDoor
open Go.RowKit
set_option linter.unusedVariables false
set_option linter.unusedSimpArgs false

/-- the ways of a list, one bit each -/
def wyN (s t : Nat → Int) (i k : Nat) : Nat := 2 ^ Spn.way (s i) (t i) (s k) (t k)
theorem sub_pow {z S : Nat} : Sub (2 ^ z) S ↔ S.testBit z = true := by
  refine ⟨fun h => h z (by rw [Nat.testBit_two_pow]; simp), fun h y hy => ?_⟩
  rw [Nat.testBit_two_pow] at hy
  have : z = y := of_decide_eq_true hy
  rw [← this]; exact h
theorem way_same (a b : Int) (h : a < b) : Spn.way a b a b = 6 := by
  have h1 := Spn.way_back a b a b h h
  have h2 := Spn.way_lt a b a b
  omega
theorem wyN_closed {n : Nat} {s t : Nat → Int} (h : ∀ i, i < n → s i < t i) : Closed n (wyN s t) := by
  refine ⟨fun i hi => ?_, fun i k hi hk => ?_, fun i j k hi hj hk => ?_⟩
  · unfold wyN
    rw [way_same _ _ (h i hi)]
    exact Sub.refl _
  · have hl := Spn.way_lt (s i) (t i) (s k) (t k)
    unfold wyN
    rw [sub_pow, Bk_bit, Spn.way_back (s i) (t i) (s k) (t k) (h i hi) (h k hk), Nat.testBit_two_pow]
    simp
    omega
  · unfold wyN
    rw [sub_pow]
    unfold Jn joinN
    rw [joinOut_bit]
    refine ⟨Spn.way (s i) (t i) (s j) (t j), Spn.way_lt _ _ _ _, Spn.way (s j) (t j) (s k) (t k), Spn.way_lt _ _ _ _, ?_, ?_, Spn.comp _ _ _ _ _ _ (h i hi) (h j hj) (h k hk)⟩
    · rw [Nat.testBit_two_pow]; simp
    · rw [Nat.testBit_two_pow]; simp
/-- what lies within a net lies within the greatest closed net in it -/
theorem wyN_great {n : Nat} {s t : Nat → Int} {S N : Nat → Nat → Nat} (h : ∀ i, i < n → s i < t i) (hg : Great n S N) (hw : ∀ i k, i < n → k < n → (S i k).testBit (Spn.way (s i) (t i) (s k) (t k)) = true) (i k : Nat) (hi : i < n) (hk : k < n) :
    (N i k).testBit (Spn.way (s i) (t i) (s k) (t k)) = true :=
  sub_pow.1 (hg.top (wyN s t) (wyN_closed h) (fun a b ha hb => sub_pow.2 (hw a b ha hb)) i k hi hk)
theorem lieR_iff {g : Nat → Nat → Int} {s t : Nat → Int} {i : Nat} : ∀ n, lieR g s t i n = true ↔ ∀ k, k < n → hasB (g i k) (Spn.way (s i) (t i) (s k) (t k)) = true
  | 0 => by unfold lieR; simp
  | n + 1 => by
    unfold lieR
    rw [Bool.and_eq_true, lieR_iff n]
    refine ⟨fun ⟨h1, h2⟩ k hk => ?_, fun h => ⟨fun k hk => h k (by omega), h n (by omega)⟩⟩
    rcases Nat.lt_or_ge k n with hl | hl
    · exact h1 k hl
    · have : k = n := by omega
      subst this; exact h2
theorem lieA_iff {g : Nat → Nat → Int} {s t : Nat → Int} {n : Nat} : ∀ m, lieA g s t n m = true ↔ ∀ i, i < m → ∀ k, k < n → hasB (g i k) (Spn.way (s i) (t i) (s k) (t k)) = true
  | 0 => by unfold lieA; simp
  | m + 1 => by
    unfold lieA
    rw [Bool.and_eq_true, lieA_iff m, lieR_iff]
    refine ⟨fun ⟨h1, h2⟩ i hi => ?_, fun h => ⟨fun i hi => h i (by omega), h m (by omega)⟩⟩
    rcases Nat.lt_or_ge i m with hl | hl
    · exact h1 i hl
    · have : i = m := by omega
      subst this; exact h2
theorem anyB_none {b : Nat → Bool} : ∀ n, (∀ k, k < n → b k = false) → anyB b n = false
  | 0, _ => rfl
  | n + 1, h => by unfold anyB; rw [anyB_none n (fun k hk => h k (by omega)), h n (by omega)]; rfl
theorem chk_zero {n : Nat} {g : Nat → Nat → Int} (n1 : 1 ≤ n) (n6 : n ≤ 6) (h : ∀ i k, i < n → k < n → noSet (g i k) = false) : chk n (fun _ => n) g = 0 := by
  unfold chk
  rw [if_neg (by omega)]
  have : ∀ k, chkF n (fun _ => n) g k = 0 := by
    intro k
    induction k with
    | zero => rfl
    | succ k ih =>
      unfold chkF
      rw [if_pos rfl, anyB_none n (fun c hc => h _ c (by omega) hc)]
      exact ih
  exact this n
/-- spans that lie as a net says: its closing tells no error, and they lie as the closed net says -/
theorem keeps_close {n m : Nat} {L : Nat → Nat} {g : Nat → Nat → Int} {s t : Nat → Int} {k : Int} {M : Nat → Nat → Nat} (h : hldR n m L g s t = true) (hc : CloR n g (chk n L g) k M) :
    k = 0 ∧ hldR n m (fun _ => n) (fun i c => (M i c : Int)) s t = true := by
  unfold hldR at h
  rw [Bool.and_eq_true] at h
  obtain ⟨he, hl⟩ := h
  have he : hldE n m L g s t = 0 := of_decide_eq_true he
  unfold hldE at he
  by_cases hz : chk n L g = 0
  · rw [if_pos hz] at he
    by_cases hm : m = n
    · rw [if_pos hm] at he
      have hv : anyB (fun c => decide (t c ≤ s c)) n = false := by
        cases hb : anyB (fun c => decide (t c ≤ s c)) n with
        | false => rfl
        | true => rw [hb] at he; simp at he
      have hs : ∀ i, i < n → s i < t i := fun i hi => by
        have := anyB_false n hv i hi
        have := of_decide_eq_false this
        omega
      obtain ⟨n1, n6, _, hg⟩ := chk_ok hz
      have hw : ∀ i j, i < n → j < n → (cpN n g n i j).testBit (Spn.way (s i) (t i) (s j) (t j)) = true := fun i j hi hj => by
        have h1 := (lieA_iff n).1 hl i hi j hj
        have h2 := (hg i j hi hj).1
        unfold cpN
        rw [if_pos ⟨hi, hj⟩, ← hasB_bit]
        rw [Int.toNat_of_nonneg h2]
        exact h1
      rcases hc with ⟨h1, _⟩ | ⟨_, N, hN, h3⟩
      · exact absurd hz h1
      · have hb := fun i j hi hj => wyN_great hs hN hw i j hi hj
        rcases h3 with ⟨hn, _⟩ | ⟨_, hk, rfl⟩
        · exfalso
          obtain ⟨i, hi, h4⟩ := (anyB_iff n).1 hn
          obtain ⟨j, hj, h5⟩ := (anyB_iff n).1 h4
          have h6 := hb i j hi hj
          have h7 : N i j = 0 := by have := eq_of_beq h5; omega
          rw [h7, Nat.zero_testBit] at h6
          cases h6
        · refine ⟨hk, ?_⟩
          have hlt : ∀ i j, i < n → j < n → M i j < 8192 := fun i j hi hj => Nat.lt_of_le_of_lt (hN.le i j hi hj).le (cpN_lt hg i j)
          have hz2 : chk n (fun _ => n) (fun i c => (M i c : Int)) = 0 := chk_zero n1 n6 (fun i j hi hj => by
            have := hlt i j hi hj
            unfold noSet
            simp
            omega)
          unfold hldR hldE
          rw [if_pos hz2, if_pos hm, hv]
          have h8 : lieA (fun i c => (M i c : Int)) s t n n = true := (lieA_iff n).2 fun i hi j hj => by
            rw [hasB_bit]; exact hb i j hi hj
          rw [h8]
          rfl
    · rw [if_neg hm] at he; cases he
  · rw [if_neg hz] at he; exact absurd he hz
end Go.Proofs.YtnaggcadmfmibaaDoor
