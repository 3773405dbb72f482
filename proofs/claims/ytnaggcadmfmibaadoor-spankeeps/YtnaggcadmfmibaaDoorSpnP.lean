/- Nets that are closed: plain mathematics: sets as bits, turning round, joining; the greatest closed net within a net. -/
import Derived.Test.YtnaggcadmfmibaaDoorSpnF
namespace Go.Proofs.YtnaggcadmfmibaaDoor
open Go.RowKit
set_option linter.unusedVariables false
set_option linter.unusedSimpArgs false

/-- is one set within the other? -/
def Sub (s t : Nat) : Prop := ∀ z, s.testBit z = true → t.testBit z = true
theorem Sub.refl (s : Nat) : Sub s s := fun _ h => h
theorem Sub.trans {a b c : Nat} (h : Sub a b) (k : Sub b c) : Sub a c := fun z hz => k z (h z hz)
theorem Sub.and_eq {s t : Nat} (h : Sub s t) : s &&& t = s := by
  apply Nat.eq_of_testBit_eq
  intro z
  rw [Nat.testBit_and]
  cases hz : s.testBit z with
  | false => rfl
  | true => rw [h z hz]; rfl
theorem Sub.le {s t : Nat} (h : Sub s t) : s ≤ t := by rw [← h.and_eq]; exact Nat.and_le_right
theorem Sub.antisymm {s t : Nat} (h : Sub s t) (k : Sub t s) : s = t := Nat.le_antisymm h.le k.le
theorem and_sub_left (s t : Nat) : Sub (s &&& t) s := fun z h => by rw [Nat.testBit_and] at h; simp at h; exact h.1
theorem and_sub_right (s t : Nat) : Sub (s &&& t) t := fun z h => by rw [Nat.testBit_and] at h; simp at h; exact h.2
theorem sub_and {r s t : Nat} (h : Sub r s) (k : Sub r t) : Sub r (s &&& t) := fun z hz => by rw [Nat.testBit_and, h z hz, k z hz]; rfl
/-- a set, turned round; two sets, joined -/
def Bk (s : Nat) : Nat := bkN s 13
def Jn (p q : Nat) : Nat := joinN p q
theorem bkN_bit (s : Nat) (j : Nat) : ∀ k, k ≤ 13 → (bkN s k).testBit j = (decide (j ≤ 12 ∧ 12 - j < k) && s.testBit (12 - j))
  | 0, _ => by unfold bkN; simp
  | k + 1, h => by
    have ih := bkN_bit s j k (by omega)
    unfold bkN
    rw [hasB_bit]
    by_cases hb : s.testBit k = true
    · rw [if_pos hb, Nat.testBit_or, ih, Nat.testBit_two_pow]
      by_cases hj : 12 - k = j
      · have h1 : 12 - j = k := by omega
        rw [h1, hb]
        simp [hj]; omega
      · simp only [hj, decide_false, Bool.or_false]
        congr 1
        rw [decide_eq_decide]
        omega
    · rw [if_neg hb, ih]
      by_cases hj : 12 - j = k ∧ j ≤ 12
      · rw [hj.1]; simp only [Bool.not_eq_true] at hb; rw [hb]; simp
      · congr 1
        rw [decide_eq_decide]
        omega
theorem Bk_bit (s j : Nat) : (Bk s).testBit j = (decide (j ≤ 12) && s.testBit (12 - j)) := by
  unfold Bk
  rw [bkN_bit s j 13 (Nat.le_refl _)]
  congr 1
  rw [decide_eq_decide]
  omega
theorem Bk_lt (s : Nat) : Bk s < 8192 := bkN_lt s 13 (Nat.le_refl _)
theorem bit_le {s z : Nat} (h : s < 8192) (hz : s.testBit z = true) : z ≤ 12 := by
  rcases Nat.lt_or_ge 12 z with hl | hl
  · have : s < 2 ^ z := Nat.lt_of_lt_of_le h (show 2 ^ 13 ≤ 2 ^ z from Nat.pow_le_pow_right (by omega) (by omega))
    rw [Nat.testBit_lt_two_pow this] at hz; cases hz
  · exact hl
theorem Bk_Bk {s : Nat} (h : s < 8192) : Bk (Bk s) = s := by
  apply Nat.eq_of_testBit_eq
  intro z
  rw [Bk_bit, Bk_bit]
  by_cases hz : z ≤ 12
  · rw [show 12 - (12 - z) = z by omega]; simp [hz]
  · cases hb : s.testBit z with
    | false => simp [hz]
    | true => exact absurd (bit_le h hb) hz
theorem Bk_mono {s t : Nat} (h : Sub s t) : Sub (Bk s) (Bk t) := fun z hz => by
  rw [Bk_bit] at hz ⊢
  simp only [Bool.and_eq_true] at hz ⊢
  exact ⟨hz.1, h _ hz.2⟩
theorem joinIn_bit (p q : Nat) (i z : Nat) : ∀ (k s : Nat), (joinIn p q i k s).testBit z = true ↔ s.testBit z = true ∨ ∃ j, j < k ∧ p.testBit i = true ∧ q.testBit j = true ∧ (Spn.fol i j).testBit z = true
  | 0, s => by unfold joinIn; exact ⟨.inl, fun h => h.elim id (fun ⟨j, hj, _⟩ => absurd hj (Nat.not_lt_zero _))⟩
  | k + 1, s => by
    have ih := joinIn_bit p q i z k s
    unfold joinIn
    rw [hasB_bit, hasB_bit]
    by_cases hb : (p.testBit i && q.testBit k) = true
    · rw [if_pos hb, Nat.testBit_or, Bool.or_eq_true, ih]
      simp only [Bool.and_eq_true] at hb
      constructor
      · rintro ((h | ⟨j, hj, h⟩) | h)
        · exact .inl h
        · exact .inr ⟨j, by omega, h⟩
        · exact .inr ⟨k, by omega, hb.1, hb.2, h⟩
      · rintro (h | ⟨j, hj, h1, h2, h3⟩)
        · exact .inl (.inl h)
        · rcases Nat.lt_or_ge j k with hl | hl
          · exact .inl (.inr ⟨j, hl, h1, h2, h3⟩)
          · have : j = k := by omega
            subst this; exact .inr h3
    · rw [if_neg hb, ih]
      constructor
      · rintro (h | ⟨j, hj, h⟩)
        · exact .inl h
        · exact .inr ⟨j, by omega, h⟩
      · rintro (h | ⟨j, hj, h1, h2, h3⟩)
        · exact .inl h
        · rcases Nat.lt_or_ge j k with hl | hl
          · exact .inr ⟨j, hl, h1, h2, h3⟩
          · have : j = k := by omega
            subst this; exact absurd (by simp [h1, h2]) hb
theorem joinOut_bit (p q z : Nat) : ∀ i : Nat, (joinOut p q i).testBit z = true ↔ ∃ a, a < i ∧ ∃ j, j < 13 ∧ p.testBit a = true ∧ q.testBit j = true ∧ (Spn.fol a j).testBit z = true
  | 0 => by unfold joinOut; simp
  | i + 1 => by
    have ih := joinOut_bit p q z i
    unfold joinOut
    rw [joinIn_bit, ih]
    constructor
    · rintro (⟨a, ha, h⟩ | h)
      · exact ⟨a, by omega, h⟩
      · exact ⟨i, by omega, h⟩
    · rintro ⟨a, ha, h⟩
      rcases Nat.lt_or_ge a i with hl | hl
      · exact .inl ⟨a, hl, h⟩
      · have : a = i := by omega
        subst this; exact .inr h
theorem Jn_mono {p p' q q' : Nat} (h : Sub p p') (k : Sub q q') : Sub (Jn p q) (Jn p' q') := fun z hz => by
  unfold Jn joinN at *
  rw [joinOut_bit] at hz ⊢
  obtain ⟨a, ha, j, hj, h1, h2, h3⟩ := hz
  exact ⟨a, ha, j, hj, h _ h1, k _ h2, h3⟩
theorem Jn_lt (p q : Nat) : Jn p q < 8192 := joinN_lt p q
/-- a net that no third span makes less -/
structure Closed (n : Nat) (N : Nat → Nat → Nat) : Prop where
  eq : ∀ i, i < n → Sub (N i i) 64
  bk : ∀ i k, i < n → k < n → Sub (N i k) (Bk (N k i))
  jn : ∀ i j k, i < n → j < n → k < n → Sub (N i k) (Jn (N i j) (N j k))
def Within (n : Nat) (M N : Nat → Nat → Nat) : Prop := ∀ i k, i < n → k < n → Sub (M i k) (N i k)
/-- the greatest closed net within a net -/
structure Great (n : Nat) (S N : Nat → Nat → Nat) : Prop where
  cl : Closed n N
  le : Within n N S
  top : ∀ M, Closed n M → Within n M S → Within n M N
theorem Great.one {n : Nat} {S N N' : Nat → Nat → Nat} (h : Great n S N) (h' : Great n S N') (i k : Nat) (hi : i < n) (hk : k < n) : N i k = N' i k :=
  Sub.antisymm (h'.top N h.cl h.le i k hi hk) (h.top N' h'.cl h'.le i k hi hk)
/-- a net that matches -/
structure Mat (n : Nat) (N : Nat → Nat → Nat) : Prop where
  lt : ∀ i k, i < n → k < n → N i k < 8192
  eq : ∀ i, i < n → Sub (N i i) 64
  bk : ∀ i k, i < n → k < n → N k i = Bk (N i k)
def upd2 (N : Nat → Nat → Nat) (i k v : Nat) : Nat → Nat → Nat := fun a b => if a = i ∧ b = k then v else if a = k ∧ b = i then Bk v else N a b
theorem sub64 {s : Nat} (h : Sub s 64) : s = 0 ∨ s = 64 := by
  have hl := h.le
  have hb : ∀ z, z ≠ 6 → s.testBit z = false := fun z hz => by
    cases hs : s.testBit z with
    | false => rfl
    | true =>
      have := h z hs
      rw [show (64 : Nat) = 2 ^ 6 from rfl, Nat.testBit_two_pow] at this
      simp at this
      exact absurd this.symm hz
  cases h6 : s.testBit 6 with
  | false =>
    left
    apply Nat.eq_of_testBit_eq
    intro z
    rw [Nat.zero_testBit]
    by_cases hz : z = 6
    · rw [hz]; exact h6
    · exact hb z hz
  | true =>
    right
    apply Nat.eq_of_testBit_eq
    intro z
    rw [show (64 : Nat) = 2 ^ 6 from rfl, Nat.testBit_two_pow]
    by_cases hz : z = 6
    · rw [hz, h6]; rfl
    · rw [hb z hz]; simp; omega
theorem Bk_0 : Bk 0 = 0 := by decide +kernel
theorem Bk_64 : Bk 64 = 64 := by decide +kernel
theorem Bk_eq {s : Nat} (h : Sub s 64) : Bk s = s := by
  rcases sub64 h with rfl | rfl
  · exact Bk_0
  · exact Bk_64
theorem Mat.step {n : Nat} {N : Nat → Nat → Nat} (h : Mat n N) {i k v : Nat} (hi : i < n) (hk : k < n) (hv : Sub v (N i k)) : Mat n (upd2 N i k v) := by
  have hvl : v < 8192 := Nat.lt_of_le_of_lt hv.le (h.lt i k hi hk)
  have hd : i = k → Sub v 64 := fun e => by subst e; exact hv.trans (h.eq i hi)
  refine ⟨fun a b ha hb => ?_, fun a ha => ?_, fun a b ha hb => ?_⟩
  · unfold upd2
    split
    · exact hvl
    · split
      · exact Bk_lt v
      · exact h.lt a b ha hb
  · unfold upd2
    split
    · rename_i e; exact hd (e.1.symm.trans e.2)
    · split
      · rename_i e; rw [Bk_eq (hd (e.2.symm.trans e.1))]; exact hd (e.2.symm.trans e.1)
      · exact h.eq a ha
  · unfold upd2
    by_cases e1 : a = i ∧ b = k
    · by_cases e2 : b = i ∧ a = k
      · have e : i = k := e1.1.symm.trans e2.2
        rw [if_pos e2, if_pos e1, Bk_eq (hd e)]
      · rw [if_neg e2, if_pos ⟨e1.2, e1.1⟩, if_pos e1]
    · by_cases e2 : b = i ∧ a = k
      · rw [if_pos e2, if_neg e1, if_pos ⟨e2.2, e2.1⟩, Bk_Bk hvl]
      · have e3 : ¬ (b = k ∧ a = i) := fun g => e1 ⟨g.2, g.1⟩
        have e4 : ¬ (a = k ∧ b = i) := fun g => e2 ⟨g.2, g.1⟩
        rw [if_neg e2, if_neg e3, if_neg e1, if_neg e4]
        exact h.bk a b ha hb
theorem within_step {n : Nat} {M N : Nat → Nat → Nat} (hm : Closed n M) (h : Within n M N) {i j k : Nat} (hi : i < n) (hj : j < n) (hk : k < n) : Within n M (upd2 N i k (N i k &&& Jn (N i j) (N j k))) := by
  have hv : Sub (M i k) (N i k &&& Jn (N i j) (N j k)) := sub_and (h i k hi hk) ((hm.jn i j k hi hj hk).trans (Jn_mono (h i j hi hj) (h j k hj hk)))
  intro a b ha hb
  unfold upd2
  split
  · rename_i e; obtain ⟨rfl, rfl⟩ := e; exact hv
  · split
    · rename_i e; obtain ⟨rfl, rfl⟩ := e; exact (hm.bk a b ha hb).trans (Bk_mono hv)
    · exact h a b ha hb
theorem upd2_within {n : Nat} {N : Nat → Nat → Nat} (h : Mat n N) {i k v : Nat} (hi : i < n) (hk : k < n) (hv : Sub v (N i k)) : Within n (upd2 N i k v) N := by
  intro a b ha hb
  unfold upd2
  split
  · rename_i e; obtain ⟨rfl, rfl⟩ := e; exact hv
  · split
    · rename_i e; obtain ⟨rfl, rfl⟩ := e; rw [h.bk b a hb ha]; exact Bk_mono hv
    · exact Sub.refl _
/-- how much there is in a net -/
def row (N : Nat → Nat → Nat) (i : Nat) : Nat → Nat
  | 0 => 0
  | k + 1 => row N i k + N i k
def tot (N : Nat → Nat → Nat) (n : Nat) : Nat → Nat
  | 0 => 0
  | i + 1 => tot N n i + row N i n
theorem row_le {M N : Nat → Nat → Nat} {i : Nat} : ∀ k, (∀ b, b < k → M i b ≤ N i b) → row M i k ≤ row N i k
  | 0, _ => Nat.le_refl _
  | k + 1, h => by have := row_le k (fun b hb => h b (by omega)); have := h k (by omega); unfold row; omega
theorem row_lt {M N : Nat → Nat → Nat} {i b : Nat} (hb : M i b < N i b) : ∀ k, b < k → (∀ b, b < k → M i b ≤ N i b) → row M i k < row N i k
  | k + 1, hk, h => by
    have hl := row_le k (fun b hb => h b (by omega))
    unfold row
    rcases Nat.lt_or_ge b k with g | g
    · have := row_lt hb k g (fun b hb => h b (by omega)); have := h k (by omega); omega
    · have : b = k := by omega
      subst this; omega
theorem tot_le {M N : Nat → Nat → Nat} {n : Nat} : ∀ m, (∀ a b, a < m → b < n → M a b ≤ N a b) → tot M n m ≤ tot N n m
  | 0, _ => Nat.le_refl _
  | m + 1, h => by have := tot_le m (fun a b ha hb => h a b (by omega) hb); have := row_le n (fun b hb => h m b (by omega) hb); unfold tot; omega
theorem tot_lt {M N : Nat → Nat → Nat} {n a b : Nat} (hb : b < n) (hl : M a b < N a b) : ∀ m, a < m → (∀ a b, a < m → b < n → M a b ≤ N a b) → tot M n m < tot N n m
  | m + 1, hm, h => by
    have h1 := tot_le m (fun a b ha hb => h a b (by omega) hb)
    have h2 := row_le n (fun b hb => h m b (by omega) hb)
    unfold tot
    rcases Nat.lt_or_ge a m with g | g
    · have := tot_lt hb hl m g (fun a b ha hb => h a b (by omega) hb); omega
    · have : a = m := by omega
      subst this
      have := row_lt hl n hb (fun b hb => h a b (by omega) hb); omega
theorem upd2_tot {n : Nat} {N : Nat → Nat → Nat} (h : Mat n N) {i k v : Nat} (hi : i < n) (hk : k < n) (hv : Sub v (N i k)) (hne : v ≠ N i k) : tot (upd2 N i k v) n n < tot N n n := by
  have hw := upd2_within h hi hk hv
  refine tot_lt hk (a := i) (b := k) ?_ n hi (fun a b ha hb => (hw a b ha hb).le)
  unfold upd2
  rw [if_pos ⟨rfl, rfl⟩]
  have := hv.le
  omega
end Go.Proofs.YtnaggcadmfmibaaDoor
