/- The reference's CloseNet: plain mathematics. -/
import Derived.Test.YtnaggcadmfmibaaDoorSpnQ
import Derived.Test.YtnaggcadmfmibaaDoorSpnN
import Derived.Test.YtnaggcadmfmibaaDoorSpnP
namespace Go.Proofs.YtnaggcadmfmibaaDoor
open Go.RowKit
set_option linter.unusedVariables false
set_option linter.unusedSimpArgs false

/-- what the reference makes of one pair: turned round, and through the first j -/
def rst (N : Nat → Nat → Nat) (i k : Nat) : Nat → Nat
  | 0 => N i k &&& Bk (N k i)
  | j + 1 => rst N i k j &&& Jn (N i j) (N j k)
theorem rst_sub (N : Nat → Nat → Nat) (i k : Nat) : ∀ j, Sub (rst N i k j) (N i k)
  | 0 => and_sub_left _ _
  | j + 1 => (and_sub_left _ _).trans (rst_sub N i k j)
theorem rst_bk (N : Nat → Nat → Nat) (i k : Nat) : ∀ j, Sub (rst N i k j) (Bk (N k i))
  | 0 => and_sub_right _ _
  | j + 1 => (and_sub_left _ _).trans (rst_bk N i k j)
theorem rst_jn (N : Nat → Nat → Nat) (i k m : Nat) : ∀ j, m < j → Sub (rst N i k j) (Jn (N i m) (N m k))
  | j + 1, h => by
    rcases Nat.lt_or_ge m j with hl | hl
    · exact (and_sub_left _ _).trans (rst_jn N i k m j hl)
    · have : m = j := by omega
      subst this
      exact and_sub_right _ _
theorem rst_top {n : Nat} {M N : Nat → Nat → Nat} (hM : Closed n M) (h : Within n M N) {i k : Nat} (hi : i < n) (hk : k < n) : ∀ j, j ≤ n → Sub (M i k) (rst N i k j)
  | 0, _ => sub_and (h i k hi hk) ((hM.bk i k hi hk).trans (Bk_mono (h k i hk hi)))
  | j + 1, hj => sub_and (rst_top hM h hi hk j (by omega)) ((hM.jn i j k hi (by omega) hk).trans (Jn_mono (h i j hi (by omega)) (h j k (by omega) hk)))
/-- what the reference's net keeps -/
structure RI (n : Nat) (S N : Nat → Nat → Nat) : Prop where
  lt : ∀ i k, i < n → k < n → N i k < 8192
  eq : ∀ i, i < n → Sub (N i i) 64
  win : Within n N S
  low : ∀ M, Closed n M → Within n M S → Within n M N
def dg (S : Nat → Nat → Nat) (r : Nat) : Nat → Nat → Nat := fun a b => if a < r ∧ a = b then S a b &&& 64 else S a b
theorem dg_ri {n : Nat} {S : Nat → Nat → Nat} (hS : ∀ i k, i < n → k < n → S i k < 8192) : RI n S (dg S n) := by
  refine ⟨fun i k hi hk => ?_, fun i hi => ?_, fun i k hi hk => ?_, fun M hM hm i k hi hk => ?_⟩
  · unfold dg
    split
    · exact Nat.lt_of_le_of_lt Nat.and_le_left (hS i k hi hk)
    · exact hS i k hi hk
  · unfold dg
    rw [if_pos ⟨hi, rfl⟩]
    exact and_sub_right _ _
  · unfold dg
    split
    · exact and_sub_left _ _
    · exact Sub.refl _
  · unfold dg
    split
    · rename_i h
      obtain ⟨_, rfl⟩ := h
      exact sub_and (hm i i hi hi) (hM.eq i hi)
    · exact hm i k hi hk
theorem dg_next (S : Nat → Nat → Nat) (r a b : Nat) : upd (dg S r) r r (S r r &&& 64) a b = dg S (r + 1) a b := by
  unfold dg
  show (if a = r ∧ b = r then S r r &&& 64 else if a < r ∧ a = b then S a b &&& 64 else S a b) = if a < r + 1 ∧ a = b then S a b &&& 64 else S a b
  by_cases h1 : a = r ∧ b = r
  · obtain ⟨rfl, rfl⟩ := h1
    rw [if_pos ⟨rfl, rfl⟩, if_pos ⟨by omega, rfl⟩]
  · rw [if_neg h1]
    by_cases h2 : a < r ∧ a = b
    · rw [if_pos h2, if_pos ⟨by omega, h2.2⟩]
    · rw [if_neg h2, if_neg]
      rintro ⟨h3, h4⟩
      exact h2 ⟨by omega, h4⟩
theorem RI.set {n : Nat} {S N : Nat → Nat → Nat} (h : RI n S N) {i k : Nat} (hi : i < n) (hk : k < n) : RI n S (upd N i k (rst N i k n)) := by
  have hs := rst_sub N i k n
  have hw : Within n (upd N i k (rst N i k n)) N := fun a b ha hb => by
    show Sub (if a = i ∧ b = k then _ else N a b) (N a b)
    split
    · rename_i e; obtain ⟨rfl, rfl⟩ := e; exact hs
    · exact Sub.refl _
  refine ⟨fun a b ha hb => Nat.lt_of_le_of_lt (hw a b ha hb).le (h.lt a b ha hb), fun a ha => (hw a a ha ha).trans (h.eq a ha), fun a b ha hb => (hw a b ha hb).trans (h.win a b ha hb), fun M hM hm a b ha hb => ?_⟩
  show Sub (M a b) (if a = i ∧ b = k then _ else N a b)
  split
  · rename_i e; obtain ⟨rfl, rfl⟩ := e; exact rst_top hM (h.low M hM hm) ha hb n (Nat.le_refl _)
  · exact h.low M hM hm a b ha hb
theorem upd_tot {n : Nat} {N : Nat → Nat → Nat} {i k v : Nat} (hi : i < n) (hk : k < n) (hv : Sub v (N i k)) (hne : v ≠ N i k) : tot (upd N i k v) n n < tot N n n := by
  refine tot_lt hk (a := i) (b := k) ?_ n hi (fun a b ha hb => ?_)
  · show (if i = i ∧ k = k then v else N i k) < N i k
    rw [if_pos ⟨rfl, rfl⟩]
    have := hv.le
    omega
  · show (if a = i ∧ b = k then v else N a b) ≤ N a b
    split
    · rename_i e; obtain ⟨rfl, rfl⟩ := e; exact hv.le
    · exact Nat.le_refl _
/-- a pass without a change ends in the greatest closed net -/
theorem RI.great {n : Nat} {S N : Nat → Nat → Nat} (h : RI n S N) (q : ∀ i k, i < n → k < n → rst N i k n = N i k) : Great n S N := by
  refine ⟨⟨h.eq, fun i k hi hk => ?_, fun i j k hi hj hk => ?_⟩, h.win, h.low⟩
  · rw [← q i k hi hk]; exact rst_bk N i k n
  · have := rst_jn N i k j n hj
    rw [q i k hi hk] at this
    exact this
/-- what a pass keeps, from the net N0 on, when it has come to the pair i, k -/
structure PI (n : Nat) (S N0 N : Nat → Nat → Nat) (ls : Bool) (i k : Nat) : Prop where
  ri : RI n S N
  dec : ls = true → tot N n n < tot N0 n n
  same : ls = false → N = N0
  q : ls = false → ∀ a b, b < n → (a < i ∨ (a = i ∧ b < k)) → rst N a b n = N a b
theorem PI.start {n : Nat} {S N : Nat → Nat → Nat} (h : RI n S N) : PI n S N N false 0 0 :=
  ⟨h, fun h => (by cases h), fun _ => rfl, fun _ a b _ h => (by omega)⟩
theorem PI.row {n : Nat} {S N0 N : Nat → Nat → Nat} {ls : Bool} {i : Nat} (h : PI n S N0 N ls i n) : PI n S N0 N ls (i + 1) 0 :=
  ⟨h.ri, h.dec, h.same, fun hl a b hb hab => h.q hl a b hb (by omega)⟩
theorem PI.keep {n : Nat} {S N0 N : Nat → Nat → Nat} {ls : Bool} {i k : Nat} (h : PI n S N0 N ls i k) (e : rst N i k n = N i k) : PI n S N0 N ls i (k + 1) :=
  ⟨h.ri, h.dec, h.same, fun hl a b hb hab => by
    by_cases h1 : a = i ∧ b = k
    · obtain ⟨rfl, rfl⟩ := h1; exact e
    · exact h.q hl a b hb (by omega)⟩
theorem PI.chg {n : Nat} {S N0 N : Nat → Nat → Nat} {ls : Bool} {i k : Nat} (h : PI n S N0 N ls i k) (hi : i < n) (hk : k < n) (e : rst N i k n ≠ N i k) : PI n S N0 (upd N i k (rst N i k n)) true i (k + 1) := by
  have ht := upd_tot hi hk (rst_sub N i k n) e
  refine ⟨h.ri.set hi hk, fun _ => ?_, fun h => (by cases h), fun h => (by cases h)⟩
  cases ls
  · rw [← h.same rfl]; exact ht
  · exact Nat.lt_trans ht (h.dec rfl)
theorem PI.fin {n : Nat} {S N0 N : Nat → Nat → Nat} {i : Nat} (h : PI n S N0 N false i 0) (hi : n ≤ i) : Great n S N :=
  h.ri.great fun a b ha hb => h.q rfl a b hb (.inl (by omega))
end Go.Proofs.YtnaggcadmfmibaaDoor
