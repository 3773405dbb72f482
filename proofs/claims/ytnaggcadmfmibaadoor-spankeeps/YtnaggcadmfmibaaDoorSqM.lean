/- The search for spans: plain mathematics. -/
import Derived.Test.YtnaggcadmfmibaaDoorSpoC
import Derived.Test.YtnaggcadmfmibaaDoorSqP
namespace Go.Proofs.YtnaggcadmfmibaaDoor
open Go.RowKit
set_option linter.unusedVariables false
set_option linter.unusedSimpArgs false

def upN (f : Nat → Nat) (i v : Nat) : Nat → Nat := fun k => if k = i then v else f k
theorem upN_at (f : Nat → Nat) (i v : Nat) : upN f i v i = v := by unfold upN; rw [if_pos rfl]
theorem upN_no (f : Nat → Nat) (i v k : Nat) (h : k ≠ i) : upN f i v k = f k := by unfold upN; rw [if_neg h]
/-! numbers -/
def FullS (n M : Nat) (R : Nat → Nat → Nat → Nat → Bool) (r : Nat → Nat) : Prop := (∀ k, k < n → r k < M) ∧ ∀ i k, i < n → k < n → i ≠ k → R i k (r i) (r k) = true
def ExtS (n M : Nat) (R : Nat → Nat → Nat → Nat → Bool) (C : Nat → Bool) (may : Nat → Nat → Bool) : Prop :=
  ∃ r : Nat → Nat, (∀ k, k < n → C k = false → r k < M ∧ may k (r k) = true) ∧ ∀ i k, i < n → k < n → C i = false → C k = false → i ≠ k → R i k (r i) (r k) = true
def chC (C : Nat → Bool) (i : Nat) : Nat → Bool := fun k => if k = i then true else C k
def chM (R : Nat → Nat → Nat → Nat → Bool) (C : Nat → Bool) (may : Nat → Nat → Bool) (i a : Nat) : Nat → Nat → Bool := fun k b => if chC C i k = true then may k b else may k b && R i k a b
def SymR (n M : Nat) (R : Nat → Nat → Nat → Nat → Bool) : Prop := ∀ i k a b, i < n → k < n → a < M → b < M → R i k a b = R k i b a
theorem ext_ch {n M : Nat} {R : Nat → Nat → Nat → Nat → Bool} (hs : SymR n M R) {C : Nat → Bool} {may : Nat → Nat → Bool} {i : Nat} (hi : i < n) (hC : C i = false) :
    ExtS n M R C may ↔ ∃ a, a < M ∧ may i a = true ∧ ExtS n M R (chC C i) (chM R C may i a) := by
  constructor
  · rintro ⟨r, h1, h2⟩
    refine ⟨r i, (h1 i hi hC).1, (h1 i hi hC).2, r, fun k hk hc => ?_, fun a b ha hb hca hcb hne => ?_⟩
    · have hc' := hc
      unfold chC at hc
      split at hc
      · cases hc
      · rename_i hki
        refine ⟨(h1 k hk hc).1, ?_⟩
        unfold chM
        rw [hc']
        simp [(h1 k hk hc).2, h2 i k hi hk hC hc (fun h => hki h.symm)]
    · unfold chC at hca hcb
      split at hca
      · cases hca
      · split at hcb
        · cases hcb
        · exact h2 a b ha hb hca hcb hne
  · rintro ⟨a, ha, hm, r, h1, h2⟩
    have hx : ∀ k, k < n → C k = false → k ≠ i → r k < M ∧ may k (r k) = true ∧ R i k a (r k) = true := fun k hk hc hne => by
      have hc' : chC C i k = false := by unfold chC; rw [if_neg hne]; exact hc
      have := h1 k hk hc'
      unfold chM at this
      rw [hc'] at this
      simp at this
      exact this
    refine ⟨upN r i a, fun k hk hc => ?_, fun x y hxn hyn hcx hcy hne => ?_⟩
    · by_cases h : k = i
      · subst h; rw [upN_at]; exact ⟨ha, hm⟩
      · rw [upN_no _ _ _ _ h]; exact ⟨(hx k hk hc h).1, (hx k hk hc h).2.1⟩
    · by_cases h : x = i
      · subst h
        rw [upN_at, upN_no _ _ _ _ (fun h => hne h.symm)]
        exact (hx y hyn hcy (fun h => hne h.symm)).2.2
      · by_cases h' : y = i
        · subst h'
          rw [upN_at, upN_no _ _ _ _ h, hs x y (r x) a hxn hi (hx x hxn hcx h).1 ha]
          exact (hx x hxn hcx h).2.2
        · rw [upN_no _ _ _ _ h, upN_no _ _ _ _ h']
          exact h2 x y hxn hyn (by unfold chC; rw [if_neg h]; exact hcx) (by unfold chC; rw [if_neg h']; exact hcy) hne
theorem ext_all {n M : Nat} {R : Nat → Nat → Nat → Nat → Bool} {C : Nat → Bool} {may : Nat → Nat → Bool} (h : ∀ k, k < n → C k = true) : ExtS n M R C may :=
  ⟨fun _ => 0, fun k hk hc => (by rw [h k hk] at hc; cases hc), fun i k hi hk hc => (by rw [h i hi] at hc; cases hc)⟩
theorem ext_no {n M : Nat} {R : Nat → Nat → Nat → Nat → Bool} {C : Nat → Bool} {may : Nat → Nat → Bool} {k : Nat} (hk : k < n) (hc : C k = false) (h : ∀ b, b < M → may k b = false) : ¬ ExtS n M R C may := by
  rintro ⟨r, h1, _⟩
  have := h1 k hk hc
  rw [h _ this.1] at this
  cases this.2
/-- what is as it was for those that are not chosen -/
theorem ext_congr {n M : Nat} {R : Nat → Nat → Nat → Nat → Bool} {C C' : Nat → Bool} {may may' : Nat → Nat → Bool} (hC : ∀ k, k < n → C k = C' k) (hm : ∀ k b, k < n → b < M → C k = false → may k b = may' k b) :
    ExtS n M R C may ↔ ExtS n M R C' may' := by
  constructor
  · rintro ⟨r, h1, h2⟩
    refine ⟨r, fun k hk hc => ?_, fun i k hi hk hci hck => h2 i k hi hk ((hC i hi).trans hci) ((hC k hk).trans hck)⟩
    have h := h1 k hk ((hC k hk).trans hc)
    exact ⟨h.1, by rw [← hm k _ hk h.1 ((hC k hk).trans hc)]; exact h.2⟩
  · rintro ⟨r, h1, h2⟩
    refine ⟨r, fun k hk hc => ?_, fun i k hi hk hci hck => h2 i k hi hk ((hC i hi).symm.trans hci) ((hC k hk).symm.trans hck)⟩
    have h := h1 k hk ((hC k hk).symm.trans hc)
    exact ⟨h.1, by rw [hm k _ hk h.1 hc]; exact h.2⟩
/-- all those of which the first j are told -/
def ExtendsS (n M : Nat) (R : Nat → Nat → Nat → Nat → Bool) (j : Nat) (r : Nat → Nat) : Prop := ∃ q, FullS n M R q ∧ ∀ i, i < j → q i = r i
structure PreI (n M : Nat) (R : Nat → Nat → Nat → Nat → Bool) (j : Nat) (r : Nat → Nat) (may : Nat → Nat → Bool) : Prop where
  bd : ∀ k, k < j → r k < M
  ok : ∀ i k, i < j → k < j → i ≠ k → R i k (r i) (r k) = true
  may : ∀ k b, j ≤ k → k < n → b < M → (may k b = true ↔ ∀ i, i < j → R i k (r i) b = true)
structure SolI (n M : Nat) (R : Nat → Nat → Nat → Nat → Bool) (j : Nat) (r : Nat → Nat) (may : Nat → Nat → Bool) : Prop extends PreI n M R j r may where
  least : ∀ i, i < j → ∀ a, a < r i → ¬ ExtendsS n M R (i + 1) (upN r i a)
  ext : (∃ q, FullS n M R q) → ExtendsS n M R j r
theorem PreI.ex {n M : Nat} {R : Nat → Nat → Nat → Nat → Bool} {j : Nat} {r : Nat → Nat} {may : Nat → Nat → Bool} (hs : SymR n M R) (h : PreI n M R j r may) (hj : j ≤ n) :
    ExtS n M R (fun k => decide (k < j)) may ↔ ExtendsS n M R j r := by
  constructor
  · rintro ⟨q, h1, h2⟩
    have hq : ∀ k, k < n → ¬ k < j → q k < M ∧ ∀ i, i < j → R i k (r i) (q k) = true := fun k hk hkj => by
      have h3 := h1 k hk (by simpa using hkj)
      exact ⟨h3.1, (h.may k _ (by omega) hk h3.1).1 h3.2⟩
    refine ⟨fun k => if k < j then r k else q k, ⟨fun k hk => ?_, fun a b ha hb hne => ?_⟩, fun i hi => by dsimp only; rw [if_pos hi]⟩
    · dsimp only
      split
      · rename_i hk'; exact h.bd k hk'
      · rename_i hk'; exact (hq k hk hk').1
    · dsimp only
      split
      · rename_i haj
        split
        · rename_i hbj; exact h.ok a b haj hbj hne
        · rename_i hbj; exact (hq b hb hbj).2 a haj
      · rename_i haj
        split
        · rename_i hbj
          rw [hs a b _ _ ha hb (hq a ha haj).1 (h.bd b hbj)]
          exact (hq a ha haj).2 b hbj
        · rename_i hbj
          exact h2 a b ha hb (by simpa using haj) (by simpa using hbj) hne
  · rintro ⟨q, ⟨h1, h2⟩, h3⟩
    refine ⟨q, fun k hk hc => ⟨h1 k hk, (h.may k _ (by simpa using hc) hk (h1 k hk)).2 fun i hi => ?_⟩, fun a b ha hb _ _ hne => h2 a b ha hb hne⟩
    have hkj : j ≤ k := by simpa using hc
    rw [← h3 i hi]
    exact h2 i k (by omega) hk (by omega)
theorem extS_congr {n M : Nat} {R : Nat → Nat → Nat → Nat → Bool} {j : Nat} {r r' : Nat → Nat} (h : ∀ i, i < j → r i = r' i) (k : ExtendsS n M R j r) : ExtendsS n M R j r' := by
  obtain ⟨q, h1, h2⟩ := k
  exact ⟨q, h1, fun i hi => (h2 i hi).trans (h i hi)⟩
theorem SolI.next {n M : Nat} {R : Nat → Nat → Nat → Nat → Bool} {j a : Nat} {r : Nat → Nat} {may may' : Nat → Nat → Bool} (hs : SymR n M R) (h : SolI n M R j r may) (hj : j < n) (ha : a < M) (hma : may j a = true)
    (hm : ∀ k b, k < n → b < M → may' k b = chM R (fun k => decide (k < j)) may j a k b) (he : ExtS n M R (chC (fun k => decide (k < j)) j) (chM R (fun k => decide (k < j)) may j a))
    (hl : ∀ c, c < a → ¬ (may j c = true ∧ ExtS n M R (chC (fun k => decide (k < j)) j) (chM R (fun k => decide (k < j)) may j c))) : SolI n M R (j + 1) (upN r j a) may' := by
  have hch : ∀ k, k < n → chC (fun k => decide (k < j)) j k = decide (k < j + 1) := fun k hk => by
    unfold chC
    split
    · rename_i hk; subst hk; simp
    · rename_i hk; dsimp only; rw [decide_eq_decide]; omega
  have hmay : ∀ (c : Nat) (m : Nat → Nat → Bool), c < M → may j c = true → (∀ k b, k < n → b < M → m k b = chM R (fun k => decide (k < j)) may j c k b) → ∀ k b, j + 1 ≤ k → k < n → b < M → (m k b = true ↔ ∀ i, i < j + 1 → R i k (upN r j c i) b = true) := fun c m hc hmc hm k b hk hkn hb => by
    rw [hm k b hkn hb]
    unfold chM
    rw [hch k hkn, if_neg (by simp; omega), Bool.and_eq_true, h.may k b (by omega) hkn hb]
    constructor
    · rintro ⟨h1, h2⟩ i hi
      rcases Nat.lt_or_ge i j with hij | hij
      · rw [upN_no _ _ _ _ (by omega)]; exact h1 i hij
      · have : i = j := by omega
        subst this; rw [upN_at]; exact h2
    · intro h1
      refine ⟨fun i hi => ?_, ?_⟩
      · have := h1 i (by omega); rw [upN_no _ _ _ _ (by omega)] at this; exact this
      · have := h1 j (by omega); rw [upN_at] at this; exact this
  have hok : ∀ c, c < M → may j c = true → ∀ i k, i < j + 1 → k < j + 1 → i ≠ k → R i k (upN r j c i) (upN r j c k) = true := fun c hc hmc i k hi hk hne => by
    have h1 := (h.may j c (Nat.le_refl _) hj hc).1 hmc
    rcases Nat.lt_or_ge i j with hij | hij
    · rw [upN_no _ _ _ _ (show i ≠ j by omega)]
      rcases Nat.lt_or_ge k j with hkj | hkj
      · rw [upN_no _ _ _ _ (show k ≠ j by omega)]; exact h.ok i k hij hkj hne
      · have : k = j := by omega
        subst this; rw [upN_at]; exact h1 i hij
    · have : i = j := by omega
      subst this
      rw [upN_at, upN_no _ _ _ _ (show k ≠ i by omega), hs i k c (r k) hj (by omega) hc (h.bd k (by omega))]
      exact h1 k (by omega)
  have hbd : ∀ c, c < M → ∀ k, k < j + 1 → upN r j c k < M := fun c hc k hk => by
    rcases Nat.lt_or_ge k j with hkj | hkj
    · rw [upN_no _ _ _ _ (by omega)]; exact h.bd k hkj
    · have : k = j := by omega
      subst this; rw [upN_at]; exact hc
  have hP : ∀ (c : Nat) (m : Nat → Nat → Bool), c < M → may j c = true → (∀ k b, k < n → b < M → m k b = chM R (fun k => decide (k < j)) may j c k b) → PreI n M R (j + 1) (upN r j c) m := fun c m hc hmc hm => ⟨hbd c hc, hok c hc hmc, hmay c m hc hmc hm⟩
  have hle : ∀ c, c < a → ¬ ExtendsS n M R (j + 1) (upN r j c) := fun c hc hx => by
    obtain ⟨q, hq1, hq2⟩ := hx
    have hcM : c < M := by omega
    have hqj : q j = c := by rw [hq2 j (by omega), upN_at]
    have hqi : ∀ i, i < j → q i = r i := fun i hi => by rw [hq2 i (by omega), upN_no _ _ _ _ (by omega)]
    have hmc : may j c = true := (h.may j c (Nat.le_refl _) hj hcM).2 fun i hi => by
      rw [← hqi i hi, ← hqj]; exact hq1.2 i j (by omega) hj (by omega)
    exact hl c hc ⟨hmc, (ext_congr hch (fun k b hk hb _ => rfl)).2 (((hP c _ hcM hmc (fun _ _ _ _ => rfl)).ex hs hj).2 ⟨q, hq1, hq2⟩)⟩
  exact {
    toPreI := hP a may' ha hma hm
    least := fun i hi b hb => by
      rcases Nat.lt_or_ge i j with hij | hij
      · rw [upN_no _ _ _ _ (by omega)] at hb
        exact fun hx => h.least i hij b hb (extS_congr (fun x hx => by
          by_cases hxi : x = i
          · subst hxi; rw [upN_at, upN_at]
          · rw [upN_no _ _ _ _ hxi, upN_no _ _ _ _ hxi, upN_no _ _ _ _ (by omega)]) hx)
      · have : i = j := by omega
        subst this
        rw [upN_at] at hb
        exact fun hx => hle b hb (extS_congr (fun x hx => by
          by_cases hxi : x = i
          · subst hxi; rw [upN_at, upN_at]
          · rw [upN_no _ _ _ _ hxi, upN_no _ _ _ _ hxi, upN_no _ _ _ _ hxi]) hx)
    ext := fun _ => ((hP a _ ha hma (fun _ _ _ _ => rfl)).ex hs hj).1 ((ext_congr hch (fun k b hk hb _ => rfl)).1 he) }
theorem SolI.stop {n M : Nat} {R : Nat → Nat → Nat → Nat → Bool} {j : Nat} {r : Nat → Nat} {may : Nat → Nat → Bool} (hs : SymR n M R) (h : SolI n M R j r may) (hj : j < n)
    (hl : ∀ c, c < M → ¬ (may j c = true ∧ ExtS n M R (chC (fun k => decide (k < j)) j) (chM R (fun k => decide (k < j)) may j c))) : ¬ ∃ q, FullS n M R q := fun hx => by
  have h1 := (h.toPreI.ex hs (Nat.le_of_lt hj)).2 (h.ext hx)
  obtain ⟨a, ha, hm, he⟩ := (ext_ch hs hj (by simp)).1 h1
  exact hl a ha ⟨hm, he⟩
theorem SolI.full {n M : Nat} {R : Nat → Nat → Nat → Nat → Bool} {r : Nat → Nat} {may : Nat → Nat → Bool} (h : SolI n M R n r may) : FullS n M R r := ⟨h.bd, h.ok⟩
/-! spans -/
def Full2 (n : Nat) (g : Nat → Nat → Int) (s t : Nat → Nat) : Prop := (∀ k, k < n → s k < t k ∧ t k < 2 * n) ∧ ∀ i k, i < n → k < n → hasB (g i k) (Spn.way (s i) (t i) (s k) (t k)) = true
def Ext2 (n : Nat) (g : Nat → Nat → Int) (j : Nat) (s t : Nat → Nat) : Prop := ∃ s' t', Full2 n g s' t' ∧ ∀ k, k < j → s' k = s k ∧ t' k = t k
def lt2 (a b c d : Nat) : Prop := a < c ∨ a = c ∧ b < d
def Least2 (n : Nat) (g : Nat → Nat → Int) (s t : Nat → Nat) (j0 : Nat) : Prop := ∀ j, j0 ≤ j → j < n → ∀ a b, lt2 a b (s j) (t j) → ¬ Ext2 n g (j + 1) (upN s j a) (upN t j b)
theorem least_one {n : Nat} {g : Nat → Nat → Int} {s t s' t' : Nat → Nat} (h : Full2 n g s t) (h' : Full2 n g s' t') (l : Least2 n g s t 0) (l' : Least2 n g s' t' 0) : ∀ k, k < n → s k = s' k ∧ t k = t' k := by
  intro k
  induction k using Nat.strongRecOn with
  | _ k ih =>
    intro hk
    have hx : ¬ lt2 (s k) (t k) (s' k) (t' k) := fun hlt => l' k (Nat.zero_le _) hk _ _ hlt ⟨s, t, h, fun i hi => by
      by_cases hik : i = k
      · subst hik; rw [upN_at, upN_at]; exact ⟨rfl, rfl⟩
      · rw [upN_no _ _ _ _ hik, upN_no _ _ _ _ hik]; exact ih i (by omega) (by omega)⟩
    have hy : ¬ lt2 (s' k) (t' k) (s k) (t k) := fun hlt => l k (Nat.zero_le _) hk _ _ hlt ⟨s', t', h', fun i hi => by
      by_cases hik : i = k
      · subst hik; rw [upN_at, upN_at]; exact ⟨rfl, rfl⟩
      · rw [upN_no _ _ _ _ hik, upN_no _ _ _ _ hik]; have := ih i (by omega) (by omega); exact ⟨this.1.symm, this.2.symm⟩⟩
    unfold lt2 at hx hy
    omega
/-- all spans with ends below twice n, numbered in order -/
structure EnumS (n M : Nat) (fr to : Nat → Nat) : Prop where
  ok : ∀ a, a < M → fr a < to a ∧ to a < 2 * n
  srt : ∀ a b, a < b → b < M → lt2 (fr a) (to a) (fr b) (to b)
  onto : ∀ x y, x < y → y < 2 * n → ∃ a, a < M ∧ fr a = x ∧ to a = y
def RS (N : Nat → Nat → Nat) (fr to : Nat → Nat) : Nat → Nat → Nat → Nat → Bool := fun i k a b => (N i k).testBit (Spn.way (fr a) (to a) (fr b) (to b))
theorem EnumS.lt {n M : Nat} {fr to : Nat → Nat} (h : EnumS n M fr to) {a b : Nat} (ha : a < M) (hb : b < M) (hl : lt2 (fr a) (to a) (fr b) (to b)) : a < b := by
  rcases Nat.lt_trichotomy a b with hx | hx | hx
  · exact hx
  · subst hx; unfold lt2 at hl; omega
  · have := h.srt b a hx ha; unfold lt2 at hl this; omega
theorem symRS {n M : Nat} {N : Nat → Nat → Nat} {fr to : Nat → Nat} (hm : Mat n N) (he : EnumS n M fr to) : SymR n M (RS N fr to) := fun i k a b hi hk ha hb => by
  have h1 := (he.ok a ha).1
  have h2 := (he.ok b hb).1
  have hl := Spn.way_lt (fr a) (to a) (fr b) (to b)
  unfold RS
  rw [hm.bk i k hi hk, Bk_bit, Spn.way_back (fr a) (to a) (fr b) (to b) (by omega) (by omega), show 12 - (12 - Spn.way (fr a) (to a) (fr b) (to b)) = Spn.way (fr a) (to a) (fr b) (to b) by omega]
  simp
/-- a net, its greatest closed net, and the spans that lie so -/
theorem full_iff {n M : Nat} {g : Nat → Nat → Int} {N : Nat → Nat → Nat} {fr to : Nat → Nat} (hg : ∀ i k, i < n → k < n → 0 ≤ g i k ∧ g i k ≤ 8191) (hN : Great n (cpN n g n) N) (hm : Mat n N) (hw : noWay n N n = false) (he : EnumS n M fr to) {r : Nat → Nat} (hr : ∀ k, k < n → r k < M) :
    FullS n M (RS N fr to) r ↔ Full2 n g (fun k => fr (r k)) (fun k => to (r k)) := by
  have hcp : ∀ i k z, i < n → k < n → (cpN n g n i k).testBit z = hasB (g i k) z := fun i k z hi hk => by
    unfold cpN
    rw [if_pos ⟨hi, hk⟩, ← hasB_bit, Int.toNat_of_nonneg (hg i k hi hk).1]
  have hpos : ∀ i k, i < n → k < n → N i k ≠ 0 := fun i k hi hk h0 => by
    have := anyB_false n (anyB_false n hw i hi) k hk
    rw [h0] at this
    simp at this
  constructor
  · rintro ⟨h1, h2⟩
    refine ⟨fun k hk => he.ok _ (h1 k hk), fun i k hi hk => ?_⟩
    rw [← hcp i k _ hi hk]
    by_cases hik : i = k
    · subst hik
      dsimp only
      rw [way_same _ _ (by have := (he.ok _ (h1 i hi)).1; omega)]
      refine hN.le i i hi hi 6 ?_
      rcases sub64 (hm.eq i hi) with h | h
      · exact absurd h (hpos i i hi hi)
      · rw [h]; decide
    · exact hN.le i k hi hk _ (h2 i k hi hk hik)
  · rintro ⟨h1, h2⟩
    refine ⟨hr, fun i k hi hk _ => ?_⟩
    exact wyN_great (s := fun k => (fr (r k) : Int)) (t := fun k => (to (r k) : Int)) (fun i hi => by have := (h1 i hi).1; dsimp only at *; omega) hN (fun a b ha hb => by rw [hcp a b _ ha hb]; exact h2 a b ha hb) i k hi hk
theorem num_of {n M : Nat} {fr to : Nat → Nat} (he : EnumS n M fr to) {s t : Nat → Nat} (h : ∀ k, k < n → s k < t k ∧ t k < 2 * n) : ∃ r : Nat → Nat, ∀ k, k < n → r k < M ∧ fr (r k) = s k ∧ to (r k) = t k := by
  have hx : ∀ k, ∃ a, k < n → a < M ∧ fr a = s k ∧ to a = t k := fun k => by
    by_cases hk : k < n
    · obtain ⟨a, ha⟩ := he.onto _ _ (h k hk).1 (h k hk).2
      exact ⟨a, fun _ => ha⟩
    · exact ⟨0, fun h => absurd h hk⟩
  exact ⟨fun k => Classical.choose (hx k), fun k hk => Classical.choose_spec (hx k) hk⟩
theorem full2_congr {n : Nat} {g : Nat → Nat → Int} {s t s' t' : Nat → Nat} (h : ∀ k, k < n → s k = s' k ∧ t k = t' k) (k : Full2 n g s t) : Full2 n g s' t' :=
  ⟨fun i hi => by rw [← (h i hi).1, ← (h i hi).2]; exact k.1 i hi, fun i j hi hj => by rw [← (h i hi).1, ← (h i hi).2, ← (h j hj).1, ← (h j hj).2]; exact k.2 i j hi hj⟩
/-- the first numbers tell the first spans -/
theorem first2 {n M : Nat} {g : Nat → Nat → Int} {N : Nat → Nat → Nat} {fr to : Nat → Nat} (hg : ∀ i k, i < n → k < n → 0 ≤ g i k ∧ g i k ≤ 8191) (hN : Great n (cpN n g n) N) (hm : Mat n N) (hw : noWay n N n = false) (he : EnumS n M fr to) {r : Nat → Nat} {may : Nat → Nat → Bool}
    (h : SolI n M (RS N fr to) n r may) : Full2 n g (fun k => fr (r k)) (fun k => to (r k)) ∧ Least2 n g (fun k => fr (r k)) (fun k => to (r k)) 0 := by
  refine ⟨(full_iff hg hN hm hw he h.bd).1 h.full, fun j _ hj a b hl => ?_⟩
  rintro ⟨s', t', hf, ha⟩
  obtain ⟨q, hq⟩ := num_of he hf.1
  have hf' : FullS n M (RS N fr to) q := (full_iff hg hN hm hw he (fun k hk => (hq k hk).1)).2 (full2_congr (fun k hk => ⟨(hq k hk).2.1.symm, (hq k hk).2.2.symm⟩) hf)
  have haj := ha j (by omega)
  rw [upN_at, upN_at] at haj
  have hqj := hq j hj
  rw [haj.1, haj.2] at hqj
  refine h.least j hj (q j) (he.lt hqj.1 (h.bd j hj) (by rw [hqj.2.1, hqj.2.2]; exact hl)) ⟨q, hf', fun i hi => ?_⟩
  by_cases hij : i = j
  · subst hij; rw [upN_at]
  · rw [upN_no _ _ _ _ hij]
    have hai := ha i hi
    rw [upN_no _ _ _ _ hij, upN_no _ _ _ _ hij] at hai
    have hqi := hq i (by omega)
    have hri := h.bd i (by omega)
    rcases Nat.lt_trichotomy (q i) (r i) with hx | hx | hx
    · have := he.srt _ _ hx hri; rw [hqi.2.1, hqi.2.2, hai.1, hai.2] at this; unfold lt2 at this; omega
    · exact hx
    · have := he.srt _ _ hx hqi.1; rw [hqi.2.1, hqi.2.2, hai.1, hai.2] at this; unfold lt2 at this; omega
theorem none2 {n M : Nat} {g : Nat → Nat → Int} {N : Nat → Nat → Nat} {fr to : Nat → Nat} (hg : ∀ i k, i < n → k < n → 0 ≤ g i k ∧ g i k ≤ 8191) (hN : Great n (cpN n g n) N) (hm : Mat n N) (hw : noWay n N n = false) (he : EnumS n M fr to)
    (h : ¬ ∃ q, FullS n M (RS N fr to) q) : ¬ ∃ s t, Full2 n g s t := by
  rintro ⟨s, t, hf⟩
  obtain ⟨q, hq⟩ := num_of he hf.1
  exact h ⟨q, (full_iff hg hN hm hw he (fun k hk => (hq k hk).1)).2 (full2_congr (fun k hk => ⟨(hq k hk).2.1.symm, (hq k hk).2.2.symm⟩) hf)⟩
end Go.Proofs.YtnaggcadmfmibaaDoor
