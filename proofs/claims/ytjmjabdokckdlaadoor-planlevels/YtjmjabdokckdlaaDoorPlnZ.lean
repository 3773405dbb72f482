/- plan: where a task may get its place, how many have theirs; Level, step by step. -/
import Derived.Test.YtjmjabdokckdlaaDoorPlnY
import Derived.Test.YtjmjabdokckdlaaDoorPlnH
namespace Go.Proofs.YtjmjabdokckdlaaDoor
set_option linter.unusedVariables false
set_option linter.unusedSimpArgs false

/-- the times at which a task may begin: at once, or where one of the first m ends -/
def begN (s : Sp) (st : Nat → Bool) (f : Int) : Nat → List Int
  | 0 => [f]
  | m + 1 => if st m = true ∧ f < (s m).2 then begN s st f m ++ [(s m).2] else begN s st f m
theorem begN_len (s : Sp) (st : Nat → Bool) (f : Int) : ∀ m, 1 ≤ (begN s st f m).length ∧ (begN s st f m).length ≤ m + 1
  | 0 => by simp [begN]
  | m + 1 => by
    have := begN_len s st f m
    rw [begN]
    split
    · rw [List.length_append]; simp; omega
    · omega
theorem begN_mem (s : Sp) (st : Nat → Bool) (f b : Int) : ∀ m, b ∈ begN s st f m ↔ (b = f ∨ ∃ j, j < m ∧ st j = true ∧ f < (s j).2 ∧ b = (s j).2)
  | 0 => by simp [begN]
  | m + 1 => by
    rw [begN]
    have ih := begN_mem s st f b m
    split
    · rename_i c
      rw [List.mem_append, ih, List.mem_singleton]
      constructor
      · rintro ((h | ⟨j, h1, h2⟩) | h)
        · exact .inl h
        · exact .inr ⟨j, by omega, h2⟩
        · exact .inr ⟨m, by omega, c.1, c.2, h⟩
      · rintro (h | ⟨j, h1, h2⟩)
        · exact .inl (.inl h)
        · by_cases e : j = m
          · subst e; exact .inr h2.2.2
          · exact .inl (.inr ⟨j, by omega, h2⟩)
    · rename_i c
      rw [ih]
      constructor
      · rintro (h | ⟨j, h1, h2⟩)
        · exact .inl h
        · exact .inr ⟨j, by omega, h2⟩
      · rintro (h | ⟨j, h1, h2⟩)
        · exact .inl h
        · by_cases e : j = m
          · subst e; exact absurd ⟨h2.1, h2.2.1⟩ c
          · exact .inr ⟨j, by omega, h2⟩
/-- the times in their order -/
def begS (P : List Tk) (s : Sp) (st : Nat → Bool) (i : Nat) : List Int := (begN s st (soon P i s) P.length).mergeSort fun x y => decide (x ≤ y)
/-- the one that it gets -/
def putB (P : List Tk) (H : List Int) (s : Sp) (st : Nat → Bool) (i : Nat) : Int := ((begS P s st i).find? fun b => hrs P H s st (tk P i).uses b (b + (tk P i).len)).getD 0
theorem begS_mem {P : List Tk} {s : Sp} {st : Nat → Bool} {i : Nat} {b : Int} : b ∈ begS P s st i ↔ (b = soon P i s ∨ ∃ j, j < P.length ∧ st j = true ∧ soon P i s < (s j).2 ∧ b = (s j).2) := by
  unfold begS
  rw [List.mem_mergeSort, begN_mem]
theorem Lev.found {P : List Tk} (hG : Good P) {H : List Int} {s : Sp} {st : Nat → Bool} {k : Nat} (h : Lev P H s st k) (i : Nat) (hi : i < P.length) (hU : ∀ r, r < (tk P i).uses.length → (tk P i).uses.getD r 0 ≤ amt H r) :
    (begS P s st i).find? (fun b => hrs P H s st (tk P i).uses b (b + (tk P i).len)) = some (putB P H s st i) ∧ soon P i s ≤ putB P H s st i ∧ putB P H s st i ≤ 4000000 * k + 2000000 ∧ hrs P H s st (tk P i).uses (putB P H s st i) (putB P H s st i + (tk P i).len) = true := by
  obtain ⟨b, hb, _, hr⟩ := h.can hG (tk P i).uses hU (soon P i s) (tk P i).len
  have hs := h.soonB hG i hi
  cases e : (begS P s st i).find? (fun b => hrs P H s st (tk P i).uses b (b + (tk P i).len)) with
  | none => exact absurd hr (List.find?_eq_none.1 e b (begS_mem.2 hb))
  | some c =>
    have ep : putB P H s st i = c := by unfold putB; rw [e]; rfl
    have hm := begS_mem.1 (List.mem_of_find?_eq_some e)
    have hc := List.find?_some e
    rw [ep]
    refine ⟨rfl, ?_, ?_, hc⟩
    · rcases hm with rfl | ⟨j, _, _, h3, rfl⟩ <;> omega
    · rcases hm with rfl | ⟨j, _, _, h3, rfl⟩
      · omega
      · have := h.bd j; omega
/-- how many of the first m have their place -/
def cntN (st : Nat → Bool) : Nat → Nat
  | 0 => 0
  | m + 1 => cntN st m + if st m = true then 1 else 0
theorem cntN_le (st : Nat → Bool) : ∀ m, cntN st m ≤ m
  | 0 => Nat.le_refl _
  | m + 1 => by have := cntN_le st m; rw [cntN]; split <;> omega
theorem cntN_free (st : Nat → Bool) : ∀ m, cntN st m < m → ∃ i, i < m ∧ st i = false
  | 0, h => absurd h (Nat.not_lt_zero _)
  | m + 1, h => by
    rw [cntN] at h
    cases e : st m with
    | false => exact ⟨m, by omega, e⟩
    | true =>
      rw [e, if_pos rfl] at h
      obtain ⟨i, h1, h2⟩ := cntN_free st m (by omega)
      exact ⟨i, by omega, h2⟩
theorem cntN_all (st : Nat → Bool) : ∀ m, cntN st m = m → ∀ i, i < m → st i = true
  | m + 1, h, i, hi => by
    rw [cntN] at h
    have := cntN_le st m
    cases e : st m with
    | false => rw [e] at h; simp at h; omega
    | true =>
      rw [e, if_pos rfl] at h
      by_cases c : i = m
      · rw [c]; exact e
      · exact cntN_all st m (by omega) i (by omega)
theorem cntN_put (st : Nat → Bool) (i : Nat) (hi : st i = false) : ∀ m, cntN (stU st i) m = cntN st m + if i < m then 1 else 0
  | 0 => by simp [cntN]
  | m + 1 => by
    rw [cntN, cntN, cntN_put st i hi m]
    unfold stU
    by_cases e : m = i
    · subst e
      rw [if_pos rfl, if_pos rfl, hi, if_neg (Nat.lt_irrefl _), if_pos (Nat.lt_succ_self _)]
      simp
    · rw [if_neg e]
      have : (i < m + 1 ↔ i < m) := by omega
      simp only [this]
      omega
/-- the places, k of them given -/
def lvN (P : List Tk) (H : List Int) (l : Sp) : Nat → Sp × (Nat → Bool)
  | 0 => (fun _ => (0, 0), fun _ => false)
  | k + 1 =>
    let a := lvN P H l k
    let i := (nxN P a.2 l P.length).toNat
    (upS a.1 i (plc P i (putB P H a.1 a.2 i)), stU a.2 i)
/-- at each step there is one that gets its place, and what stands goes on to stand -/
theorem lvN_lev {P : List Tk} (hF : Fit P) (H : List Int) (hH : ∀ x ∈ H, 0 ≤ x) (l : Sp) (hU : ∀ i, i < P.length → ∀ r, r < (tk P i).uses.length → (tk P i).uses.getD r 0 ≤ amt H r) : ∀ k, k ≤ P.length → Lev P H (lvN P H l k).1 (lvN P H l k).2 k ∧ cntN (lvN P H l k).2 P.length = k ∧ (k < P.length → 0 ≤ nxN P (lvN P H l k).2 l P.length) := by
  have hnx : ∀ (st : Nat → Bool) k, cntN st P.length = k → k < P.length → 0 ≤ nxN P st l P.length := fun st k hc hk => by
    obtain ⟨i, h1, h2⟩ := cntN_free st P.length (by omega)
    obtain ⟨j, h3, h4, h5⟩ := hF.t.next st i (hF.t.full hF.l i h1) h2
    exact nxN_is (hF.t.lt j h3) h4 h5
  intro k
  induction k with
  | zero =>
    intro _
    have hc : ∀ m, cntN (fun _ => false) m = 0 := fun m => by
      induction m with
      | zero => rfl
      | succ m ih => rw [cntN, ih]; simp
    exact ⟨Lev.start P H hH, hc _, fun hk => hnx _ 0 (hc _) hk⟩
  | succ k ih =>
    intro hk
    obtain ⟨hL, hc, hn⟩ := ih (by omega)
    have hn := hn (by omega)
    obtain ⟨h1, h2, h3⟩ := nxN_can hn
    have hf := hL.found hF.g _ h1 (hU _ h1)
    have hL2 := hL.put hF.g _ h1 h2 h3 _ hf.2.1 hf.2.2.1 hf.2.2.2
    have hc2 : cntN (lvN P H l (k + 1)).2 P.length = k + 1 := by
      show cntN (stU _ _) P.length = _
      rw [cntN_put _ _ h2, if_pos h1, hc]
    exact ⟨hL2, hc2, fun hk => hnx _ _ hc2 hk⟩
/-- the tasks fit, and never more is used than there is -/
theorem lvN_fits {P : List Tk} (hF : Fit P) (H : List Int) (hH : ∀ x ∈ H, 0 ≤ x) (l : Sp) (hU : ∀ i, i < P.length → ∀ r, r < (tk P i).uses.length → (tk P i).uses.getD r 0 ≤ amt H r) : Fits P (lvN P H l P.length).1 ∧ ∀ r t, usd P (lvN P H l P.length).1 (lvN P H l P.length).2 r t P.length ≤ amt H r := by
  obtain ⟨hL, hc, _⟩ := lvN_lev hF H hH l hU P.length (Nat.le_refl _)
  exact ⟨fun i hi => hL.fit i hi (cntN_all _ _ hc i hi), hL.room⟩
end Go.Proofs.YtjmjabdokckdlaaDoor
