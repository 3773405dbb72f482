/- plan: amount; what is used at a time. -/
import Derived.Test.YtjmjabdokckdlaaDoorPlnI
namespace Go.Proofs.YtjmjabdokckdlaaDoor
open Go.RowKit Go.Shelf
set_option linter.unusedVariables false
set_option linter.unusedSimpArgs false

/-- how much there is of a resource -/
def amt (l : List Int) (r : Nat) : Int := l.getD r 0
theorem amount_any (l : List Int) (r : Nat) (v : Value) (w : World) (hv : NsAt w v l) : Calls Tryd.prog 51 #[v, .int .i64 (r : Int)] w fun e w' => e = .returned (.int .i64 (amt l r)) ∧ w' = w := by
  obtain ⟨ad, c, rfl, hall⟩ := hv
  by_cases h : r < l.length
  · obtain ⟨g, o, rfl, hc⟩ := hall r h
    have hi : (r : Int) < (l.length : Int) := by omega
    have e : amt l r = l.getD r 0 := rfl
    rw [← e] at hc
    clear hall e
    generalize amt l r = x at *
    go_enter Tryd.func51, Tryd.ntmps51
    go_wp2
    go_ret
    exact ⟨rfl, rfl⟩
  · have hi : ¬ (r : Int) < (l.length : Int) := by omega
    have e : amt l r = 0 := by unfold amt; rw [List.getD_eq_getElem?_getD, List.getElem?_eq_none (by omega)]; rfl
    rw [e]
    clear hall e
    go_enter Tryd.func51, Tryd.ntmps51
    go_wp2
    go_ret
    exact ⟨rfl, rfl⟩
/-- what is used of a resource at a time, by the placed ones of the first m -/
def usd (P : List Tk) (s : Sp) (st : Nat → Bool) (r : Nat) (t : Int) : Nat → Int
  | 0 => 0
  | m + 1 => usd P s st r t m + if st m = true ∧ (s m).1 ≤ t ∧ t < (s m).2 then amt (tk P m).uses r else 0
theorem amt_bd {P : List Tk} (h : Good P) (i : Nat) (hi : i < P.length) (r : Nat) : 0 ≤ amt (tk P i).uses r ∧ amt (tk P i).uses r ≤ 1000000 := by
  unfold amt
  rw [List.getD_eq_getElem?_getD]
  by_cases hr : r < (tk P i).uses.length
  · rw [List.getElem?_eq_getElem hr]; exact h.use i hi _ (List.getElem_mem hr)
  · rw [List.getElem?_eq_none (by omega)]; exact ⟨Int.le_refl _, by decide⟩
theorem usd_bd {P : List Tk} (h : Good P) (s : Sp) (st : Nat → Bool) (r : Nat) (t : Int) : ∀ m, m ≤ P.length → 0 ≤ usd P s st r t m ∧ usd P s st r t m ≤ 1000000 * m
  | 0, _ => by simp [usd]
  | m + 1, hm => by
    have h1 := usd_bd h s st r t m (by omega)
    have h2 := amt_bd h m (by omega) r
    rw [usd]
    split <;> omega
/-- whoever is on at the one time is on at the other: no more is used -/
theorem usd_le {P : List Tk} (h : Good P) (s : Sp) (st : Nat → Bool) (r : Nat) (t t' : Int) (hs : ∀ k, k < P.length → st k = true → (s k).1 ≤ t → t < (s k).2 → (s k).1 ≤ t' ∧ t' < (s k).2) : ∀ m, m ≤ P.length → usd P s st r t m ≤ usd P s st r t' m
  | 0, _ => Int.le_refl _
  | m + 1, hm => by
    have h1 := usd_le h s st r t t' hs m (by omega)
    have h2 := amt_bd h m (by omega) r
    rw [usd, usd]
    by_cases c : st m = true ∧ (s m).1 ≤ t ∧ t < (s m).2
    · have c' := hs m (by omega) c.1 c.2.1 c.2.2
      rw [if_pos c, if_pos ⟨c.1, c'⟩]; omega
    · rw [if_neg c]
      split <;> omega
/-- nobody is on -/
theorem usd_none {P : List Tk} (s : Sp) (st : Nat → Bool) (r : Nat) (t : Int) (hs : ∀ k, k < P.length → st k = true → (s k).2 ≤ t) : ∀ m, m ≤ P.length → usd P s st r t m = 0
  | 0, _ => rfl
  | m + 1, hm => by
    rw [usd, usd_none s st r t hs m (by omega), if_neg (fun c => by have := hs m (by omega) c.1; omega)]; rfl
/-- one more -/
theorem usd_add {P : List Tk} (s : Sp) (st : Nat → Bool) (r : Nat) (t : Int) (i : Nat) (v : Int × Int) (hi : st i = false) : ∀ m, usd P (upS s i v) (fun u => if u = i then true else st u) r t m = usd P s st r t m + if i < m ∧ v.1 ≤ t ∧ t < v.2 then amt (tk P i).uses r else 0
  | 0 => by simp [usd]
  | m + 1 => by
    rw [usd, usd, usd_add s st r t i v hi m]
    by_cases e : m = i
    · subst e
      simp only [upS_same, if_true, if_pos rfl, hi]
      simp
    · rw [upS_other _ _ _ _ e, if_neg e]
      have : (i < m + 1 ↔ i < m) := by omega
      simp only [this]
      omega
/-- room at its beginning, and wherever one begins within: room all along -/
theorem room_all {P : List Tk} (h : Good P) (s : Sp) (st : Nat → Bool) (r : Nat) (b e lim : Int) (hb : usd P s st r b P.length ≤ lim) (hs : ∀ k, k < P.length → st k = true → b < (s k).1 → (s k).1 < e → usd P s st r (s k).1 P.length ≤ lim) (t : Int) (h1 : b ≤ t) (h2 : t < e) : usd P s st r t P.length ≤ lim := by
  -- the last beginning at or ahead of t
  have hx : ∀ m, ∃ t', b ≤ t' ∧ t' ≤ t ∧ (t' = b ∨ ∃ k, k < P.length ∧ st k = true ∧ b < (s k).1 ∧ t' = (s k).1) ∧ ∀ k, k < m → k < P.length → st k = true → (s k).1 ≤ t → (s k).1 ≤ t' := by
    intro m
    induction m with
    | zero => exact ⟨b, Int.le_refl _, h1, .inl rfl, fun k hk => absurd hk (Nat.not_lt_zero _)⟩
    | succ m ih =>
      obtain ⟨t', a1, a2, a3, a4⟩ := ih
      by_cases c : m < P.length ∧ st m = true ∧ (s m).1 ≤ t ∧ t' < (s m).1
      · exact ⟨(s m).1, by omega, c.2.2.1, .inr ⟨m, c.1, c.2.1, by omega, rfl⟩, fun k hk hl hst hkt => (by
          by_cases e : k = m
          · subst e; exact Int.le_refl _
          · have := a4 k (by omega) hl hst hkt; omega)⟩
      · refine ⟨t', a1, a2, a3, fun k hk hl hst hkt => ?_⟩
        by_cases e : k = m
        · subst e
          rcases Int.lt_or_le t' (s k).1 with g | g
          · exact absurd ⟨hl, hst, hkt, g⟩ c
          · exact g
        · exact a4 k (by omega) hl hst hkt
  obtain ⟨t', a1, a2, a3, a4⟩ := hx P.length
  have hle := usd_le h s st r t t' (fun k hk hst g1 g2 => ⟨a4 k hk hk hst g1, by omega⟩) P.length (Nat.le_refl _)
  rcases a3 with rfl | ⟨k, hk, hst, g1, rfl⟩
  · omega
  · have := hs k hk hst g1 (by omega); omega
end Go.Proofs.YtjmjabdokckdlaaDoor
