/- plan: mathematics of Level. -/
import Derived.Test.YtjmjabdokckdlaaDoorPlnX
namespace Go.Proofs.YtjmjabdokckdlaaDoor
set_option linter.unusedVariables false
set_option linter.unusedSimpArgs false

/-- what stands while the tasks get their places, k of them placed -/
structure Lev (P : List Tk) (H : List Int) (s : Sp) (st : Nat → Bool) (k : Nat) : Prop where
  cl : ∀ i, i < P.length → st i = true → ∀ x ∈ (tk P i).links, st x.t.toNat = true
  fit : ∀ i, i < P.length → st i = true → (s i).2 = (s i).1 + (tk P i).len ∧ (tk P i).nb ≤ (s i).1 ∧ ∀ x ∈ (tk P i).links, (s x.t.toNat).1 + gp P i x ≤ (s i).1
  room : ∀ r t, usd P s st r t P.length ≤ amt H r
  bd : ∀ j, 0 ≤ (s j).1 ∧ (s j).1 ≤ (s j).2 ∧ (s j).2 ≤ 4000000 * k
def stU (st : Nat → Bool) (i : Nat) : Nat → Bool := fun u => if u = i then true else st u
theorem Lev.start (P : List Tk) (H : List Int) (hH : ∀ x ∈ H, 0 ≤ x) : Lev P H (fun _ => (0, 0)) (fun _ => false) 0 := by
  refine ⟨fun i _ h => (by cases h), fun i _ h => (by cases h), fun r t => ?_, fun j => by simp⟩
  rw [usd_none _ _ r t (fun k _ h => by cases h) _ (Nat.le_refl _)]
  unfold amt
  rw [List.getD_eq_getElem?_getD]
  by_cases h : r < H.length
  · rw [List.getElem?_eq_getElem h]; exact hH _ (List.getElem_mem h)
  · rw [List.getElem?_eq_none (by omega)]; exact Int.le_refl _
theorem Lev.soonB {P : List Tk} (hG : Good P) {H : List Int} {s : Sp} {st : Nat → Bool} {k : Nat} (h : Lev P H s st k) (i : Nat) (hi : i < P.length) : 0 ≤ soon P i s ∧ soon P i s ≤ 4000000 * k + 2000000 := by
  have h1 := hG.nb i hi
  have h2 := soonL_ge P i s (tk P i).links (tk P i).nb
  refine ⟨by unfold soon; omega, soonL_le P i s _ _ _ (by omega) fun x hx => ?_⟩
  have a := hG.gp i hi x hx
  have b := h.bd x.t.toNat
  unfold byL
  omega
/-- one gets its place -/
theorem Lev.put {P : List Tk} (hG : Good P) {H : List Int} {s : Sp} {st : Nat → Bool} {k : Nat} (h : Lev P H s st k) (i : Nat) (hi : i < P.length) (hst : st i = false) (hh : hav st (tk P i).links = true) (b : Int) (hb : soon P i s ≤ b) (hb2 : b ≤ 4000000 * k + 2000000) (hr : hrs P H s st (tk P i).uses b (b + (tk P i).len) = true) :
    Lev P H (upS s i (plc P i b)) (stU st i) (k + 1) := by
  have hlen := hG.len i hi
  have hnb := hG.nb i hi
  have hs0 := h.soonB hG i hi
  have hav' : ∀ x ∈ (tk P i).links, st x.t.toNat = true := fun x hx => List.all_eq_true.1 hh x hx
  have hne : ∀ j, st j = true → j ≠ i := fun j hj e => by rw [e, hst] at hj; cases hj
  refine ⟨fun j hj hs x hx => ?_, fun j hj hs => ?_, fun r t => ?_, fun j => ?_⟩
  · unfold stU at hs ⊢
    by_cases e : j = i
    · subst e; rw [if_neg (hne _ (hav' x hx))]; exact hav' x hx
    · rw [if_neg e] at hs
      have := h.cl j hj hs x hx
      rw [if_neg (hne _ this)]; exact this
  · unfold stU at hs
    by_cases e : j = i
    · subst e
      rw [upS_same]
      refine ⟨rfl, ?_, fun x hx => ?_⟩
      · have := soonL_ge P j s (tk P j).links (tk P j).nb
        unfold soon at hb
        unfold plc; dsimp only; omega
      · rw [upS_other _ _ _ _ (hne _ (hav' x hx))]
        have := soonL_by P j s (tk P j).links (tk P j).nb x hx
        unfold soon at hb
        unfold byL at this
        unfold plc; dsimp only; omega
    · rw [if_neg e] at hs
      have hf := h.fit j hj hs
      rw [upS_other _ _ _ _ e]
      refine ⟨hf.1, hf.2.1, fun x hx => ?_⟩
      rw [upS_other _ _ _ _ (hne _ (h.cl j hj hs x hx))]
      exact hf.2.2 x hx
  · have ha := usd_add (P := P) s st r t i (plc P i b) hst P.length
    have hro := h.room r t
    show usd P (upS s i (plc P i b)) (fun u => if u = i then true else st u) r t P.length ≤ _
    rw [ha]
    split
    · rename_i c
      unfold plc at c; dsimp only at c
      by_cases hrl : r < (tk P i).uses.length
      · have := hrs_all hG hr r hrl t c.2.1 c.2.2
        unfold amt at this ⊢
        omega
      · have e : amt (tk P i).uses r = 0 := by unfold amt; rw [List.getD_eq_getElem?_getD, List.getElem?_eq_none (by omega)]; rfl
        rw [e]; omega
    · omega
  · by_cases e : j = i
    · subst e
      rw [upS_same]; unfold plc; dsimp only; omega
    · rw [upS_other _ _ _ _ e]
      have := h.bd j
      omega
theorem hraN_yes {P : List Tk} {H : List Int} {s : Sp} {st : Nat → Bool} {U : List Int} {t : Int} : ∀ {m : Nat}, (∀ r, r < m → U.getD r 0 + usd P s st r t P.length ≤ amt H r) → hraN P H s st U t m = true
  | 0, _ => rfl
  | m + 1, h => by rw [hraN, hraN_yes (fun r hr => h r (by omega)), decide_eq_true (h m (by omega))]; rfl
theorem hrsN_yes {P : List Tk} {H : List Int} {s : Sp} {st : Nat → Bool} {U : List Int} {f e : Int} : ∀ {m : Nat}, (∀ k, k < m → st k = true → (s k).1 ≤ f) → hrsN P H s st U f e m = true
  | 0, _ => rfl
  | m + 1, h => by
    rw [hrsN, hrsN_yes (fun r hr => h r (by omega))]
    cases c : st m with
    | false => rfl
    | true => rw [decide_eq_false (by have := h m (by omega) c; omega)]; rfl
/-- there is a place: at once, or where one ends -/
theorem Lev.can {P : List Tk} (hG : Good P) {H : List Int} {s : Sp} {st : Nat → Bool} {k : Nat} (h : Lev P H s st k) (U : List Int) (hU : ∀ r, r < U.length → U.getD r 0 ≤ amt H r) (f l : Int) :
    ∃ b, (b = f ∨ ∃ j, j < P.length ∧ st j = true ∧ f < (s j).2 ∧ b = (s j).2) ∧ f ≤ b ∧ hrs P H s st U b (b + l) = true := by
  have hx : ∀ m, ∃ b, (b = f ∨ ∃ j, j < P.length ∧ st j = true ∧ f < (s j).2 ∧ b = (s j).2) ∧ f ≤ b ∧ ∀ j, j < m → j < P.length → st j = true → (s j).2 ≤ b := by
    intro m
    induction m with
    | zero => exact ⟨f, .inl rfl, Int.le_refl _, fun j hj => absurd hj (Nat.not_lt_zero _)⟩
    | succ m ih =>
      obtain ⟨b, a1, a2, a3⟩ := ih
      by_cases c : m < P.length ∧ st m = true ∧ b < (s m).2
      · exact ⟨(s m).2, .inr ⟨m, c.1, c.2.1, by omega, rfl⟩, by omega, fun j hj hl hs => by
          by_cases e : j = m
          · subst e; exact Int.le_refl _
          · have := a3 j (by omega) hl hs; omega⟩
      · refine ⟨b, a1, a2, fun j hj hl hs => ?_⟩
        by_cases e : j = m
        · subst e
          rcases Int.lt_or_le b (s j).2 with g | g
          · exact absurd ⟨hl, hs, g⟩ c
          · exact g
        · exact a3 j (by omega) hl hs
  obtain ⟨b, a1, a2, a3⟩ := hx P.length
  refine ⟨b, a1, a2, ?_⟩
  unfold hrs
  have e1 : hra P H s st U b = true := hraN_yes fun r hr => by
    rw [usd_none s st r b (fun j hj hs => a3 j hj hj hs) _ (Nat.le_refl _)]
    have := hU r hr
    omega
  have e2 : hrsN P H s st U b (b + l) P.length = true := hrsN_yes fun j hj hs => by
    have h1 := a3 j hj hj hs
    have h2 := h.bd j
    omega
  rw [e1, e2]
  simp
/-- as long as one has no place, one can get it -/
theorem Topo.next {P : List Tk} {r : List Nat} (h : Topo P r) (st : Nat → Bool) (i : Nat) (hi : i ∈ r) (hs : st i = false) : ∃ j, j ∈ r ∧ st j = false ∧ hav st (tk P j).links = true := by
  induction h with
  | nil => cases hi
  | snoc r j hT hj hn hl ih =>
    by_cases c : ∃ u ∈ r, st u = false
    · obtain ⟨u, hu, hsu⟩ := c
      by_cases hir : i ∈ r
      · obtain ⟨a, b1, b2⟩ := ih hir
        exact ⟨a, List.mem_append_left _ b1, b2⟩
      · clear ih
        have : ∀ {r : List Nat}, Topo P r → ∀ u ∈ r, st u = false → ∃ j, j ∈ r ∧ st j = false ∧ hav st (tk P j).links = true := by
          intro r hT
          induction hT with
          | nil => intro u hu; cases hu
          | snoc r j hT hj hn hl ih =>
            intro u hu hsu
            by_cases c : ∃ v ∈ r, st v = false
            · obtain ⟨v, hv, hsv⟩ := c
              obtain ⟨a, b1, b2⟩ := ih v hv hsv
              exact ⟨a, List.mem_append_left _ b1, b2⟩
            · have hall : ∀ v ∈ r, st v = true := fun v hv => by
                cases e : st v with
                | true => rfl
                | false => exact absurd ⟨v, hv, e⟩ c
              rcases List.mem_append.1 hu with g | g
              · rw [hall u g] at hsu; cases hsu
              · rw [List.mem_singleton.1 g] at hsu
                exact ⟨j, by simp, hsu, List.all_eq_true.2 fun x hx => hall _ (hl x hx)⟩
        obtain ⟨a, b1, b2⟩ := this hT u hu hsu
        exact ⟨a, List.mem_append_left _ b1, b2⟩
    · have hall : ∀ v ∈ r, st v = true := fun v hv => by
        cases e : st v with
        | true => rfl
        | false => exact absurd ⟨v, hv, e⟩ c
      rcases List.mem_append.1 hi with g | g
      · rw [hall i g] at hs; cases hs
      · rw [List.mem_singleton.1 g] at hs
        exact ⟨j, by simp, hs, List.all_eq_true.2 fun x hx => hall _ (hl x hx)⟩
end Go.Proofs.YtjmjabdokckdlaaDoor
