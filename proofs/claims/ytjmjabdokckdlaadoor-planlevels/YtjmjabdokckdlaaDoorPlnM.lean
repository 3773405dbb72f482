/- plan: plain mathematics of tasks that hang on each other. -/
import Derived.Test.YtjmjabdokckdlaaDoorWf
namespace Go.Proofs.YtjmjabdokckdlaaDoor
set_option linter.unusedVariables false
set_option linter.unusedSimpArgs false

/-- a link -/
structure Lk where
  t : Int
  k : Int
  g : Int
/-- a task -/
structure Tk where
  len : Int
  nb : Int
  links : List Lk
  uses : List Int
def tk (P : List Tk) (i : Nat) : Tk := P.getD i ⟨0, 0, [], []⟩
theorem tk_at (P : List Tk) (i : Nat) (h : i < P.length) : tk P i = P[i] := by unfold tk; rw [List.getD_eq_getElem?_getD, List.getElem?_eq_getElem h]; rfl
/-- does a task hang on those alone that stand? -/
def hav (st : Nat → Bool) (l : List Lk) : Bool := l.all fun x => st x.t.toNat
/-- one pass -/
def pas1 (P : List Tk) (r : List Nat) (i : Nat) : List Nat := if i ∉ r ∧ hav (fun t => decide (t ∈ r)) (tk P i).links = true then r ++ [i] else r
def pasN (P : List Tk) (r : List Nat) : Nat → List Nat
  | 0 => r
  | n + 1 => pas1 P (pasN P r n) n
def pas (P : List Tk) (r : List Nat) : List Nat := pasN P r P.length
theorem pas1_len (P : List Tk) (r : List Nat) (i : Nat) : r.length ≤ (pas1 P r i).length := by unfold pas1; split <;> simp
theorem pasN_len (P : List Tk) (r : List Nat) : ∀ n, r.length ≤ (pasN P r n).length
  | 0 => Nat.le_refl _
  | n + 1 => Nat.le_trans (pasN_len P r n) (pas1_len _ _ _)
/-- the passes from a row on, up to one that brings nothing -/
inductive Ends (P : List Tk) : List Nat → List Nat → Prop
  | fin (r : List Nat) (h : (pas P r).length = r.length) : Ends P r (pas P r)
  | step (r q : List Nat) (h : (pas P r).length ≠ r.length) (h' : Ends P (pas P r) q) : Ends P r q
theorem Ends.uniq {P : List Tk} {r q q' : List Nat} (h : Ends P r q) (h' : Ends P r q') : q = q' := by
  induction h with
  | fin r hh =>
    cases h' with
    | fin => rfl
    | step _ _ h2 _ => exact absurd hh h2
  | step r q hh _ ih =>
    cases h' with
    | fin _ h2 => exact absurd h2 hh
    | step _ _ _ h3 => exact ih h3
open Classical in
/-- the row in which all stand behind those on which they hang -/
noncomputable def ord (P : List Tk) : List Nat := if h : ∃ q, Ends P [] q then Classical.choose h else []
theorem ord_eq {P : List Tk} {q : List Nat} (h : Ends P [] q) : ord P = q := by
  have hx : ∃ q, Ends P [] q := ⟨q, h⟩
  unfold ord
  rw [dif_pos hx]
  exact (Classical.choose_spec hx).uniq h
/-- rows in which each stands behind those on which it hangs -/
inductive Topo (P : List Tk) : List Nat → Prop
  | nil : Topo P []
  | snoc (r : List Nat) (i : Nat) (h : Topo P r) (hi : i < P.length) (hn : i ∉ r) (hl : ∀ x ∈ (tk P i).links, x.t.toNat ∈ r) : Topo P (r ++ [i])
theorem Topo.pas1 {P : List Tk} {r : List Nat} (h : Topo P r) (i : Nat) (hi : i < P.length) : Topo P (pas1 P r i) := by
  unfold Go.Proofs.YtjmjabdokckdlaaDoor.pas1
  split
  · rename_i hh
    refine .snoc r i h hi hh.1 fun x hx => ?_
    have := List.all_eq_true.1 hh.2 x hx
    exact of_decide_eq_true this
  · exact h
theorem Topo.pasN {P : List Tk} {r : List Nat} (h : Topo P r) : ∀ n, n ≤ P.length → Topo P (pasN P r n)
  | 0, _ => h
  | n + 1, hn => (h.pasN n (by omega)).pas1 n (by omega)
theorem Topo.ends {P : List Tk} {r q : List Nat} (h : Topo P r) (he : Ends P r q) : Topo P q := by
  induction he with
  | fin r hh => exact h.pasN _ (Nat.le_refl _)
  | step r q _ _ ih => exact ih (h.pasN _ (Nat.le_refl _))
theorem Topo.lt {P : List Tk} {r : List Nat} (h : Topo P r) : ∀ i ∈ r, i < P.length := by
  induction h with
  | nil => intro i hi; cases hi
  | snoc r i _ hi _ _ ih =>
    intro j hj
    rcases List.mem_append.1 hj with h | h
    · exact ih j h
    · rw [List.mem_singleton.1 h]; exact hi
theorem Topo.nodup {P : List Tk} {r : List Nat} (h : Topo P r) : r.Nodup := by
  induction h with
  | nil => exact List.nodup_nil
  | snoc r i _ _ hn _ ih =>
    rw [List.nodup_append]
    exact ⟨ih, by simp, fun a ha b hb => by rw [List.mem_singleton.1 hb]; rintro rfl; exact hn ha⟩
theorem Topo.links {P : List Tk} {r : List Nat} (h : Topo P r) : ∀ i ∈ r, ∀ x ∈ (tk P i).links, x.t.toNat ∈ r := by
  induction h with
  | nil => intro i hi; cases hi
  | snoc r i _ _ _ hl ih =>
    intro j hj x hx
    rcases List.mem_append.1 hj with h | h
    · exact List.mem_append_left _ (ih j h x hx)
    · rw [List.mem_singleton.1 h] at hx; exact List.mem_append_left _ (hl x hx)
theorem nat_nodup : ∀ (n : Nat) (l : List Nat), l.Nodup → (∀ x ∈ l, x < n) → l.length ≤ n
  | 0, l, _, h => by
    cases l with
    | nil => exact Nat.le_refl _
    | cons x l => have := h x (by simp); omega
  | n + 1, l, hd, h => by
    have i := nat_nodup n (l.erase n) (hd.erase _) (fun x hx => by
      obtain ⟨h1, h2⟩ := hd.mem_erase_iff.1 hx
      have := h x h2
      omega)
    have e := List.length_erase (a := n) (l := l)
    split at e <;> omega
theorem Topo.le {P : List Tk} {r : List Nat} (h : Topo P r) : r.length ≤ P.length := nat_nodup _ _ h.nodup h.lt
theorem nat_full : ∀ (n : Nat) (l : List Nat), l.Nodup → (∀ x ∈ l, x < n) → l.length = n → ∀ i, i < n → i ∈ l
  | 0, l, _, h, _, i, hi => absurd hi (Nat.not_lt_zero _)
  | n + 1, l, hd, h, hl, i, hi => by
    have e := List.length_erase (a := n) (l := l)
    have hb := nat_nodup n (l.erase n) (hd.erase _) (fun x hx => by
      obtain ⟨h1, h2⟩ := hd.mem_erase_iff.1 hx
      have := h x h2
      omega)
    by_cases hm : n ∈ l
    · rw [if_pos hm] at e
      by_cases hin : i = n
      · rw [hin]; exact hm
      · exact List.mem_of_mem_erase (nat_full n (l.erase n) (hd.erase _) (fun x hx => by
          obtain ⟨h1, h2⟩ := hd.mem_erase_iff.1 hx
          have := h x h2
          omega) (by omega) i (by omega))
    · rw [if_neg hm] at e; omega
theorem Topo.full {P : List Tk} {r : List Nat} (h : Topo P r) (hl : r.length = P.length) : ∀ i, i < P.length → i ∈ r := nat_full _ _ h.nodup h.lt hl
/-- where one stands: ahead of all that hang on it -/
theorem Topo.pos {P : List Tk} {r : List Nat} (h : Topo P r) : ∀ i ∈ r, ∀ x ∈ (tk P i).links, r.idxOf x.t.toNat < r.idxOf i := by
  induction h with
  | nil => intro i hi; cases hi
  | snoc r i _ _ hn hl ih =>
    intro j hj x hx
    rcases List.mem_append.1 hj with h | h
    · have hm : x.t.toNat ∈ r := Topo.links ‹_› j h x hx
      rw [List.idxOf_append, List.idxOf_append, if_pos h, if_pos hm]
      exact ih j h x hx
    · rw [List.mem_singleton.1 h] at hx ⊢
      have hm := hl x hx
      rw [List.idxOf_append, List.idxOf_append, if_pos hm, if_neg hn]
      have := List.idxOf_lt_length_iff.2 hm
      omega
/-- how far behind the other's beginning one begins -/
def Lk.gap (x : Lk) (len others : Int) : Int := x.g + (if x.k = 1 ∨ x.k = 3 then others else 0) - (if x.k = 3 ∨ x.k = 4 then len else 0)
/-- where tasks are -/
abbrev Sp := Nat → Int × Int
def upS (s : Sp) (i : Nat) (v : Int × Int) : Sp := fun j => if j = i then v else s j
theorem upS_same (s : Sp) (i : Nat) (v : Int × Int) : upS s i v i = v := if_pos rfl
theorem upS_other (s : Sp) (i j : Nat) (v : Int × Int) (h : j ≠ i) : upS s i v j = s j := if_neg h
def gp (P : List Tk) (i : Nat) (x : Lk) : Int := x.gap (tk P i).len (tk P x.t.toNat).len
def byL (P : List Tk) (i : Nat) (s : Sp) (x : Lk) : Int := (s x.t.toNat).1 + gp P i x
def soonL (P : List Tk) (i : Nat) (s : Sp) (b : Int) (l : List Lk) : Int := l.foldl (fun b x => max b (byL P i s x)) b
def soon (P : List Tk) (i : Nat) (s : Sp) : Int := soonL P i s (tk P i).nb (tk P i).links
def plc (P : List Tk) (i : Nat) (b : Int) : Int × Int := (b, b + (tk P i).len)
def earS (P : List Tk) (r : List Nat) : Sp := r.foldl (fun s i => upS s i (plc P i (soon P i s))) fun _ => (0, 0)
theorem earS_snoc (P : List Tk) (r : List Nat) (i : Nat) : earS P (r ++ [i]) = upS (earS P r) i (plc P i (soon P i (earS P r))) := by unfold earS; rw [List.foldl_append]; rfl
/-- a plan that may be -/
structure Good (P : List Tk) : Prop where
  n60 : P.length ≤ 60
  len : ∀ i, i < P.length → 0 ≤ (tk P i).len ∧ (tk P i).len ≤ 1000000
  nb : ∀ i, i < P.length → 0 ≤ (tk P i).nb ∧ (tk P i).nb ≤ 1000000
  cnt : ∀ i, i < P.length → (tk P i).links.length ≤ 60 ∧ (tk P i).uses.length ≤ 8
  link : ∀ i, i < P.length → ∀ x ∈ (tk P i).links, 0 ≤ x.t ∧ x.t < P.length ∧ 1 ≤ x.k ∧ x.k ≤ 4 ∧ -1000000 ≤ x.g ∧ x.g ≤ 1000000 ∧ x.t ≠ i
  use : ∀ i, i < P.length → ∀ x ∈ (tk P i).uses, 0 ≤ x ∧ x ≤ 1000000
theorem Good.gp {P : List Tk} (h : Good P) (i : Nat) (hi : i < P.length) (x : Lk) (hx : x ∈ (tk P i).links) : -2000000 ≤ gp P i x ∧ gp P i x ≤ 2000000 := by
  have h1 := h.link i hi x hx
  have h2 := h.len i hi
  have h3 := h.len x.t.toNat (by omega)
  unfold Go.Proofs.YtjmjabdokckdlaaDoor.gp Lk.gap
  split <;> split <;> omega
theorem soonL_ge (P : List Tk) (i : Nat) (s : Sp) : ∀ (l : List Lk) (b : Int), b ≤ soonL P i s b l
  | [], b => by simp [soonL]
  | x :: l, b => by
    have := soonL_ge P i s l (max b (byL P i s x))
    unfold soonL at *
    rw [List.foldl_cons]
    omega
theorem soonL_by (P : List Tk) (i : Nat) (s : Sp) : ∀ (l : List Lk) (b : Int), ∀ x ∈ l, byL P i s x ≤ soonL P i s b l
  | [], b, x, hx => by cases hx
  | y :: l, b, x, hx => by
    have h1 := soonL_ge P i s l (max b (byL P i s y))
    have h2 := soonL_by P i s l (max b (byL P i s y)) x
    unfold soonL at *
    rw [List.foldl_cons]
    rcases List.mem_cons.1 hx with rfl | hx
    · omega
    · exact h2 hx
theorem soonL_le (P : List Tk) (i : Nat) (s : Sp) (m : Int) : ∀ (l : List Lk) (b : Int), b ≤ m → (∀ x ∈ l, byL P i s x ≤ m) → soonL P i s b l ≤ m
  | [], b, hb, _ => by simpa [soonL] using hb
  | y :: l, b, hb, h => by
    have h2 := soonL_le P i s m l (max b (byL P i s y)) (by have := h y (by simp); omega) (fun x hx => h x (by simp [hx]))
    unfold soonL at *
    rw [List.foldl_cons]
    exact h2
theorem soonL_is (P : List Tk) (i : Nat) (s : Sp) : ∀ (l : List Lk) (b : Int), soonL P i s b l = b ∨ ∃ x ∈ l, byL P i s x = soonL P i s b l
  | [], b => .inl (by simp [soonL])
  | y :: l, b => by
    have h2 := soonL_is P i s l (max b (byL P i s y))
    have e : soonL P i s b (y :: l) = soonL P i s (max b (byL P i s y)) l := by unfold soonL; rw [List.foldl_cons]
    rw [e]
    rcases h2 with h | ⟨x, hx, h⟩
    · by_cases hm : b ≤ byL P i s y
      · exact .inr ⟨y, by simp, by rw [h]; omega⟩
      · exact .inl (by rw [h]; omega)
    · exact .inr ⟨x, by simp [hx], h⟩
theorem soonL_congr (P : List Tk) (i : Nat) (s s' : Sp) : ∀ (l : List Lk) (b : Int), (∀ x ∈ l, s x.t.toNat = s' x.t.toNat) → soonL P i s b l = soonL P i s' b l
  | [], b, _ => rfl
  | y :: l, b, h => by
    have h2 := soonL_congr P i s s' l (max b (byL P i s y)) (fun x hx => h x (by simp [hx]))
    have e : byL P i s y = byL P i s' y := by unfold byL; rw [h y (by simp)]
    have e1 : soonL P i s b (y :: l) = soonL P i s (max b (byL P i s y)) l := by unfold soonL; rw [List.foldl_cons]
    have e2 : soonL P i s' b (y :: l) = soonL P i s' (max b (byL P i s' y)) l := by unfold soonL; rw [List.foldl_cons]
    rw [e1, e2, h2, e]
theorem earS_bd {P : List Tk} (h : Good P) {r : List Nat} (hr : Topo P r) : ∀ j, 0 ≤ (earS P r j).1 ∧ (earS P r j).1 ≤ 2000000 * r.length := by
  induction hr with
  | nil => intro j; simp [earS]
  | snoc r i hr hi hn hl ih =>
    intro j
    rw [earS_snoc]
    unfold upS
    rw [List.length_append]
    have h1 := h.nb i hi
    split
    · show 0 ≤ soon P i _ ∧ soon P i _ ≤ _
      unfold soon
      have a1 := soonL_ge P i (earS P r) (tk P i).links (tk P i).nb
      have a2 := soonL_le P i (earS P r) (2000000 * (r.length + 1)) (tk P i).links (tk P i).nb (by omega) (fun x hx => by
        have := ih x.t.toNat
        have := h.gp i hi x hx
        unfold byL
        omega)
      have a3 : ((r.length + [i].length : Nat) : Int) = r.length + 1 := by simp
      rw [a3]
      omega
    · have := ih j
      have a3 : ((r.length + [i].length : Nat) : Int) = r.length + 1 := by simp
      rw [a3]
      omega
theorem earS_out {P : List Tk} {r : List Nat} (hr : Topo P r) : ∀ j, j ∉ r → earS P r j = (0, 0) := by
  induction hr with
  | nil => intro j _; rfl
  | snoc r i hr hi hn hl ih =>
    intro j hj
    rw [earS_snoc, upS_other _ _ _ _ (fun e => hj (by simp [e]))]
    exact ih j (fun h => hj (by simp [h]))
theorem earS_fix {P : List Tk} {r : List Nat} (hr : Topo P r) : ∀ j ∈ r, earS P r j = plc P j (soon P j (earS P r)) := by
  induction hr with
  | nil => intro j hj; cases hj
  | snoc r i hr hi hn hl ih =>
    intro j hj
    rw [earS_snoc]
    have hc : ∀ k, (∀ x ∈ (tk P k).links, x.t.toNat ∈ r) → soon P k (upS (earS P r) i (plc P i (soon P i (earS P r)))) = soon P k (earS P r) := fun k hk => by
      unfold soon
      exact soonL_congr P k _ _ _ _ (fun x hx => upS_other _ _ _ _ (fun e => hn (by rw [← e]; exact hk x hx)))
    rcases List.mem_append.1 hj with h | h
    · rw [upS_other _ _ _ _ (fun e : j = i => hn (by rw [← e]; exact h)), hc j (hr.links j h)]
      exact ih j h
    · obtain rfl := List.mem_singleton.1 h
      rw [upS_same, hc j hl]
/-- no spans that fit have one sooner -/
theorem earS_least {P : List Tk} (h : Good P) {r : List Nat} (hr : Topo P r) (S : Nat → Int) (hS : ∀ i, i < P.length → (tk P i).nb ≤ S i ∧ ∀ x ∈ (tk P i).links, S x.t.toNat + gp P i x ≤ S i) : ∀ j, j < P.length → (earS P r j).1 ≤ S j := by
  induction hr with
  | nil => intro j hj; have := (hS j hj).1; have := h.nb j hj; simp [earS]; omega
  | snoc r i hr hi hn hl ih =>
    intro j hj
    rw [earS_snoc]
    unfold upS
    split
    · rename_i e
      subst e
      show soon P j _ ≤ _
      unfold soon
      exact soonL_le P j _ _ _ _ (hS j hj).1 (fun x hx => by
        have h1 := (hS j hj).2 x hx
        have h2 := h.link j hj x hx
        have h3 := ih x.t.toNat (by omega)
        unfold byL
        omega)
    · exact ih j hj
/-- spans that fit -/
def Fits (P : List Tk) (s : Sp) : Prop := ∀ i, i < P.length → (s i).2 = (s i).1 + (tk P i).len ∧ (tk P i).nb ≤ (s i).1 ∧ ∀ x ∈ (tk P i).links, (s x.t.toNat).1 + gp P i x ≤ (s i).1
theorem earS_fits {P : List Tk} {r : List Nat} (hr : Topo P r) (hl : r.length = P.length) : Fits P (earS P r) := fun i hi => by
  have e := earS_fix hr i (hr.full hl i hi)
  have e1 : (earS P r i).1 = soon P i (earS P r) := by rw [e]; rfl
  refine ⟨by rw [e]; rfl, by rw [e1]; exact soonL_ge _ _ _ _ _, fun x hx => ?_⟩
  rw [e1]
  exact soonL_by P i (earS P r) _ _ x hx
/-- one that begins behind its NotBefore waits for another -/
theorem earS_waits {P : List Tk} {r : List Nat} (hr : Topo P r) (hl : r.length = P.length) (i : Nat) (hi : i < P.length) (hn : (earS P r i).1 ≠ (tk P i).nb) : ∃ x ∈ (tk P i).links, byL P i (earS P r) x = (earS P r i).1 := by
  have e := earS_fix hr i (hr.full hl i hi)
  have e1 : (earS P r i).1 = soon P i (earS P r) := by rw [e]; rfl
  rw [e1] at hn ⊢
  rcases soonL_is P i (earS P r) (tk P i).links (tk P i).nb with h | h
  · exact absurd h hn
  · exact h
def endS (n : Nat) (s : Sp) : Int := (List.range n).foldl (fun a i => max a (s i).2) 0
theorem endS_succ (n : Nat) (s : Sp) : endS (n + 1) s = max (endS n s) (s n).2 := by unfold endS; rw [List.range_succ, List.foldl_append]; rfl
theorem endS_ge (s : Sp) : ∀ n, 0 ≤ endS n s ∧ ∀ i, i < n → (s i).2 ≤ endS n s
  | 0 => ⟨by simp [endS], fun i hi => absurd hi (Nat.not_lt_zero _)⟩
  | n + 1 => by
    obtain ⟨h1, h2⟩ := endS_ge s n
    rw [endS_succ]
    refine ⟨by omega, fun i hi => ?_⟩
    by_cases e : i = n
    · subst e; omega
    · have := h2 i (by omega); omega
theorem endS_le (s : Sp) (m : Int) (h0 : 0 ≤ m) : ∀ n, (∀ i, i < n → (s i).2 ≤ m) → endS n s ≤ m
  | 0, _ => by simpa [endS] using h0
  | n + 1, h => by
    rw [endS_succ]
    have := endS_le s m h0 n (fun i hi => h i (by omega))
    have := h n (by omega)
    omega
/-- as late as can be -/
def latI (P : List Tk) (b : Int) : Sp := fun i => plc P i (b - (tk P i).len)
def lat1 (P : List Tk) (i : Nat) (s : Sp) (x : Lk) : Sp := upS s x.t.toNat (plc P x.t.toNat (min (s x.t.toNat).1 ((s i).1 - gp P i x)))
def latL (P : List Tk) (i : Nat) (s : Sp) (l : List Lk) : Sp := l.foldl (lat1 P i) s
def latT (P : List Tk) (s : Sp) (i : Nat) : Sp := latL P i s (tk P i).links
def latS (P : List Tk) (b : Int) (r : List Nat) : Sp := r.reverse.foldl (latT P) (latI P b)
theorem latL_self (P : List Tk) (i : Nat) : ∀ (l : List Lk) (s : Sp), (∀ x ∈ l, x.t.toNat ≠ i) → latL P i s l i = s i
  | [], s, _ => rfl
  | x :: l, s, h => by
    unfold latL
    rw [List.foldl_cons]
    have := latL_self P i l (lat1 P i s x) (fun y hy => h y (by simp [hy]))
    unfold latL at this
    rw [this]
    exact upS_other _ _ _ _ (fun e => h x (by simp) e.symm)
theorem lat1_le (P : List Tk) (i : Nat) (s : Sp) (x : Lk) (j : Nat) : (lat1 P i s x j).1 ≤ (s j).1 := by
  unfold lat1 upS
  split
  · rename_i e; subst e; unfold plc; dsimp only; omega
  · exact Int.le_refl _
theorem latL_le (P : List Tk) (i : Nat) (j : Nat) : ∀ (l : List Lk) (s : Sp), (latL P i s l j).1 ≤ (s j).1
  | [], s => Int.le_refl _
  | x :: l, s => Int.le_trans (latL_le P i j l (lat1 P i s x)) (lat1_le P i s x j)
theorem latL_link (P : List Tk) (i : Nat) : ∀ (l : List Lk) (s : Sp), (∀ x ∈ l, x.t.toNat ≠ i) → ∀ x ∈ l, (latL P i s l x.t.toNat).1 ≤ (s i).1 - gp P i x
  | [], s, _, x, hx => by cases hx
  | y :: l, s, h, x, hx => by
    have e : latL P i s (y :: l) = latL P i (lat1 P i s y) l := rfl
    rw [e]
    have hi : lat1 P i s y i = s i := upS_other _ _ _ _ (fun e => h y (by simp) e.symm)
    rcases List.mem_cons.1 hx with rfl | hx
    · have h1 := latL_le P i x.t.toNat l (lat1 P i s x)
      have h2 : (lat1 P i s x x.t.toNat).1 ≤ (s i).1 - gp P i x := by unfold lat1; rw [upS_same]; unfold plc; dsimp only; omega
      omega
    · have := latL_link P i l (lat1 P i s y) (fun z hz => h z (by simp [hz])) x hx
      rw [hi] at this
      exact this
theorem latL_keep (P : List Tk) (i : Nat) (Q : Nat → Int × Int → Prop) (hq : ∀ (s : Sp) (x : Lk), x ∈ (tk P i).links → (∀ j, Q j (s j)) → Q x.t.toNat (plc P x.t.toNat (min (s x.t.toNat).1 ((s i).1 - gp P i x)))) :
    ∀ (l : List Lk) (s : Sp), (∀ x ∈ l, x ∈ (tk P i).links) → (∀ j, Q j (s j)) → ∀ j, Q j (latL P i s l j)
  | [], s, _, h, j => h j
  | x :: l, s, hl, h, j => latL_keep P i Q hq l (lat1 P i s x) (fun y hy => hl y (by simp [hy])) (fun j => by
      unfold lat1 upS
      split
      · rename_i e; subst e; exact hq s x (hl x (by simp)) h
      · exact h j) j
/-- what holds of all as late as can be, whatever the order -/
theorem latF_keep (P : List Tk) (Q : Nat → Int × Int → Prop) : ∀ (q : List Nat) (s : Sp), (∀ i ∈ q, ∀ (s : Sp) (x : Lk), x ∈ (tk P i).links → (∀ j, Q j (s j)) → Q x.t.toNat (plc P x.t.toNat (min (s x.t.toNat).1 ((s i).1 - gp P i x)))) → (∀ j, Q j (s j)) → ∀ j, Q j (q.foldl (latT P) s j)
  | [], s, _, h => h
  | i :: q, s, hq, h => latF_keep P Q q (latT P s i) (fun k hk => hq k (by simp [hk])) (latL_keep P i Q (hq i (by simp)) _ s (fun _ hx => hx) h)
theorem latS_shape (P : List Tk) (b : Int) (r : List Nat) : ∀ j, (latS P b r j).2 = (latS P b r j).1 + (tk P j).len ∧ (latS P b r j).1 ≤ b - (tk P j).len := by
  have h1 := latF_keep P (fun j v => v.2 = v.1 + (tk P j).len) r.reverse (latI P b) (fun i _ s x _ _ => rfl) (fun j => rfl)
  have h2 := latF_keep P (fun j v => v.1 ≤ b - (tk P j).len) r.reverse (latI P b) (fun i _ s x _ h => by have := h x.t.toNat; unfold plc; dsimp only; omega) (fun j => Int.le_refl _)
  exact fun j => ⟨h1 j, h2 j⟩
theorem latS_most {P : List Tk} (h : Good P) (b : Int) {r : List Nat} (hr : Topo P r) (S : Nat → Int) (hS : ∀ i, i < P.length → S i ≤ b - (tk P i).len ∧ ∀ x ∈ (tk P i).links, S x.t.toNat + gp P i x ≤ S i) : ∀ j, j < P.length → S j ≤ (latS P b r j).1 :=
  latF_keep P (fun j v => j < P.length → S j ≤ v.1) r.reverse (latI P b) (fun i hi s x hx hq hj => by
    have hi' := hr.lt i (List.mem_reverse.1 hi)
    have h1 := (hS i hi').2 x hx
    have h2 := hq i hi'
    have h3 := hq x.t.toNat hj
    unfold plc; dsimp only; omega) (fun j hj => (hS j hj).1)
theorem latF_le (P : List Tk) (j : Nat) : ∀ (q : List Nat) (s : Sp), (q.foldl (latT P) s j).1 ≤ (s j).1
  | [], s => Int.le_refl _
  | i :: q, s => Int.le_trans (latF_le P j q (latT P s i)) (latL_le P i j _ s)
theorem latF_out (P : List Tk) (j : Nat) : ∀ (q : List Nat) (s : Sp), (∀ i ∈ q, ∀ x ∈ (tk P i).links, x.t.toNat ≠ j) → q.foldl (latT P) s j = s j
  | [], s, _ => rfl
  | i :: q, s, h => by
    rw [List.foldl_cons, latF_out P j q _ (fun k hk => h k (by simp [hk]))]
    have : ∀ (l : List Lk) (s : Sp), (∀ x ∈ l, x.t.toNat ≠ j) → latL P i s l j = s j := by
      intro l
      induction l with
      | nil => intro s _; rfl
      | cons x l ih =>
        intro s hl
        show latL P i (lat1 P i s x) l j = _
        rw [ih _ (fun y hy => hl y (by simp [hy]))]
        exact upS_other _ _ _ _ (fun e => hl x (by simp) e.symm)
    exact this _ s (h i (by simp))
theorem latF_links {P : List Tk} (h : Good P) {r : List Nat} (hr : Topo P r) : ∀ s : Sp, ∀ i ∈ r, ∀ x ∈ (tk P i).links, (r.reverse.foldl (latT P) s x.t.toNat).1 + gp P i x ≤ (r.reverse.foldl (latT P) s i).1 := by
  induction hr with
  | nil => intro s i hi; cases hi
  | snoc r i hr hi hn hl ih =>
    intro s j hj x hx
    rw [List.reverse_append, List.reverse_singleton, List.singleton_append, List.foldl_cons]
    rcases List.mem_append.1 hj with hm | hm
    · exact ih _ j hm x hx
    · obtain rfl := List.mem_singleton.1 hm
      have hne : ∀ y ∈ (tk P j).links, y.t.toNat ≠ j := fun y hy e => hn (e ▸ hl y hy)
      have h1 := latF_le P x.t.toNat r.reverse (latT P s j)
      have h2 : r.reverse.foldl (latT P) (latT P s j) j = latT P s j j := latF_out P j _ _ (fun k hk y hy e => hn (e ▸ hr.links k (List.mem_reverse.1 hk) y hy))
      have h3 : latT P s j j = s j := latL_self P j _ s hne
      have h4 := latL_link P j _ s hne x hx
      rw [h2, h3]
      have h5 : latT P s j = latL P j s (tk P j).links := rfl
      rw [h5] at h1 ⊢
      omega
theorem latS_links {P : List Tk} (h : Good P) (b : Int) {r : List Nat} (hr : Topo P r) (i : Nat) (hi : i ∈ r) (x : Lk) (hx : x ∈ (tk P i).links) : (latS P b r x.t.toNat).1 + gp P i x ≤ (latS P b r i).1 := latF_links h hr _ i hi x hx
/-- how early the latest can be -/
theorem latF_bd {P : List Tk} (h : Good P) (m : Int) : ∀ (q : List Nat) (s : Sp), (∀ i ∈ q, i < P.length) → (∀ j, m ≤ (s j).1) → ∀ j, m - 2000000 * q.length ≤ (q.foldl (latT P) s j).1
  | [], s, _, hs, j => by have := hs j; simp; omega
  | i :: q, s, hq, hs, j => by
    have hi := hq i (by simp)
    have hne : ∀ x ∈ (tk P i).links, x.t.toNat ≠ i := fun x hx => by have := h.link i hi x hx; omega
    have hstep : ∀ (l : List Lk) (u : Sp), (∀ x ∈ l, x ∈ (tk P i).links) → m ≤ (u i).1 → (∀ j, m - 2000000 ≤ (u j).1) → ∀ j, m - 2000000 ≤ (latL P i u l j).1 := by
      intro l
      induction l with
      | nil => intro u _ _ h2; exact h2
      | cons x l ih =>
        intro u hl h1 h2
        refine ih (lat1 P i u x) (fun y hy => hl y (by simp [hy])) ?_ (fun j => ?_)
        · unfold lat1; rw [upS_other _ _ _ _ (fun e => hne x (hl x (by simp)) e.symm)]; exact h1
        · unfold lat1 upS
          split
          · rename_i e
            have a1 := h2 x.t.toNat
            have a2 := h.gp i hi x (hl x (by simp))
            unfold plc; dsimp only; omega
          · exact h2 j
    have := latF_bd h (m - 2000000) q (latT P s i) (fun k hk => hq k (by simp [hk])) (hstep _ s (fun _ hx => hx) (hs i) (fun j => by have := hs j; omega)) j
    rw [List.foldl_cons]
    have e : ((i :: q).length : Int) = q.length + 1 := by simp
    rw [e]
    omega
end Go.Proofs.YtjmjabdokckdlaaDoor
