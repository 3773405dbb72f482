/- package cron: plain mathematics of Check and Text. -/
import Derived.Test.YtgbbplkpepaidaaGreatDoorMCronTimes1
import Derived.Lib.Join
import Derived.Lib.ItoaNum
namespace Go.Proofs.YtgbbplkpepaidaaGreatDoor.Crn
open Go.RowKit
set_option linter.unusedVariables false
set_option linter.unusedSimpArgs false

/-- all of the first n -/
def allB (b : Nat → Bool) : Nat → Bool
  | 0 => true
  | n + 1 => allB b n && b n
theorem allB_no {b : Nat → Bool} {k : Nat} (h : b k = false) : ∀ n, k < n → allB b n = false
  | 0, hk => by omega
  | n + 1, hk => by
    unfold allB
    rcases Nat.lt_or_ge k n with h1 | h1
    · rw [allB_no h n h1]; rfl
    · obtain rfl : k = n := by omega
      rw [h, Bool.and_false]
theorem allB_yes {b : Nat → Bool} : ∀ {n : Nat}, allB b n = true → ∀ k, k < n → b k = true
  | 0, _, k, hk => by omega
  | n + 1, h, k, hk => by
    unfold allB at h
    rw [Bool.and_eq_true] at h
    rcases Nat.lt_or_ge k n with h1 | h1
    · exact allB_yes h.1 k h1
    · obtain rfl : k = n := by omega
      exact h.2
theorem allB_true {b : Nat → Bool} : ∀ {n : Nat}, (∀ k, k < n → b k = true) → allB b n = true
  | 0, _ => rfl
  | n + 1, h => by
    unfold allB
    rw [allB_true (fun k hk => h k (by omega)), h n (by omega)]; rfl
/-- may the k-th number be, and is it above the one ahead? -/
def okR (lo hi : Int) (l : List Int) (k : Nat) : Bool := decide (lo ≤ l.getD k 0 ∧ l.getD k 0 ≤ hi ∧ (k = 0 ∨ l.getD (k - 1) 0 < l.getD k 0))
def rises (lo hi : Int) (l : List Int) : Bool := allB (okR lo hi l) l.length
theorem okR_bd {lo hi : Int} {l : List Int} {k : Nat} (h : okR lo hi l k = true) : lo ≤ l.getD k 0 ∧ l.getD k 0 ≤ hi := by
  unfold okR at h
  have := of_decide_eq_true h
  exact ⟨this.1, this.2.1⟩
theorem rises_ge {lo hi : Int} {l : List Int} {n : Nat} (h : allB (okR lo hi l) n = true) : ∀ k, k < n → lo + k ≤ l.getD k 0
  | 0, hk => by have := (okR_bd (allB_yes h 0 hk)).1; omega
  | k + 1, hk => by
    have h1 := rises_ge h k (by omega)
    have h2 := of_decide_eq_true (allB_yes h (k + 1) hk)
    have h3 := h2.2.2.resolve_left (by omega)
    rw [Nat.add_sub_cancel] at h3
    omega
theorem rises_len {lo hi : Int} {l : List Int} (h : rises lo hi l = true) : (l.length : Int) ≤ max 0 (hi - lo + 1) := by
  unfold rises at h
  rcases Nat.eq_zero_or_pos l.length with h0 | h0
  · omega
  · have h1 := rises_ge h (l.length - 1) (by omega)
    have h2 := (okR_bd (allB_yes h (l.length - 1) (by omega))).2
    omega
theorem all_bd {lo hi : Int} {l : List Int} {k : Nat} (h : allB (okR lo hi l) k = true) (b0 : 0 ≤ lo) (b1 : hi ≤ 1000) : k ≤ 1001 := by
  rcases Nat.eq_zero_or_pos k with h0 | h0
  · omega
  · have h1 := rises_ge h (k - 1) (by omega)
    have h2 := (okR_bd (allB_yes h (k - 1) (by omega))).2
    omega
/-- what the code asks, where all ahead may be -/
theorem okR_code {lo hi : Int} {l : List Int} {k : Nat} (h : allB (okR lo hi l) k = true) : okR lo hi l k = decide ((if k = 0 then lo else l.getD (k - 1) 0 + 1) ≤ l.getD k 0 ∧ l.getD k 0 ≤ hi) := by
  unfold okR
  by_cases hk : k = 0
  · subst hk; simp
  · have h1 := (okR_bd (allB_yes h (k - 1) (by omega))).1
    rw [if_neg hk]
    rw [Bool.eq_iff_iff]
    simp only [decide_eq_true_eq, hk, false_or]
    omega
/-- of weekdays of a month (N, Day) -/
def okN (l : List (Int × Int)) (k : Nat) : Bool := decide (1 ≤ (l.getD k (0, 0)).1 ∧ (l.getD k (0, 0)).1 ≤ 5 ∧ 1 ≤ (l.getD k (0, 0)).2 ∧ (l.getD k (0, 0)).2 ≤ 7 ∧ (k = 0 ∨ (l.getD (k - 1) (0, 0)).2 < (l.getD k (0, 0)).2 ∨ (l.getD (k - 1) (0, 0)).2 = (l.getD k (0, 0)).2 ∧ (l.getD (k - 1) (0, 0)).1 < (l.getD k (0, 0)).1))
def risesN (l : List (Int × Int)) : Bool := allB (okN l) l.length
theorem okN_bd {l : List (Int × Int)} {k : Nat} (h : okN l k = true) : 1 ≤ (l.getD k (0, 0)).1 ∧ (l.getD k (0, 0)).1 ≤ 5 ∧ 1 ≤ (l.getD k (0, 0)).2 ∧ (l.getD k (0, 0)).2 ≤ 7 := by
  unfold okN at h
  have := of_decide_eq_true h
  exact ⟨this.1, this.2.1, this.2.2.1, this.2.2.2.1⟩
theorem risesN_ge {l : List (Int × Int)} {n : Nat} (h : allB (okN l) n = true) : ∀ k, k < n → (k : Int) ≤ (l.getD k (0, 0)).2 * 5 + (l.getD k (0, 0)).1 - 6
  | 0, hk => by have := okN_bd (allB_yes h 0 hk); omega
  | k + 1, hk => by
    have h1 := risesN_ge h k (by omega)
    have h2 := of_decide_eq_true (allB_yes h (k + 1) hk)
    have h3 := h2.2.2.2.2.resolve_left (by omega)
    have h4 := okN_bd (allB_yes h k (by omega))
    rw [Nat.add_sub_cancel] at h3
    omega
theorem allN_bd {l : List (Int × Int)} {k : Nat} (h : allB (okN l) k = true) : k ≤ 1001 := by
  rcases Nat.eq_zero_or_pos k with h0 | h0
  · omega
  · have h1 := risesN_ge h (k - 1) (by omega)
    have h2 := okN_bd (allB_yes h (k - 1) (by omega))
    omega
theorem risesN_len {l : List (Int × Int)} (h : risesN l = true) : l.length ≤ 35 := by
  unfold risesN at h
  rcases Nat.eq_zero_or_pos l.length with h0 | h0
  · omega
  · have h1 := risesN_ge h (l.length - 1) (by omega)
    have h2 := okN_bd (allB_yes h (l.length - 1) (by omega))
    omega
/-- what the code asks, where all ahead may be; p: the one ahead, or nothing -/
theorem okN_code {l : List (Int × Int)} {k : Nat} (h : allB (okN l) k = true) : okN l k = (decide ((if k = 0 then (0, 0) else l.getD (k - 1) (0, 0) : Int × Int).2 < (l.getD k (0, 0)).2 ∨ (if k = 0 then (0, 0) else l.getD (k - 1) (0, 0) : Int × Int).2 = (l.getD k (0, 0)).2 ∧ (if k = 0 then (0, 0) else l.getD (k - 1) (0, 0) : Int × Int).1 < (l.getD k (0, 0)).1) && decide (1 ≤ (l.getD k (0, 0)).2 ∧ (l.getD k (0, 0)).2 ≤ 7) && decide (1 ≤ (l.getD k (0, 0)).1 ∧ (l.getD k (0, 0)).1 ≤ 5)) := by
  unfold okN
  by_cases hk : k = 0
  · subst hk
    rw [Bool.eq_iff_iff]
    simp only [Bool.and_eq_true, decide_eq_true_eq, if_true, true_or, and_true]
    omega
  · rw [if_neg hk, Bool.eq_iff_iff]
    simp only [Bool.and_eq_true, decide_eq_true_eq, hk, false_or]
    omega
/-- a Cron -/
structure C where
  mi : List Int
  ho : List Int
  mo : List Int
  any : Bool
  da : List Int
  last : Bool
  near : List Int
  anyW : Bool
  wd : List Int
  lo : List Int
  nth : List (Int × Int)
/-- may it be? -/
def ok (c : C) : Bool :=
  rises 0 59 c.mi && rises 0 23 c.ho && rises 1 12 c.mo && rises 1 31 c.da && rises 1 31 c.near && rises 1 7 c.wd && rises 1 7 c.lo && risesN c.nth &&
  decide (0 < c.mi.length) && decide (0 < c.ho.length) && decide (0 < c.mo.length) &&
  (c.any == (decide (c.da.length = 0) && decide (c.near.length = 0) && !c.last)) && (c.anyW == (decide (c.wd.length = 0) && decide (c.lo.length = 0) && decide (c.nth.length = 0)))

/-! ### texts -/
theorem mk_app (a b : Array UInt8) : (⟨a⟩ : ByteArray) ++ ⟨b⟩ = ⟨a ++ b⟩ := by
  apply ByteArray.ext
  simp [ByteArray.data_append]
def dec (x : Int) : ByteArray := ⟨(Lib.itoa x).toArray⟩
def joinB (l : List ByteArray) : ByteArray := ⟨(Lib.join (l.map (·.data.toList)) [44]).toArray⟩
theorem joinB_nil : joinB [] = ⟨#[]⟩ := rfl
theorem joinB_one (x : ByteArray) : joinB [x] = x := by
  obtain ⟨d⟩ := x
  simp [joinB, Lib.join_one]
theorem join_snoc (x : List UInt8) : ∀ (l : List (List UInt8)) (sep : List UInt8), l ≠ [] → Lib.join (l ++ [x]) sep = Lib.join l sep ++ sep ++ x := by
  intro l sep h
  match l, h with
  | y :: r, _ =>
    rw [List.cons_append, Lib.join_cons, Lib.join_cons]
    simp [Lib.joinTail, List.append_assoc]
theorem joinB_snoc (l : List ByteArray) (x : ByteArray) (h : l ≠ []) : joinB (l ++ [x]) = joinB l ++ ⟨#[44]⟩ ++ x := by
  obtain ⟨d⟩ := x
  unfold joinB
  rw [mk_app, mk_app, List.map_append, List.map_cons, List.map_nil, join_snoc _ _ _ (by simpa using h)]
  simp
theorem joinB_size (l : List ByteArray) (m : Nat) (h : ∀ x ∈ l, x.size ≤ m) : (joinB l).size ≤ l.length * (m + 1) := by
  cases l with
  | nil => show (0 : Nat) ≤ _; omega
  | cons y r =>
    have h1 : (joinB (y :: r)).size = (Lib.join ((y :: r).map (·.data.toList)) [44]).length := by show (List.toArray _).size = _; rw [List.size_toArray]
    rw [h1, List.map_cons, Lib.join_length]
    have h2 : ∀ q : List ByteArray, (∀ x ∈ q, x.size ≤ m) → Lib.lens (q.map (·.data.toList)) ≤ q.length * m := by
      intro q hq
      induction q with
      | nil => simp [Lib.lens]
      | cons a b ih =>
        have h3 := ih (fun x hx => hq x (List.mem_cons_of_mem _ hx))
        have h4 : a.data.toList.length ≤ m := by have := hq a List.mem_cons_self; rw [Array.length_toList]; exact this
        simp only [Lib.lens, List.map_cons, List.sum_cons, List.length_cons] at h3 ⊢
        rw [Nat.succ_mul]; omega
    have h5 := h2 (y :: r) h
    rw [List.map_cons] at h5
    simp only [List.length_map, List.length_cons, List.length_singleton, Nat.one_mul, List.length_nil] at h5 ⊢
    rw [Nat.mul_add]; omega
theorem joinB_ne (l : List ByteArray) (h : l ≠ []) (hp : ∀ x ∈ l, 0 < x.size) : 0 < (joinB l).size := by
  cases l with
  | nil => exact absurd rfl h
  | cons y r =>
    have h1 : (joinB (y :: r)).size = (Lib.join ((y :: r).map (·.data.toList)) [44]).length := by show (List.toArray _).size = _; rw [List.size_toArray]
    have h2 : 0 < y.data.toList.length := by have := hp y List.mem_cons_self; rw [Array.length_toList]; exact this
    rw [h1, List.map_cons, Lib.join_length]
    simp only [Lib.lens, List.map_cons, List.sum_cons]
    omega
/-- numbers, each with something behind it -/
def its (l : List Int) (b : ByteArray) : List ByteArray := l.map fun x => dec x ++ b
def nts (l : List (Int × Int)) : List ByteArray := l.map fun p => dec p.2 ++ ⟨#[35]⟩ ++ dec p.1
theorem its_nil (l : List Int) : its l ⟨#[]⟩ = l.map dec := by
  unfold its
  congr 1
  funext x
  unfold dec
  rw [mk_app]; simp
theorem dec_size (x : Int) (h0 : 0 ≤ x) (h1 : x < 100) : 0 < (dec x).size ∧ (dec x).size ≤ 2 := by
  have h : ∀ n : Fin 100, 0 < (dec (n.1 : Int)).size ∧ (dec (n.1 : Int)).size ≤ 2 := by decide +kernel
  have := h ⟨x.toNat, by omega⟩
  rw [show ((x.toNat : Nat) : Int) = x by omega] at this
  exact this
def star : ByteArray := ⟨#[42]⟩
/-- numbers, of n that may be -/
def word (n : Nat) (l : List Int) : ByteArray := if l.length = n then star else joinB (its l ⟨#[]⟩)
def dItems (c : C) : List ByteArray := its c.da ⟨#[]⟩ ++ its c.near ⟨#[87]⟩ ++ (if c.last then [⟨#[76]⟩] else [])
def wItems (c : C) : List ByteArray := its c.wd ⟨#[]⟩ ++ its c.lo ⟨#[76]⟩ ++ nts c.nth
def dWord (c : C) : ByteArray := if c.any then star else joinB (dItems c)
def wWord (c : C) : ByteArray := if c.anyW then star else joinB (wItems c)
def sp : ByteArray := ⟨#[32]⟩
def text (c : C) : ByteArray := word 60 c.mi ++ sp ++ word 24 c.ho ++ sp ++ dWord c ++ sp ++ word 12 c.mo ++ sp ++ wWord c
theorem text_join (a b c d e : ByteArray) : (⟨(Lib.join ([a, b, c, d, e].map (·.data.toList)) [32]).toArray⟩ : ByteArray) = a ++ sp ++ b ++ sp ++ c ++ sp ++ d ++ sp ++ e := by
  obtain ⟨a⟩ := a
  obtain ⟨b⟩ := b
  obtain ⟨c⟩ := c
  obtain ⟨d⟩ := d
  obtain ⟨e⟩ := e
  unfold sp
  simp only [mk_app, List.map_cons, List.map_nil, Lib.join_cons, Lib.joinTail]
  congr 1
  apply Array.toList_inj.1
  simp
end Go.Proofs.YtgbbplkpepaidaaGreatDoor.Crn
