/- package cron: the days that fit, in their order; the iterator's closure. -/
import Derived.Test.YtgbbplkpepaidaaGreatDoorMCronTimes36
import Derived.RangeFuncNested
import Derived.RangeFuncBound
import Derived.RangeFuncCalls
import Derived.RangeFuncLeaves
import Derived.RangeFuncBox
import Derived.Shelf.Abstract
import Derived.WalkKit
import Derived.OwnWalkIn
import Derived.TacticsInMore
import Derived.LoopNIn
import Derived.LoopIn
namespace Go.Proofs.YtgbbplkpepaidaaGreatDoor
open Go.RowKit Go.Shelf
set_option linter.unusedVariables false
set_option linter.unusedSimpArgs false
attribute [local go_sem] Oper.semAt_some

/-- the days that fit, of n from the day a on -/
def fl (f : Int → Bool) (a : Int) : Nat → List Int
  | 0 => []
  | n + 1 => if f (a + n) then fl f a n ++ [a + n] else fl f a n
theorem fl_pre (f : Int → Bool) (a : Int) (n : Nat) : ∀ k, fl f a n <+: fl f a (n + k)
  | 0 => List.prefix_refl _
  | k + 1 => by
    have h := fl_pre f a n k
    show fl f a n <+: if f (a + (n + k : Nat)) then fl f a (n + k) ++ [a + (n + k : Nat)] else fl f a (n + k)
    split
    · exact h.trans (List.prefix_append _ _)
    · exact h
theorem fl_le (f : Int → Bool) (a : Int) {n m : Nat} (h : n ≤ m) : fl f a n <+: fl f a m := by
  obtain ⟨k, rfl⟩ := Nat.le.dest h
  exact fl_pre f a n k
theorem fl_mem (f : Int → Bool) (a d : Int) : ∀ n : Nat, d ∈ fl f a n ↔ (f d = true ∧ a ≤ d ∧ d < a + n)
  | 0 => ⟨fun h => absurd h (by simp [fl]), fun ⟨_, h1, h2⟩ => by omega⟩
  | n + 1 => by
    have ih := fl_mem f a d n
    unfold fl
    split
    · rename_i hf
      rw [List.mem_append, ih, List.mem_singleton]
      constructor
      · rintro (⟨h1, h2, h3⟩ | rfl)
        · exact ⟨h1, h2, by omega⟩
        · exact ⟨hf, by omega, by omega⟩
      · rintro ⟨h1, h2, h3⟩
        by_cases e : d = a + n
        · exact .inr e
        · exact .inl ⟨h1, h2, by omega⟩
    · rename_i hf
      rw [ih]
      constructor
      · rintro ⟨h1, h2, h3⟩; exact ⟨h1, h2, by omega⟩
      · rintro ⟨h1, h2, h3⟩
        refine ⟨h1, h2, ?_⟩
        by_cases e : d = a + n
        · subst e; exact absurd h1 hf
        · omega
theorem fl_sorted (f : Int → Bool) (a : Int) : ∀ n : Nat, (fl f a n).Pairwise (· < ·)
  | 0 => List.Pairwise.nil
  | n + 1 => by
    have ih := fl_sorted f a n
    unfold fl
    split
    · rw [List.pairwise_append]
      refine ⟨ih, List.pairwise_singleton _ _, fun x hx y hy => ?_⟩
      rw [List.mem_singleton] at hy
      subst hy
      have := (fl_mem f a x n).1 hx
      omega
    · exact ih
/-- behind a stretch: the day that it ended with is the last one of it; all that fit ahead of it are in it -/
theorem fl_last {f : Int → Bool} {a y : Int} {n : Nat} {p : List Int} (h : p ++ [y] <+: fl f a n) : f y = true ∧ a ≤ y ∧ y < a + n ∧ ∀ d, a ≤ d → d < y → f d = true → d ∈ p := by
  obtain ⟨q, hq⟩ := h
  have hm := (fl_mem f a y n).1 (by rw [← hq]; simp)
  refine ⟨hm.1, hm.2.1, hm.2.2, fun d d1 d2 d3 => ?_⟩
  have hd := (fl_mem f a d n).2 ⟨d3, d1, by omega⟩
  have hs := fl_sorted f a n
  rw [← hq] at hd hs
  rw [List.append_assoc, List.mem_append] at hd
  rcases hd with hd | hd
  · exact hd
  · rw [List.append_assoc, List.pairwise_append] at hs
    have h2 := hs.2.1
    simp only [List.singleton_append, List.pairwise_cons] at h2
    simp only [List.singleton_append, List.mem_cons] at hd
    rcases hd with rfl | hd
    · omega
    · have := h2.1 d hd; omega
/-- the days that fit, from the first on, ahead of the day d; no later than the last -/
def fu (f : Int → Bool) (a z d : Int) : List Int := fl f a ((if d ≤ z + 1 then d else z + 1) - a).toNat
theorem fu_pre (f : Int → Bool) (a z d : Int) : fu f a z d <+: fu f a z (z + 1) := by
  unfold fu
  refine fl_le f a ?_
  split <;> split <;> omega
theorem fu_step {f : Int → Bool} {a z d : Int} (h1 : a ≤ d) (h2 : d ≤ z) (hf : f d = true) : fu f a z (d + 1) = fu f a z d ++ [d] := by
  unfold fu
  rw [if_pos (by omega), if_pos (by omega), show (d + 1 - a).toNat = (d - a).toNat + 1 by omega]
  show (if f (a + ((d - a).toNat : Nat)) then _ else _) = _
  rw [show a + ((d - a).toNat : Nat) = d by omega, if_pos hf]
theorem fu_skip {f : Int → Bool} {a z d : Int} (h1 : a ≤ d) (hf : f d = false) : fu f a z (d + 1) = fu f a z d := by
  unfold fu
  by_cases h2 : d ≤ z
  · rw [if_pos (by omega), if_pos (by omega), show (d + 1 - a).toNat = (d - a).toNat + 1 by omega]
    show (if f (a + ((d - a).toNat : Nat)) then _ else _) = _
    rw [show a + ((d - a).toNat : Nat) = d by omega, if_neg (by rw [hf]; simp)]
  · rw [if_neg (by omega)]
    split
    · rw [show d = z + 1 by omega]
    · rfl
theorem fu_none {f : Int → Bool} {a z d : Int} (h1 : a ≤ d) : ∀ n : Nat, (∀ k : Nat, k < n → d + k ≤ z → f (d + k) = false) → fu f a z (d + n) = fu f a z d
  | 0, _ => by rw [show d + (0 : Nat) = d by omega]
  | n + 1, h => by
    rw [← fu_none h1 n fun k hk => h k (by omega)]
    by_cases hz : d + n ≤ z
    · rw [show d + ((n + 1 : Nat) : Int) = (d + n) + 1 by omega]
      exact fu_skip (by omega) (h n (by omega) hz)
    · unfold fu
      rw [if_neg (by omega)]
      split
      · rw [show d + (n : Int) = z + 1 by omega]
      · rfl
theorem fu_past {f : Int → Bool} {a z d e : Int} (h1 : z + 1 ≤ d) (h2 : z + 1 ≤ e) : fu f a z d = fu f a z e := by
  have k : ∀ c, z + 1 ≤ c → (if c ≤ z + 1 then c else z + 1) = z + 1 := fun c hc => by split <;> omega
  unfold fu
  rw [k d h1, k e h2]
theorem fu_all (f : Int → Bool) (a z : Int) : fu f a z (z + 1) = fl f a (z + 1 - a).toNat := by
  unfold fu
  rw [if_pos (Int.le_refl _)]
theorem fu_first (f : Int → Bool) (a z : Int) (h : a ≤ z + 1) : fu f a z a = [] := by
  unfold fu
  rw [if_pos h, show (a - a).toNat = 0 by omega]
  rfl
theorem fu_lt {f : Int → Bool} {a z d : Int} (h1 : a ≤ d) (h2 : d ≤ z) (hf : f d = true) : (fu f a z d).length < (fu f a z (z + 1)).length := by
  have h := (fu_pre f a z (d + 1)).length_le
  rw [fu_step h1 h2 hf, List.length_append] at h
  exact h
/-- what the months of the days are -/
structure Mon (M D L : Int → Int) : Prop where
  one : ∀ d, -4000000 ≤ d → d ≤ 4000000 → 1 ≤ D d ∧ D d ≤ L d ∧ L d ≤ 31
  same : ∀ d n, -4000000 ≤ d → d ≤ 4000000 → 1 ≤ n → n ≤ L d → -4000000 ≤ d - D d + n → d - D d + n ≤ 4000000 → M (d - D d + n) = M d ∧ D (d - D d + n) = n ∧ L (d - D d + n) = L d
/-- does a day fit? -/
def fDay (x : Crn.C) (M D L : Int → Int) (d : Int) : Bool := memB x.mo (M d) && fitD x (d - D d) (L d) (D d)
theorem fDay_in {x : Crn.C} {M D L : Int → Int} (h : Mon M D L) {d n : Int} (d1 : -4000000 ≤ d) (d2 : d ≤ 4000000) (n1 : D d ≤ n) (n2 : n ≤ L d) (e2 : d - D d + n ≤ 4000000) :
    fDay x M D L (d - D d + n) = (memB x.mo (M d) && fitD x (d - D d) (L d) n) := by
  have h1 := h.one d d1 d2
  obtain ⟨a, b, c⟩ := h.same d n d1 d2 (by omega) n2 (by omega) e2
  unfold fDay
  rw [a, b, c, show d - D d + n - n = d - D d by omega]
/-- what is left of a world: below n, and all cells -/
structure KpC (n : Nat) (W W' : World) : Prop where
  b : Below n W W'
  c : ∀ (k : Nat) (o : Obj), W.heap[k]? = some o → o.isCells = true → W'.heap[k]? = some o
theorem KpC.refl (n : Nat) (W : World) : KpC n W W := ⟨Below.refl _ _, fun _ _ h _ => h⟩
theorem KpC.trans {n : Nat} {X Y Z : World} (h : KpC n X Y) (k : KpC n Y Z) : KpC n X Z := ⟨h.b.trans k.b, fun i o hi ho => k.c i o (h.c i o hi ho) ho⟩
theorem KpC.of_put {n : Nat} {w : World} (hn : n ≤ w.heap.size) (W : World) (l : Nat) (o o' : Obj) (hl : w.heap.size ≤ l) (h : W.heap[l]? = some o) (h1 : o.isCells = false) (h2 : o.isWalk = false) : KpC n W (W.putObj l o') :=
  ⟨belowK_b hn W l o o' hl h h1 h2, fun k q hk hq => by
    by_cases e : k = l
    · subst e; rw [h] at hk; cases hk; rw [h1] at hq; cases hq
    · exact (World.putObj_heap_other e).trans hk⟩
theorem MBox.kept {n : Nat} {W W' : World} {B : Nat} {q a L : Int} (h : MBox W B q a L) (k : KpC n W W') : MBox W' B q a L := k.c _ _ h rfl
theorem grownBy_of_below {W W' : World} (h : Below W.heap.size W W') : W.grownBy W' none := ⟨h.os, h.tape, h.output, h.size, fun k hk _ => h.block k hk⟩
/-- what the closure of fitting lies on -/
structure FX (A : CAd) (x : Crn.C) (a z : Int) (b : Nat) (W : World) : Prop where
  cl : CL A x W
  bx : CBox W b A x
  f : Boxed W (b + 1) 3 (.int .i64 a)
  l : Boxed W (b + 1 + 1) 3 (.int .i64 z)
theorem FX.later {A : CAd} {x : Crn.C} {a z : Int} {b : Nat} {W W' : World} (h : FX A x a z b W) (hb : Below W.heap.size W W') : FX A x a z b W' :=
  ⟨h.cl.later hb, h.bx.later hb, (hb.block _ h.f.lt).trans h.f, (hb.block _ h.l.lt).trans h.l⟩
end Go.Proofs.YtgbbplkpepaidaaGreatDoor
