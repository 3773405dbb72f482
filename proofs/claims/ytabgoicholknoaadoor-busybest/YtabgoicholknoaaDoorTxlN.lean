/- Lists of texts: what is read (9.2), as plain mathematics. -/
import Derived.Test.YtabgoicholknoaaDoorTxlM
namespace Go.Proofs.YtabgoicholknoaaDoor
open Go.RowKit
namespace Tl
/-- what the byte behind a backslash stands for -/
def un (b : UInt8) : Option UInt8 := if b = 92 ∨ b = 44 ∨ b = 59 then some b else if b = 110 ∨ b = 78 then some 10 else none
/-- the texts of a list, or where the first fault stands: what is left, from which place on, the texts ahead, and the one that is read -/
def run : List UInt8 → Nat → List (List UInt8) → List UInt8 → Except Nat (List (List UInt8))
  | [], _, L, c => .ok (L ++ [c])
  | [b], i, L, c => if b = 44 then .ok (L ++ [c] ++ [[]]) else if b = 59 ∨ b = 92 then .error i else .ok (L ++ [c ++ [b]])
  | b :: d :: r, i, L, c => if b = 44 then run (d :: r) (i + 1) (L ++ [c]) [] else if b = 59 then .error i else if b = 92 then (match un d with | some m => run r (i + 2) L (c ++ [m]) | none => .error i) else run (d :: r) (i + 1) L (c ++ [b])
theorem run_com (r : List UInt8) (i : Nat) (L : List (List UInt8)) (c : List UInt8) : run (44 :: r) i L c = run r (i + 1) (L ++ [c]) [] := by
  cases r <;> simp [run]
theorem run_sem (r : List UInt8) (i : Nat) (L : List (List UInt8)) (c : List UInt8) : run (59 :: r) i L c = .error i := by
  cases r <;> simp [run]
theorem run_end (i : Nat) (L : List (List UInt8)) (c : List UInt8) : run [92] i L c = .error i := by simp [run]
theorem run_esc {d m : UInt8} (h : un d = some m) (r : List UInt8) (i : Nat) (L : List (List UInt8)) (c : List UInt8) : run (92 :: d :: r) i L c = run r (i + 2) L (c ++ [m]) := by simp [run, h]
theorem run_bad {d : UInt8} (h : un d = none) (r : List UInt8) (i : Nat) (L : List (List UInt8)) (c : List UInt8) : run (92 :: d :: r) i L c = .error i := by simp [run, h]
theorem run_any {b : UInt8} (h1 : b ≠ 44) (h2 : b ≠ 59) (h3 : b ≠ 92) (r : List UInt8) (i : Nat) (L : List (List UInt8)) (c : List UInt8) : run (b :: r) i L c = run r (i + 1) L (c ++ [b]) := by
  cases r <;> simp [run, h1, h2, h3]
theorem un_cases (d : UInt8) : ((d = 92 ∨ d = 44 ∨ d = 59) ∧ un d = some d) ∨ ((d = 110 ∨ d = 78) ∧ un d = some 10) ∨ ((d ≠ 92 ∧ d ≠ 44 ∧ d ≠ 59 ∧ d ≠ 110 ∧ d ≠ 78) ∧ un d = none) := by
  unfold un
  by_cases h : d = 92 ∨ d = 44 ∨ d = 59
  · exact .inl ⟨h, if_pos h⟩
  by_cases h' : d = 110 ∨ d = 78
  · exact .inr (.inl ⟨h', by rw [if_neg h, if_pos h']⟩)
  · refine .inr (.inr ⟨?_, by rw [if_neg h, if_neg h']⟩)
    simp only [not_or] at h h'
    exact ⟨h.1, h.2.1, h.2.2, h'.1, h'.2⟩
theorem drop_at (s : ByteArray) (k : Nat) (h : k < s.size) : (tx s).drop k = s[k] :: (tx s).drop (k + 1) := by
  rw [← tx_getElem s k h, ← List.drop_eq_getElem_cons]
/-- how long what is read can be -/
def wt (L : List (List UInt8)) (c : List UInt8) : Nat := total L + L.length + c.length
theorem total_snoc (L : List (List UInt8)) (c : List UInt8) : total (L ++ [c]) = total L + c.length := by
  unfold total; rw [List.map_append, List.sum_append]; simp
theorem wt_com (L : List (List UInt8)) (c : List UInt8) : wt (L ++ [c]) [] = wt L c + 1 := by
  unfold wt; rw [total_snoc, List.length_append]; simp; omega
theorem wt_add (L : List (List UInt8)) (c : List UInt8) (b : UInt8) : wt L (c ++ [b]) = wt L c + 1 := by
  unfold wt; rw [List.length_append]; simp; omega
end Tl
end Go.Proofs.YtabgoicholknoaaDoor
