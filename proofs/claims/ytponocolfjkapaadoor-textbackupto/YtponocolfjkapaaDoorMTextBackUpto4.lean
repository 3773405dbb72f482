/- Lines unfolded (9.1): plain mathematics. -/
import Derived.Test.YtponocolfjkapaaDoorMTextBackUpto1
import Derived.Lib.IndexLaws
import Derived.Shelf.Strings.Prefix
namespace Go.Proofs.YtponocolfjkapaaDoor
open Go.RowKit
namespace Tl
/-- what stands between line feeds -/
inductive Cts : List UInt8 → List (List UInt8) → Prop
  | last (l : List UInt8) (h : (10 : UInt8) ∉ l) : Cts l [l]
  | more (p r : List UInt8) (L : List (List UInt8)) (h : (10 : UInt8) ∉ p) (h' : Cts r L) : Cts (p ++ 10 :: r) (p :: L)
theorem app_cut {p p' r r' : List UInt8} (h : p ++ 10 :: r = p' ++ 10 :: r') (hp : (10 : UInt8) ∉ p) (hp' : (10 : UInt8) ∉ p') : p = p' ∧ r = r' := by
  induction p generalizing p' with
  | nil => cases p' with
    | nil => exact ⟨rfl, (List.cons.inj h).2⟩
    | cons x q => exact absurd (List.cons.inj h).1 (fun e => hp' (by rw [← e]; exact List.mem_cons_self))
  | cons y p ih => cases p' with
    | nil => exact absurd (List.cons.inj h).1 (fun e => hp (by rw [e]; exact List.mem_cons_self))
    | cons x q =>
      obtain ⟨e1, e2⟩ := List.cons.inj h
      obtain ⟨e3, e4⟩ := ih e2 (fun h => hp (List.mem_cons_of_mem _ h)) (fun h => hp' (List.mem_cons_of_mem _ h))
      exact ⟨by rw [e1, e3], e4⟩
theorem Cts.inv_last {l : List UInt8} {C : List (List UInt8)} (h : Cts l C) (hl : (10 : UInt8) ∉ l) : C = [l] := by
  cases h with
  | last => rfl
  | more p r L _ _ => exact absurd (List.mem_append_right p List.mem_cons_self) hl
theorem Cts.inv_more {p r l : List UInt8} {C : List (List UInt8)} (h : Cts l C) (hl : l = p ++ 10 :: r) (hp : (10 : UInt8) ∉ p) : ∃ L, Cts r L ∧ C = p :: L := by
  cases h with
  | last _ hn => exact absurd (by rw [hl]; exact List.mem_append_right p List.mem_cons_self) hn
  | more p' r' L h1 h2 =>
    obtain ⟨rfl, rfl⟩ := app_cut hl h1 hp
    exact ⟨L, h2, rfl⟩
theorem Cts.ex : ∀ (n : Nat) (l : List UInt8), l.length ≤ n → ∃ C, Cts l C ∧ C.length ≤ l.length + 1 ∧ total C ≤ l.length
  | n, l, hn => by
    by_cases h : (10 : UInt8) ∈ l
    · obtain ⟨p, r, rfl, hp⟩ := List.eq_append_cons_of_mem h
      match n, hn with
      | n + 1, hn =>
        obtain ⟨C, hC, h1, h2⟩ := Cts.ex n r (by simp at hn; omega)
        refine ⟨p :: C, Cts.more p r C hp hC, by simp; omega, ?_⟩
        simp only [total, List.map_cons, List.sum_cons, List.length_append, List.length_cons] at h2 ⊢
        omega
      | 0, hn => simp at hn
    · exact ⟨[l], Cts.last l h, by simp, by simp [total]⟩
theorem Cts.ne {l : List UInt8} {C : List (List UInt8)} (h : Cts l C) : C ≠ [] := by cases h <;> simp
/-- behind the last line feed there is none -/
def strip : List (List UInt8) → List (List UInt8)
  | [] => []
  | [a] => if a = [] then [] else [a]
  | a :: b :: r => a :: strip (b :: r)
theorem strip_cons (p : List UInt8) (L : List (List UInt8)) (h : L ≠ []) : strip (p :: L) = p :: strip L := by
  cases L with
  | nil => exact absurd rfl h
  | cons b r => rfl
theorem strip_snoc : ∀ (D : List (List UInt8)) (x : List UInt8), strip (D ++ [x]) = if x = [] then D else D ++ [x]
  | [], x => by simp [strip]
  | [a], x => by
    have : strip ([a] ++ [x]) = a :: strip [x] := rfl
    rw [this]; unfold strip; split <;> simp
  | a :: b :: r, x => by
    have ih := strip_snoc (b :: r) x
    have : strip (a :: b :: r ++ [x]) = a :: strip (b :: r ++ [x]) := rfl
    rw [this, ih]; split <;> simp
/-- a return at a line's end is left out -/
def trim (p : List UInt8) : List UInt8 := if p.getLast? = some 13 then p.dropLast else p
def folded (p : List UInt8) : Bool := match p with | [] => false | b :: _ => b == 32 || b == 9
/-- one line more -/
def step (L : List (List UInt8)) (p : List UInt8) : List (List UInt8) :=
  if folded (trim p) = true ∧ L ≠ [] then L.dropLast ++ [L.getLastD [] ++ (trim p).tail] else L ++ [trim p]
def unf (L : List (List UInt8)) (C : List (List UInt8)) : List (List UInt8) := C.foldl step L
theorem trim_len (p : List UInt8) : (trim p).length ≤ p.length := by unfold trim; split <;> simp
theorem step_len (L : List (List UInt8)) (p : List UInt8) : (step L p).length ≤ L.length + 1 := by
  unfold step
  split
  · rename_i h
    rw [List.length_append, List.length_dropLast]; simp only [List.length_singleton]; omega
  · simp
theorem total_app (L M : List (List UInt8)) : total (L ++ M) = total L + total M := by unfold total; rw [List.map_append, List.sum_append]
theorem total_last : ∀ L : List (List UInt8), L ≠ [] → total L = total L.dropLast + (L.getLastD []).length
  | [], h => absurd rfl h
  | [a], _ => by simp [total]
  | a :: b :: r, _ => by
    have ih := total_last (b :: r) (by simp)
    have e : (a :: b :: r).getLastD [] = (b :: r).getLastD [] := rfl
    rw [e]
    simp only [List.dropLast_cons_cons, total, List.map_cons, List.sum_cons] at ih ⊢
    omega
theorem step_total (L : List (List UInt8)) (p : List UInt8) : total (step L p) ≤ total L + p.length := by
  have h1 := trim_len p
  unfold step
  split
  · rename_i h
    have h2 := total_last L h.2
    rw [total_app]
    simp only [total, List.map_cons, List.map_nil, List.sum_cons, List.sum_nil, List.length_append, List.length_tail] at h2 ⊢
    omega
  · rw [total_app]; simp [total]; omega
theorem unf_total : ∀ (C L : List (List UInt8)), total (unf L C) ≤ total L + total C
  | [], L => by simp [unf, total]
  | p :: C, L => by
    have ih := unf_total C (step L p)
    have h := step_total L p
    have e : unf L (p :: C) = unf (step L p) C := rfl
    rw [e]
    simp only [total, List.map_cons, List.sum_cons] at ih h ⊢
    omega
theorem unf_len : ∀ (C L : List (List UInt8)), (unf L C).length ≤ L.length + C.length
  | [], L => by simp [unf]
  | p :: C, L => by
    have ih := unf_len C (step L p)
    have h := step_len L p
    have e : unf L (p :: C) = unf (step L p) C := rfl
    rw [e]
    simp only [List.length_cons]
    omega
theorem strip_total : ∀ C : List (List UInt8), total (strip C) ≤ total C
  | [] => by simp [strip]
  | [a] => by unfold strip; split <;> simp [total]
  | a :: b :: r => by
    have ih := strip_total (b :: r)
    have e : strip (a :: b :: r) = a :: strip (b :: r) := rfl
    rw [e]
    simp only [total, List.map_cons, List.sum_cons] at ih ⊢
    omega
theorem unf_small (C : List (List UInt8)) (k : Nat) : total (unf [] ((strip C).take k)) ≤ total C := by
  have h1 := unf_total ((strip C).take k) []
  have h2 := total_take (strip C) k
  have h3 := strip_total C
  have h4 : total ([] : List (List UInt8)) = 0 := rfl
  omega
theorem trim_eq (s : ByteArray) : Lib.trimSuffix s.data.toList [13] = trim (tx s) := by
  unfold Lib.trimSuffix trim tx Lib.hasSuffix
  generalize s.data.toList = l
  by_cases h : l.getLast? = some 13
  · obtain ⟨t, rfl⟩ := List.getLast?_eq_some_iff.1 h
    rw [if_pos h, if_pos (List.isSuffixOf_iff_suffix.2 ⟨t, rfl⟩)]
    simp
  · rw [if_neg h, if_neg]
    intro hs
    obtain ⟨t, rfl⟩ := List.isSuffixOf_iff_suffix.1 hs
    exact h (by simp)
end Tl
end Go.Proofs.YtponocolfjkapaaDoor
