/- Lists as texts: plain mathematics (bytes, what is escaped, joined). -/
import Derived.Test.YtabgoicholknoaaDoorBase
import Derived.Lib.AppendStr
namespace Go.Proofs.YtabgoicholknoaaDoor
open Go.RowKit
namespace Tl
/-- bytes as cells -/
def bs (l : List UInt8) : List Value := l.map fun b => Value.int .u8 b.toNat
theorem bs_app (l m : List UInt8) : bs (l ++ m) = bs l ++ bs m := by unfold bs; rw [List.map_append]
theorem bs_len (l : List UInt8) : (bs l).length = l.length := by unfold bs; rw [List.length_map]
theorem bs_one (l : List UInt8) : ∀ u ∈ bs l, u.oneCell' = true := by
  intro u hu
  obtain ⟨y, _, rfl⟩ := List.mem_map.1 hu
  rfl
theorem bs_str (s : ByteArray) : Lib.strCells s = bs s.data.toList := rfl
def str (l : List UInt8) : ByteArray := ⟨l.toArray⟩
def tx (s : ByteArray) : List UInt8 := s.data.toList
theorem tx_str (l : List UInt8) : tx (str l) = l := rfl
theorem str_tx (s : ByteArray) : str (tx s) = s := rfl
theorem tx_len (s : ByteArray) : (tx s).length = s.size := by unfold tx; rw [Array.length_toList]; rfl
theorem str_size (l : List UInt8) : (str l).size = l.length := by rw [← tx_len, tx_str]
theorem tx_app (a b : ByteArray) : tx (a ++ b) = tx a ++ tx b := by unfold tx; rw [ByteArray.data_append, Array.toList_append]
theorem str_app (a b : List UInt8) : str (a ++ b) = str a ++ str b := by
  rw [← str_tx (str a ++ str b), tx_app, tx_str, tx_str]
theorem tx_inj {a b : ByteArray} (h : tx a = tx b) : a = b := by rw [← str_tx a, ← str_tx b, h]
theorem tx_getElem (s : ByteArray) (k : Nat) (h : k < s.size) : (tx s)[k]'(by rw [tx_len]; exact h) = s[k] := rfl
theorem tx_take_succ (s : ByteArray) (k : Nat) (h : k < s.size) : (tx s).take (k + 1) = (tx s).take k ++ [s[k]] := by
  rw [List.take_add_one, List.getElem?_eq_getElem (by rw [tx_len]; exact h)]; rfl
theorem tx_extract (s : ByteArray) (a b : Nat) : tx (s.extract a b) = ((tx s).drop a).take (b - a) := by
  unfold tx
  rw [ByteArray.data_extract, Array.toList_extract, List.extract_eq_take_drop]
/-- what is written for a byte -/
def escB (b : UInt8) : List UInt8 := if b = 92 ∨ b = 44 ∨ b = 59 then [92, b] else if b = 10 then [92, 110] else [b]
def esc (l : List UInt8) : List UInt8 := l.flatMap escB
theorem esc_nil : esc [] = [] := rfl
theorem esc_snoc (l : List UInt8) (b : UInt8) : esc (l ++ [b]) = esc l ++ escB b := by unfold esc; rw [List.flatMap_append]; simp
theorem escB_len (b : UInt8) : (escB b).length ≤ 2 := by unfold escB; split; · simp
                                                         · split <;> simp
theorem esc_len (l : List UInt8) : (esc l).length ≤ 2 * l.length := by
  induction l with
  | nil => simp [esc]
  | cons x r ih =>
    have := escB_len x
    have e : esc (x :: r) = escB x ++ esc r := by unfold esc; rw [List.flatMap_cons]
    rw [e, List.length_append, List.length_cons]; omega
/-- texts, escaped, with commas between -/
def joinE : List (List UInt8) → List UInt8
  | [] => []
  | [a] => esc a
  | a :: b :: r => esc a ++ [44] ++ joinE (b :: r)
theorem joinE_snoc : ∀ (L : List (List UInt8)) (x : List UInt8), joinE (L ++ [x]) = (if L = [] then [] else joinE L ++ [44]) ++ esc x
  | [], x => by simp [joinE]
  | [a], x => by simp [joinE]
  | a :: b :: r, x => by
    have ih := joinE_snoc (b :: r) x
    rw [List.cons_append, List.cons_append, joinE, ← List.cons_append, ih]
    simp [joinE]
def total (L : List (List UInt8)) : Nat := (L.map (·.length)).sum
theorem joinE_len : ∀ L : List (List UInt8), (joinE L).length ≤ 2 * total L + L.length
  | [] => by simp [joinE]
  | [a] => by have := esc_len a; simp [joinE, total]; omega
  | a :: b :: r => by
    have ih := joinE_len (b :: r)
    have := esc_len a
    simp only [joinE, List.length_append, List.length_cons, List.length_nil, total, List.map_cons, List.sum_cons] at ih ⊢
    omega
theorem total_take (L : List (List UInt8)) (k : Nat) : total (L.take k) ≤ total L := by
  unfold total
  rw [List.map_take]
  conv => rhs; rw [← List.take_append_drop k (L.map (·.length))]
  rw [List.sum_append]; omega
/-- the case of a byte -/
theorem byte_cases (x : UInt8) : x = 92 ∨ x = 44 ∨ x = 59 ∨ x = 10 ∨ (x ≠ 92 ∧ x ≠ 44 ∧ x ≠ 59 ∧ x ≠ 10) := by
  by_cases h1 : x = 92
  · exact .inl h1
  by_cases h2 : x = 44
  · exact .inr (.inl h2)
  by_cases h3 : x = 59
  · exact .inr (.inr (.inl h3))
  by_cases h4 : x = 10
  · exact .inr (.inr (.inr (.inl h4)))
  exact .inr (.inr (.inr (.inr ⟨h1, h2, h3, h4⟩)))
theorem ne_int {x : UInt8} {c : UInt8} (h : x ≠ c) : ((x.toNat : Int) == (c.toNat : Int)) = false := by
  rw [beq_eq_false_iff_ne]
  intro e
  exact h (UInt8.toNat_inj.1 (by omega))
end Tl
end Go.Proofs.YtabgoicholknoaaDoor
