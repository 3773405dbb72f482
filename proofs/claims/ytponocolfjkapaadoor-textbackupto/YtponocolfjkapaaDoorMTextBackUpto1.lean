/- Lists come back (mathematics). -/
import Derived.Test.YtponocolfjkapaaDoorBase
import Derived.Lib.AppendStr
namespace Go.Proofs.YtponocolfjkapaaDoor
open Go.RowKit
namespace Tl
/-- bytes as cells -/
def bs (l : List UInt8) : List Value := l.map fun b => Value.int .u8 b.toNat
theorem bs_app (l m : List UInt8) : bs (l ++ m) = bs l ++ bs m := by unfold bs; rw [List.map_append]
theorem bs_len (l : List UInt8) : (bs l).length = l.length := by unfold bs; rw [List.length_map]
theorem bs_one (l : List UInt8) : ∀ u ∈ bs l, u.oneCell' = true := by
  intro u hu
  obtain ⟨y, _, rfl⟩ := List.mem_map.1 hu
  rfl
theorem bs_str (s : ByteArray) : Lib.strCells s = bs s.data.toList := rfl
def str (l : List UInt8) : ByteArray := ⟨l.toArray⟩
def tx (s : ByteArray) : List UInt8 := s.data.toList
theorem tx_str (l : List UInt8) : tx (str l) = l := rfl
theorem str_tx (s : ByteArray) : str (tx s) = s := rfl
theorem tx_len (s : ByteArray) : (tx s).length = s.size := by unfold tx; rw [Array.length_toList]; rfl
theorem str_size (l : List UInt8) : (str l).size = l.length := by rw [← tx_len, tx_str]
theorem tx_app (a b : ByteArray) : tx (a ++ b) = tx a ++ tx b := by unfold tx; rw [ByteArray.data_append, Array.toList_append]
theorem str_app (a b : List UInt8) : str (a ++ b) = str a ++ str b := by
  rw [← str_tx (str a ++ str b), tx_app, tx_str, tx_str]
theorem tx_inj {a b : ByteArray} (h : tx a = tx b) : a = b := by rw [← str_tx a, ← str_tx b, h]
theorem tx_getElem (s : ByteArray) (k : Nat) (h : k < s.size) : (tx s)[k]'(by rw [tx_len]; exact h) = s[k] := rfl
theorem tx_take_succ (s : ByteArray) (k : Nat) (h : k < s.size) : (tx s).take (k + 1) = (tx s).take k ++ [s[k]] := by
  rw [List.take_add_one, List.getElem?_eq_getElem (by rw [tx_len]; exact h)]; rfl
theorem tx_extract (s : ByteArray) (a b : Nat) : tx (s.extract a b) = ((tx s).drop a).take (b - a) := by
  unfold tx
  rw [ByteArray.data_extract, Array.toList_extract, List.extract_eq_take_drop]
/-- what is written for a byte -/
def escB (b : UInt8) : List UInt8 := if b = 92 ∨ b = 44 ∨ b = 59 then [92, b] else if b = 10 then [92, 110] else [b]
def esc (l : List UInt8) : List UInt8 := l.flatMap escB
theorem esc_nil : esc [] = [] := rfl
theorem esc_snoc (l : List UInt8) (b : UInt8) : esc (l ++ [b]) = esc l ++ escB b := by unfold esc; rw [List.flatMap_append]; simp
theorem escB_len (b : UInt8) : (escB b).length ≤ 2 := by unfold escB; split; · simp
                                                         · split <;> simp
theorem esc_len (l : List UInt8) : (esc l).length ≤ 2 * l.length := by
  induction l with
  | nil => simp [esc]
  | cons x r ih =>
    have := escB_len x
    have e : esc (x :: r) = escB x ++ esc r := by unfold esc; rw [List.flatMap_cons]
    rw [e, List.length_append, List.length_cons]; omega
/-- texts, escaped, with commas between -/
def joinE : List (List UInt8) → List UInt8
  | [] => []
  | [a] => esc a
  | a :: b :: r => esc a ++ [44] ++ joinE (b :: r)
theorem joinE_snoc : ∀ (L : List (List UInt8)) (x : List UInt8), joinE (L ++ [x]) = (if L = [] then [] else joinE L ++ [44]) ++ esc x
  | [], x => by simp [joinE]
  | [a], x => by simp [joinE]
  | a :: b :: r, x => by
    have ih := joinE_snoc (b :: r) x
    rw [List.cons_append, List.cons_append, joinE, ← List.cons_append, ih]
    simp [joinE]
def total (L : List (List UInt8)) : Nat := (L.map (·.length)).sum
theorem joinE_len : ∀ L : List (List UInt8), (joinE L).length ≤ 2 * total L + L.length
  | [] => by simp [joinE]
  | [a] => by have := esc_len a; simp [joinE, total]; omega
  | a :: b :: r => by
    have ih := joinE_len (b :: r)
    have := esc_len a
    simp only [joinE, List.length_append, List.length_cons, List.length_nil, total, List.map_cons, List.sum_cons] at ih ⊢
    omega
theorem total_take (L : List (List UInt8)) (k : Nat) : total (L.take k) ≤ total L := by
  unfold total
  rw [List.map_take]
  conv => rhs; rw [← List.take_append_drop k (L.map (·.length))]
  rw [List.sum_append]; omega
/-- the case of a byte -/
theorem byte_cases (x : UInt8) : x = 92 ∨ x = 44 ∨ x = 59 ∨ x = 10 ∨ (x ≠ 92 ∧ x ≠ 44 ∧ x ≠ 59 ∧ x ≠ 10) := by
  by_cases h1 : x = 92
  · exact .inl h1
  by_cases h2 : x = 44
  · exact .inr (.inl h2)
  by_cases h3 : x = 59
  · exact .inr (.inr (.inl h3))
  by_cases h4 : x = 10
  · exact .inr (.inr (.inr (.inl h4)))
  exact .inr (.inr (.inr (.inr ⟨h1, h2, h3, h4⟩)))
theorem ne_int {x : UInt8} {c : UInt8} (h : x ≠ c) : ((x.toNat : Int) == (c.toNat : Int)) = false := by
  rw [beq_eq_false_iff_ne]
  intro e
  exact h (UInt8.toNat_inj.1 (by omega))
end Tl
end Go.Proofs.YtponocolfjkapaaDoor
namespace Go.Proofs.YtponocolfjkapaaDoor
open Go.RowKit
namespace Tl
def goes (b : UInt8) : Bool := decide (128 ≤ b.toNat) && decide (b.toNat ≤ 191)
/-- from the place room + k - 3 downwards -/
def cutR (l : List UInt8) (room : Nat) : Nat → Nat
  | 0 => room
  | k + 1 => if goes (l.getD (room + k - 3) 0) = true then cutR l room k else room + k - 3
def cutN (l : List UInt8) (room : Nat) : Nat := if l.length ≤ room then l.length else cutR l room 4
theorem cutR_bd (l : List UInt8) (room : Nat) : ∀ k, k ≤ 4 → room ≤ cutR l room k + 3 ∧ cutR l room k ≤ room
  | 0, _ => by simp [cutR]
  | k + 1, h => by
    have ih := cutR_bd l room k (by omega)
    unfold cutR
    split
    · exact ih
    · omega
theorem cutN_le (l : List UInt8) (room : Nat) : cutN l room ≤ l.length := by
  unfold cutN
  split
  · omega
  · have := cutR_bd l room 4 (by omega); omega
theorem cutN_pos (l : List UInt8) (room : Nat) (h : 74 ≤ room) : l.drop (cutN l room) = [] ∨ 71 ≤ cutN l room := by
  unfold cutN
  split
  · exact .inl (by rw [List.drop_length])
  · have := cutR_bd l room 4 (by omega); exact .inr (by omega)
theorem cutN_room (l : List UInt8) (room : Nat) : cutN l room ≤ room := by
  unfold cutN
  split
  · omega
  · have := cutR_bd l room 4 (by omega); omega
/-- a line, folded -/
inductive Fld : Nat → List UInt8 → List UInt8 → Prop
  | last (room : Nat) (l : List UInt8) (h : l.drop (cutN l room) = []) : Fld room l (l.take (cutN l room) ++ [13, 10])
  | more (room : Nat) (l o : List UInt8) (h : l.drop (cutN l room) ≠ []) (h' : Fld 74 (l.drop (cutN l room)) o) : Fld room l (l.take (cutN l room) ++ [13, 10] ++ [32] ++ o)
theorem Fld.one {room : Nat} {l o o' : List UInt8} (h : Fld room l o) (h' : Fld room l o') : o = o' := by
  induction h generalizing o' with
  | last room l hl => cases h' with
    | last => rfl
    | more _ _ o2 hm _ => exact absurd hl hm
  | more room l o hm _ ih => cases h' with
    | last _ _ hl => exact absurd hl hm
    | more _ _ o2 _ h2 => rw [ih h2]
theorem Fld.nil {room : Nat} {l o : List UInt8} (h : Fld room l o) (hd : l.drop (cutN l room) = []) : o = l.take (cutN l room) ++ [13, 10] := h.one (Fld.last room l hd)
theorem Fld.cons {room : Nat} {l o : List UInt8} (h : Fld room l o) (hd : l.drop (cutN l room) ≠ []) : ∃ o', Fld 74 (l.drop (cutN l room)) o' ∧ o = l.take (cutN l room) ++ [13, 10] ++ [32] ++ o' := by
  cases h with
  | last _ _ hl => exact absurd hl hd
  | more _ _ o2 _ h2 => exact ⟨o2, h2, rfl⟩
theorem Fld.ex : ∀ (n : Nat) (l : List UInt8) (room : Nat), l.length ≤ n → 74 ≤ room → ∃ o, Fld room l o ∧ o.length ≤ 4 * l.length + 2
  | 0, l, room, hl, _ => by
    obtain rfl : l = [] := List.eq_nil_of_length_eq_zero (by omega)
    exact ⟨_, Fld.last room [] (by simp), by simp⟩
  | n + 1, l, room, hl, hr => by
    by_cases h : l.drop (cutN l room) = []
    · exact ⟨_, Fld.last room l h, by simp; have := cutN_le l room; omega⟩
    · rcases cutN_pos l room hr with h' | h'
      · exact absurd h' h
      · have h1 := cutN_le l room
        have h2 : (l.drop (cutN l room)).length ≤ n := by rw [List.length_drop]; omega
        obtain ⟨o, ho, hlen⟩ := Fld.ex n _ 74 h2 (by omega)
        refine ⟨_, Fld.more room l o h ho, ?_⟩
        rw [List.length_drop] at hlen
        simp
        omega
end Tl
end Go.Proofs.YtponocolfjkapaaDoor
namespace Go.Proofs.YtponocolfjkapaaDoor
open Go.RowKit
namespace Tl
/-- what the byte behind a backslash stands for -/
def un (b : UInt8) : Option UInt8 := if b = 92 ∨ b = 44 ∨ b = 59 then some b else if b = 110 ∨ b = 78 then some 10 else none
/-- the texts of a list, or where the first fault stands: what is left, from which place on, the texts ahead, and the one that is read -/
def run : List UInt8 → Nat → List (List UInt8) → List UInt8 → Except Nat (List (List UInt8))
  | [], _, L, c => .ok (L ++ [c])
  | [b], i, L, c => if b = 44 then .ok (L ++ [c] ++ [[]]) else if b = 59 ∨ b = 92 then .error i else .ok (L ++ [c ++ [b]])
  | b :: d :: r, i, L, c => if b = 44 then run (d :: r) (i + 1) (L ++ [c]) [] else if b = 59 then .error i else if b = 92 then (match un d with | some m => run r (i + 2) L (c ++ [m]) | none => .error i) else run (d :: r) (i + 1) L (c ++ [b])
theorem run_com (r : List UInt8) (i : Nat) (L : List (List UInt8)) (c : List UInt8) : run (44 :: r) i L c = run r (i + 1) (L ++ [c]) [] := by
  cases r <;> simp [run]
theorem run_sem (r : List UInt8) (i : Nat) (L : List (List UInt8)) (c : List UInt8) : run (59 :: r) i L c = .error i := by
  cases r <;> simp [run]
theorem run_end (i : Nat) (L : List (List UInt8)) (c : List UInt8) : run [92] i L c = .error i := by simp [run]
theorem run_esc {d m : UInt8} (h : un d = some m) (r : List UInt8) (i : Nat) (L : List (List UInt8)) (c : List UInt8) : run (92 :: d :: r) i L c = run r (i + 2) L (c ++ [m]) := by simp [run, h]
theorem run_bad {d : UInt8} (h : un d = none) (r : List UInt8) (i : Nat) (L : List (List UInt8)) (c : List UInt8) : run (92 :: d :: r) i L c = .error i := by simp [run, h]
theorem run_any {b : UInt8} (h1 : b ≠ 44) (h2 : b ≠ 59) (h3 : b ≠ 92) (r : List UInt8) (i : Nat) (L : List (List UInt8)) (c : List UInt8) : run (b :: r) i L c = run r (i + 1) L (c ++ [b]) := by
  cases r <;> simp [run, h1, h2, h3]
theorem un_cases (d : UInt8) : ((d = 92 ∨ d = 44 ∨ d = 59) ∧ un d = some d) ∨ ((d = 110 ∨ d = 78) ∧ un d = some 10) ∨ ((d ≠ 92 ∧ d ≠ 44 ∧ d ≠ 59 ∧ d ≠ 110 ∧ d ≠ 78) ∧ un d = none) := by
  unfold un
  by_cases h : d = 92 ∨ d = 44 ∨ d = 59
  · exact .inl ⟨h, if_pos h⟩
  by_cases h' : d = 110 ∨ d = 78
  · exact .inr (.inl ⟨h', by rw [if_neg h, if_pos h']⟩)
  · refine .inr (.inr ⟨?_, by rw [if_neg h, if_neg h']⟩)
    simp only [not_or] at h h'
    exact ⟨h.1, h.2.1, h.2.2, h'.1, h'.2⟩
theorem drop_at (s : ByteArray) (k : Nat) (h : k < s.size) : (tx s).drop k = s[k] :: (tx s).drop (k + 1) := by
  rw [← tx_getElem s k h, ← List.drop_eq_getElem_cons]
/-- how long what is read can be -/
def wt (L : List (List UInt8)) (c : List UInt8) : Nat := total L + L.length + c.length
theorem total_snoc (L : List (List UInt8)) (c : List UInt8) : total (L ++ [c]) = total L + c.length := by
  unfold total; rw [List.map_append, List.sum_append]; simp
theorem wt_com (L : List (List UInt8)) (c : List UInt8) : wt (L ++ [c]) [] = wt L c + 1 := by
  unfold wt; rw [total_snoc, List.length_append]; simp; omega
theorem wt_add (L : List (List UInt8)) (c : List UInt8) (b : UInt8) : wt L (c ++ [b]) = wt L c + 1 := by
  unfold wt; rw [List.length_append]; simp; omega
end Tl
end Go.Proofs.YtponocolfjkapaaDoor
namespace Go.Proofs.YtponocolfjkapaaDoor
open Go.RowKit
set_option linter.unusedVariables false
set_option linter.unusedSimpArgs false
namespace Tl
theorem run_escB (b : UInt8) (r : List UInt8) (i : Nat) (L : List (List UInt8)) (c : List UInt8) : ∃ j, run (escB b ++ r) i L c = run r j L (c ++ [b]) := by
  unfold escB
  by_cases h : b = 92 ∨ b = 44 ∨ b = 59
  · rw [if_pos h]
    exact ⟨i + 2, run_esc (by unfold un; rw [if_pos h]) r i L c⟩
  · rw [if_neg h]
    by_cases h2 : b = 10
    · rw [if_pos h2]
      subst h2
      exact ⟨i + 2, run_esc (by decide) r i L c⟩
    · rw [if_neg h2]
      simp only [not_or] at h
      exact ⟨i + 1, run_any h.2.1 h.2.2 h.1 r i L c⟩
theorem run_escs : ∀ (x r : List UInt8) (i : Nat) (L : List (List UInt8)) (c : List UInt8), ∃ j, run (esc x ++ r) i L c = run r j L (c ++ x)
  | [], r, i, L, c => ⟨i, by simp [esc_nil]⟩
  | b :: x, r, i, L, c => by
    obtain ⟨j, hj⟩ := run_escB b (esc x ++ r) i L c
    obtain ⟨j2, hj2⟩ := run_escs x r j L (c ++ [b])
    refine ⟨j2, ?_⟩
    have e : esc (b :: x) ++ r = escB b ++ (esc x ++ r) := by unfold esc; rw [List.flatMap_cons, List.append_assoc]
    rw [e, hj, hj2]
    simp
theorem run_join : ∀ (L : List (List UInt8)) (i : Nat) (M : List (List UInt8)), L ≠ [] → run (joinE L) i M [] = .ok (M ++ L)
  | [], _, _, h => absurd rfl h
  | [a], i, M, _ => by
    obtain ⟨j, hj⟩ := run_escs a [] i M []
    rw [List.append_nil] at hj
    show run (esc a) i M [] = _
    rw [hj]
    simp [run]
  | a :: b :: r, i, M, _ => by
    obtain ⟨j, hj⟩ := run_escs a ([44] ++ joinE (b :: r)) i M []
    show run (esc a ++ [44] ++ joinE (b :: r)) i M [] = _
    rw [List.append_assoc, hj, List.singleton_append, run_com, List.nil_append, run_join (b :: r) (j + 1) (M ++ [a]) (by simp)]
    simp
end Tl
end Go.Proofs.YtponocolfjkapaaDoor
