/- Lines folded (9.1): plain mathematics. -/
import Derived.Test.YtponocolfjkapaaDoorTxlM
namespace Go.Proofs.YtponocolfjkapaaDoor
open Go.RowKit
namespace Tl
def goes (b : UInt8) : Bool := decide (128 ≤ b.toNat) && decide (b.toNat ≤ 191)
/-- from the place room + k - 3 downwards -/
def cutR (l : List UInt8) (room : Nat) : Nat → Nat
  | 0 => room
  | k + 1 => if goes (l.getD (room + k - 3) 0) = true then cutR l room k else room + k - 3
def cutN (l : List UInt8) (room : Nat) : Nat := if l.length ≤ room then l.length else cutR l room 4
theorem cutR_bd (l : List UInt8) (room : Nat) : ∀ k, k ≤ 4 → room ≤ cutR l room k + 3 ∧ cutR l room k ≤ room
  | 0, _ => by simp [cutR]
  | k + 1, h => by
    have ih := cutR_bd l room k (by omega)
    unfold cutR
    split
    · exact ih
    · omega
theorem cutN_le (l : List UInt8) (room : Nat) : cutN l room ≤ l.length := by
  unfold cutN
  split
  · omega
  · have := cutR_bd l room 4 (by omega); omega
theorem cutN_pos (l : List UInt8) (room : Nat) (h : 74 ≤ room) : l.drop (cutN l room) = [] ∨ 71 ≤ cutN l room := by
  unfold cutN
  split
  · exact .inl (by rw [List.drop_length])
  · have := cutR_bd l room 4 (by omega); exact .inr (by omega)
theorem cutN_room (l : List UInt8) (room : Nat) : cutN l room ≤ room := by
  unfold cutN
  split
  · omega
  · have := cutR_bd l room 4 (by omega); omega
/-- a line, folded -/
inductive Fld : Nat → List UInt8 → List UInt8 → Prop
  | last (room : Nat) (l : List UInt8) (h : l.drop (cutN l room) = []) : Fld room l (l.take (cutN l room) ++ [13, 10])
  | more (room : Nat) (l o : List UInt8) (h : l.drop (cutN l room) ≠ []) (h' : Fld 74 (l.drop (cutN l room)) o) : Fld room l (l.take (cutN l room) ++ [13, 10] ++ [32] ++ o)
theorem Fld.one {room : Nat} {l o o' : List UInt8} (h : Fld room l o) (h' : Fld room l o') : o = o' := by
  induction h generalizing o' with
  | last room l hl => cases h' with
    | last => rfl
    | more _ _ o2 hm _ => exact absurd hl hm
  | more room l o hm _ ih => cases h' with
    | last _ _ hl => exact absurd hl hm
    | more _ _ o2 _ h2 => rw [ih h2]
theorem Fld.nil {room : Nat} {l o : List UInt8} (h : Fld room l o) (hd : l.drop (cutN l room) = []) : o = l.take (cutN l room) ++ [13, 10] := h.one (Fld.last room l hd)
theorem Fld.cons {room : Nat} {l o : List UInt8} (h : Fld room l o) (hd : l.drop (cutN l room) ≠ []) : ∃ o', Fld 74 (l.drop (cutN l room)) o' ∧ o = l.take (cutN l room) ++ [13, 10] ++ [32] ++ o' := by
  cases h with
  | last _ _ hl => exact absurd hl hd
  | more _ _ o2 _ h2 => exact ⟨o2, h2, rfl⟩
theorem Fld.ex : ∀ (n : Nat) (l : List UInt8) (room : Nat), l.length ≤ n → 74 ≤ room → ∃ o, Fld room l o ∧ o.length ≤ 4 * l.length + 2
  | 0, l, room, hl, _ => by
    obtain rfl : l = [] := List.eq_nil_of_length_eq_zero (by omega)
    exact ⟨_, Fld.last room [] (by simp), by simp⟩
  | n + 1, l, room, hl, hr => by
    by_cases h : l.drop (cutN l room) = []
    · exact ⟨_, Fld.last room l h, by simp; have := cutN_le l room; omega⟩
    · rcases cutN_pos l room hr with h' | h'
      · exact absurd h' h
      · have h1 := cutN_le l room
        have h2 : (l.drop (cutN l room)).length ≤ n := by rw [List.length_drop]; omega
        obtain ⟨o, ho, hlen⟩ := Fld.ex n _ 74 h2 (by omega)
        refine ⟨_, Fld.more room l o h ho, ?_⟩
        rw [List.length_drop] at hlen
        simp
        omega
end Tl
end Go.Proofs.YtponocolfjkapaaDoor
