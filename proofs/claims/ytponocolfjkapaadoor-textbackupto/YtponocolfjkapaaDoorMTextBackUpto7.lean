/- The reference's Unfold. -/
import Derived.Test.YtponocolfjkapaaDoorMTextBackUpto4
import Derived.Test.YtponocolfjkapaaDoorMTextBackUpto5
import Derived.Laws.OwnMore
import Derived.Deep.AppendLies
import Derived.Deep.CutRange
import Derived.Deep.Cut
namespace Go.Proofs.YtponocolfjkapaaDoor
open Go.RowKit
set_option linter.unusedVariables false
set_option linter.unusedSimpArgs false

theorem drop_split (l : List UInt8) (f i : Nat) (h1 : f ≤ i) (h2 : i < l.length) : l.drop f = (l.drop f).take (i - f) ++ l[i] :: l.drop (i + 1) := by
  conv => lhs; rw [← List.take_append_drop (i - f) (l.drop f)]
  congr 1
  rw [List.drop_drop, show f + (i - f) = i by omega]
  exact List.drop_eq_getElem_cons h2
end Go.Proofs.YtponocolfjkapaaDoor
namespace Go.Proofs.YtponocolfjkapaaDoor
open Go.RowKit
set_option linter.unusedVariables false
set_option linter.unusedSimpArgs false

theorem SR.sl' {w : World} {base : Nat} {v : Value} {L : List ByteArray} (h : SR w base v L) : ∃ a c, v = .slice a L.length c ∧ SL a L w := by
  rcases Nat.eq_zero_or_pos L.length with h0 | h0
  · obtain ⟨a, l, c, rfl⟩ := ownr_form' h
    have hl : l = L.length := by
      rcases h.2 with ⟨h', h1⟩ | ⟨g, cap, cur, h', _⟩
      · cases h'; exact h1.symm
      · cases h'; rfl
    subst hl
    exact ⟨a, c, rfl, fun k hk => absurd hk (by omega)⟩
  · obtain ⟨g, c, rfl, hg, hlt⟩ := World.ownsRow.form h h0
    refine ⟨_, c, rfl, fun k hk => ⟨_, rfl, ?_⟩⟩
    refine h.cells (g := g) rfl k _ ?_
    unfold strs'
    rw [List.getElem?_map, List.getElem?_eq_getElem hk]; rfl
theorem txs_dropLast (L : List ByteArray) : txs L.dropLast = (txs L).dropLast := by unfold txs; rw [List.map_dropLast]
theorem unf_take (C : List (List UInt8)) (k : Nat) (h : k < C.length) : Tl.unf [] (C.take (k + 1)) = Tl.step (Tl.unf [] (C.take k)) C[k] := by
  rw [List.take_add_one, List.getElem?_eq_getElem h]
  unfold Tl.unf
  rw [List.foldl_append]; rfl
theorem mono0u {w : World} {b b' : Nat} {e : TypeId} {s : Nat} {v : Value} {n : Nat} {xs : List Value} (h : w.ownsRow b e s v n xs) (hb : b' ≤ b) : w.ownsRow b' e s v n xs :=
  ⟨h.1, h.2.imp id fun ⟨g, cap, cur, h1, h2, h3⟩ => ⟨g, cap, cur, h1, Nat.le_trans hb h2, h3⟩⟩
/-- the line without the return at its end -/
theorem trim_of (s : ByteArray) : (∃ h : 0 < s.size, s[s.size - 1] = 13 ∧ Tl.trim (Tl.tx s) = Tl.tx (s.extract 0 (s.size - 1))) ∨ (Tl.trim (Tl.tx s) = Tl.tx s ∧ (s.size = 0 ∨ ∃ h : 0 < s.size, s[s.size - 1] ≠ 13)) := by
  rcases Nat.eq_zero_or_pos s.size with h0 | h0
  · refine .inr ⟨?_, .inl h0⟩
    have : Tl.tx s = [] := List.eq_nil_of_length_eq_zero (by rw [Tl.tx_len]; exact h0)
    rw [this]; rfl
  · have hl : (Tl.tx s).getLast? = some s[s.size - 1] := by
      rw [List.getLast?_eq_getElem?, Tl.tx_len, List.getElem?_eq_getElem (by rw [Tl.tx_len]; omega)]; rfl
    by_cases e : s[s.size - 1] = 13
    · refine .inl ⟨h0, e, ?_⟩
      unfold Tl.trim
      rw [hl, e, if_pos rfl, Tl.tx_extract, List.drop_zero, Nat.sub_zero, List.dropLast_eq_take, Tl.tx_len]
    · refine .inr ⟨?_, .inr ⟨h0, e⟩⟩
      unfold Tl.trim
      rw [hl, if_neg (fun h => e (Option.some.inj h))]
theorem size_pos_ne (s : ByteArray) (h : 0 < s.size) : (s.toList == []) = false := by
  rw [ByteArray.toList_eq, beq_eq_false_iff_ne]
  intro e
  have := congrArg List.length e
  rw [Array.length_toList] at this
  have : s.size = 0 := this
  omega
theorem size_zero_eq (s : ByteArray) (h : s.size = 0) : s = ⟨#[]⟩ := by
  have e : Tl.tx s = [] := List.eq_nil_of_length_eq_zero (by rw [Tl.tx_len]; exact h)
  exact Tl.tx_inj (by rw [e]; rfl)
theorem tx_nil_iffE (s : ByteArray) : s.toList.isEmpty = true ↔ Tl.tx s = [] := by
  rw [ByteArray.toList_eq, List.isEmpty_iff]; rfl
theorem strip_txs (L : List ByteArray) (h : L ≠ []) (hp : L.length - 1 < L.length) : Tl.strip (txs L) = if Tl.tx L[L.length - 1] = [] then txs L.dropLast else txs L := by
  have hsn : txs L = txs L.dropLast ++ [Tl.tx L[L.length - 1]] := by
    have := congrArg txs (List.dropLast_concat_getLast h)
    rw [← this, List.getLast_eq_getElem]
    unfold txs
    rw [List.map_append]; rfl
  rw [hsn, Tl.strip_snoc]
theorem tx_nil_iff' (s : ByteArray) : (s.toList == []) = true ↔ Tl.tx s = [] := by
  rw [ByteArray.toList_eq]
  exact ⟨fun h => eq_of_beq h, fun h => by unfold Tl.tx at h; rw [h]; rfl⟩
end Go.Proofs.YtponocolfjkapaaDoor
