/- package text: appendEscaped, Escape, Join. -/
import Derived.Test.YtabgoicholknoaaDoorTxlM
import Derived.Laws.AppendOwn
import Derived.Laws.IdiomStrings
import Derived.OwnWalk
import Derived.WalkKit
import Derived.Lib.AppendStr
namespace Go.Proofs.YtabgoicholknoaaDoor
open Go.RowKit
set_option linter.unusedVariables false
set_option linter.unusedSimpArgs false

theorem infoByte : (Tryd.prog.info? 5).map (fun i => (i.zero, i.size, i.bytes)) = some (some (.int .u8 0), 1, 1) := by kernel_rfl
theorem info_of' {P : Program} {t : TypeId} {z : Value} {s b : Nat} (h : (P.info? t).map (fun i => (i.zero, i.size, i.bytes)) = some (some z, s, b)) : ∃ i, P.info? t = some i ∧ i.zero = some z ∧ i.size = s ∧ i.bytes = b := by
  cases hi : P.info? t with
  | none => rw [hi] at h; cases h
  | some i =>
    rw [hi] at h
    simp only [Option.map_some, Option.some.injEq, Prod.mk.injEq] at h
    exact ⟨i, rfl, h.1, h.2.1, h.2.2⟩
theorem ownr_form' {w : World} {b : Nat} {e : TypeId} {z : Nat} {v : Value} {n : Nat} {xs : List Value} (h : w.ownsRow b e z v n xs) : ∃ a l c, v = .slice a l c := by
  rcases h.2 with ⟨h', _⟩ | ⟨g, cap, cur, h', _⟩
  · exact ⟨_, _, _, h'⟩
  · exact ⟨_, _, _, h'⟩
/-- a row of bytes of one's own -/
abbrev BR (w : World) (base : Nat) (v : Value) (l : List UInt8) : Prop := w.ownsRow base 5 1 v l.length (Tl.bs l)
theorem BR.nil (w : World) (base : Nat) : BR w base (.slice none 0 0) [] := World.ownsRow_nil _ _ _ _
theorem BR.later {w w' : World} {b : Nat} {v : Value} {l : List UInt8} (h : BR w b v l) (hb : Below w.heap.size w w') : BR w' b v l :=
  ⟨h.1, h.2.imp id fun ⟨g, cap, cur, h1, h2, h3, h4⟩ => ⟨g, cap, cur, h1, h2, (hb.block g (Array.getElem?_eq_some_iff.1 h3).1).trans h3, h4⟩⟩
/-- cells of one or two new bytes -/
theorem one_new (w : World) (t : TypeId) (x : UInt8) (i : Int) (hi : i = x.toNat) (v : Value) : ∀ j u, (Tl.bs [x])[j]? = some u → (w.alloc (.cells #[.int .u8 i] t)).cell? ((⟨w.heap.size, 0, none⟩ : Addr).add j) = some u := by
  subst hi
  intro j u hj
  match j, hj with
  | 0, hj => simp [Tl.bs] at hj; subst hj; simp [Addr.add]
theorem two_new (w : World) (t : TypeId) (x y : UInt8) (i k : Int) (hi : i = x.toNat) (hk : k = y.toNat) : ∀ j u, (Tl.bs [x, y])[j]? = some u → (w.alloc (.cells #[.int .u8 i, .int .u8 k] t)).cell? ((⟨w.heap.size, 0, none⟩ : Addr).add j) = some u := by
  subst hi hk
  intro j u hj
  match j, hj with
  | 0, hj => simp [Tl.bs] at hj; subst hj; simp [Addr.add]
  | 1, hj => simp [Tl.bs] at hj; subst hj; simp [Addr.add]
/-- a caller's slice of texts -/
def SL (a : Option Addr) (L : List ByteArray) (w : World) : Prop := ∀ k, (h : k < L.length) → ∃ ad, a = some ad ∧ w.cell? (ad.add k) = some (.string L[k])
theorem SL.later {a : Option Addr} {L : List ByteArray} {w w' : World} (h : SL a L w) (hb : Below w.heap.size w w') : SL a L w' := fun k hk => by
  obtain ⟨ad, e, hc⟩ := h k hk
  exact ⟨ad, e, (hb.cell (World.block_lt_of_cell? _ _ hc)).trans hc⟩
theorem SL.none {w : World} {a : Option Addr} : SL a [] w := fun k h => absurd h (Nat.not_lt_zero _)
def txs (L : List ByteArray) : List (List UInt8) := L.map Tl.tx
theorem txs_len (L : List ByteArray) : (txs L).length = L.length := by unfold txs; rw [List.length_map]
theorem txs_take (L : List ByteArray) (k : Nat) (h : k < L.length) : (txs L).take (k + 1) = (txs L).take k ++ [Tl.tx L[k]] := by
  rw [List.take_add_one, List.getElem?_eq_getElem (by rw [txs_len]; exact h)]
  simp [txs]
theorem size_le_total : ∀ (L : List ByteArray) (k : Nat) (h : k < L.length), L[k].size ≤ Tl.total (txs L)
  | x :: r, 0, h => by simp only [txs, List.map_cons, Tl.total, List.sum_cons, List.getElem_cons_zero, Tl.tx_len]; omega
  | x :: r, k + 1, h => by
    have := size_le_total r k (by simpa using h)
    simp only [txs, List.map_cons, Tl.total, List.sum_cons, List.getElem_cons_succ] at this ⊢
    omega
end Go.Proofs.YtabgoicholknoaaDoor
