/- The reference of package cron: what CronText adds to a text. -/
import Derived.Test.YtmecghnemocdpaaDoorCrnI
namespace Go.Proofs.YtmecghnemocdpaaDoor
open Go.RowKit Go.Shelf
set_option linter.unusedVariables false
set_option linter.unusedSimpArgs false

/-- nothing but one block is another -/
structure Upd (B : Nat) (w w' : World) : Prop where
  os : w'.os = w.os
  tape : w'.tape = w.tape
  output : w'.output = w.output
  size : w'.heap.size = w.heap.size
  block : ∀ j, j ≠ B → w'.heap[j]? = w.heap[j]?
theorem Upd.refl (B : Nat) (w : World) : Upd B w w := ⟨rfl, rfl, rfl, rfl, fun _ _ => rfl⟩
theorem Upd.setCell {B : Nat} {w w' : World} (h : Upd B w w') (v : Value) : Upd B w (w'.setCell ⟨B, 0, none⟩ v) :=
  ⟨h.os, h.tape, h.output, (World.size_setCell _ _ _).trans h.size, fun j hj => (Below.heap_setCell _ _ _ _ hj).trans (h.block j hj)⟩
theorem Upd.below {B base : Nat} {w0 w w' : World} (h : Upd B w w') (hb : Below base w0 w) (hB : base ≤ B) : Below base w0 w' :=
  hb.trans ⟨h.os, h.tape, h.output, Nat.le_of_eq h.size.symm, fun k hk => h.block k (by omega)⟩
/-- a text, with one item more -/
def addB (D t : ByteArray) : ByteArray := if D.size = 0 then t else D ++ ⟨#[44]⟩ ++ t
theorem addB_join (L : List ByteArray) (t : ByteArray) (h : ∀ y ∈ L, 0 < y.size) : addB (Crn.joinB L) t = Crn.joinB (L ++ [t]) := by
  unfold addB
  by_cases hL : L = []
  · subst hL
    rw [if_pos (show (Crn.joinB []).size = 0 from rfl)]; exact (Crn.joinB_one t).symm
  · rw [if_neg (by have := Crn.joinB_ne L hL h; omega), Crn.joinB_snoc L t hL]
theorem empty_of_size {D : ByteArray} (h : D.size = 0) : D = ⟨#[]⟩ := by
  obtain ⟨d⟩ := D
  have : d.size = 0 := h
  rw [Array.eq_empty_of_size_eq_zero this]
set_option maxHeartbeats 2000000 in
theorem radd_text (B : Nat) (D t : ByteArray) (w : World) (h : Boxed w B 9 (.string D)) (hs : D.size + t.size ≤ 100000) :
    Calls Tryd.prog 12 #[.pointer (some ⟨B, 0, none⟩), .string t] w fun e w' => e = .returned (.tuple #[]) ∧ Boxed w' B 9 (.string (addB D t)) ∧ Upd B w w' := by
  have hc := h.cell
  have hf := h.frozen
  unfold addB
  by_cases h0 : D.size = 0
  · rw [if_pos h0]
    obtain rfl := empty_of_size h0
    have e0 : (⟨#[]⟩ : ByteArray) ++ t = t := by
      obtain ⟨d⟩ := t
      rw [Crn.mk_app]; simp
    have HE := hide e0
    have hs2 : (⟨#[]⟩ : ByteArray).size + t.size ≤ 100000 := hs
    clear e0 h0
    have HB := hide (h.set (.string (⟨#[]⟩ ++ t)))
    have HU := hide ((Upd.refl B w).setCell (.string (⟨#[]⟩ ++ t)))
    go_enter Tryd.func12, Tryd.ntmps12
    go_wp2
    go_end0
    have hb := HB.out
    have hu := HU.out
    rw [HE.out] at hb hu
    exact ⟨rfl, by first | exact HE.out ▸ HB.out | exact hb, by first | exact hu | exact HE.out ▸ HU.out⟩
  · rw [if_neg h0]
    have hne : D.toList.isEmpty = false := by
      rw [Lib.toList_data]
      cases hd : D.data.toList with
      | nil => exact absurd (by rw [Lib.size_eq, hd]; rfl) h0
      | cons a b => rfl
    have q1 : (⟨#[44]⟩ : ByteArray).size = 1 := rfl
    have hs2 : D.size + (⟨#[44]⟩ : ByteArray).size ≤ 100001 := by rw [q1]; omega
    have hs3 : D.size + (⟨#[44]⟩ : ByteArray).size + t.size ≤ 100001 := by rw [q1]; omega
    have h1 := h.set (.string (D ++ ⟨#[44]⟩))
    have hc1 := h1.cell
    have hf1 := h1.frozen
    have HB := hide (h1.set (.string (D ++ ⟨#[44]⟩ ++ t)))
    have HU := hide (((Upd.refl B w).setCell (.string (D ++ ⟨#[44]⟩))).setCell (.string (D ++ ⟨#[44]⟩ ++ t)))
    clear h h1 h0
    go_enter Tryd.func12, Tryd.ntmps12
    go_wp2
    go_end0
    exact ⟨rfl, HB.out, HU.out⟩
end Go.Proofs.YtmecghnemocdpaaDoor
