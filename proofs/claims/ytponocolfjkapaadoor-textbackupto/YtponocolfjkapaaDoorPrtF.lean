/- package text: parts in memory; what Check answers. -/
import Derived.Test.YtponocolfjkapaaDoorPrtE
namespace Go.Proofs.YtponocolfjkapaaDoor
open Go.RowKit Go.Shelf
set_option linter.unusedVariables false
set_option linter.unusedSimpArgs false

/-- a list of lines in memory -/
def LS (A : Option Addr) (l : List PLn) (W : World) : Prop := ∀ k, (h : k < l.length) → ∃ ad Av c, A = some ad ∧ W.cell? (ad.add (k * 3)) = some (.string l[k].n) ∧ W.cell? ⟨(ad.add (k * 3)).block, (ad.add (k * 3)).off + 1, none⟩ = some (.slice Av l[k].ps.length c) ∧ W.cell? ⟨(ad.add (k * 3)).block, (ad.add (k * 3)).off + 2, none⟩ = some (.string l[k].v) ∧ PS Av l[k].ps W ∧ LnOk l[k]
theorem LS.later {A : Option Addr} {l : List PLn} {W W' : World} (h : LS A l W) (hb : Below W.heap.size W W') : LS A l W' := fun k hk => by
  obtain ⟨ad, Av, c, e, h1, h2, h3, h4, h5⟩ := h k hk
  exact ⟨ad, Av, c, e, (hb.cell (World.block_lt_of_cell? _ _ h1)).trans h1, (hb.cell (World.block_lt_of_cell? _ _ h2)).trans h2, (hb.cell (World.block_lt_of_cell? _ _ h3)).trans h3, h4.later hb, h5⟩
/-- a part -/
inductive PPt where
  | mk (n : ByteArray) (ls : List PLn) (ks : List PPt)
mutual
/-- a value tells a part, in memory -/
def PtM : PPt → Value → World → Prop
  | .mk nm ls ks, v, W => nm.size ≤ 1000000000 ∧ ls.length ≤ 1000000000 ∧ ks.length ≤ 1000000000 ∧ ∃ A c A2 c2, v = .agg #[.string nm, .slice A ls.length c, .slice A2 ks.length c2] ∧ LS A ls W ∧ KsM ks A2 0 W
def KsM : List PPt → Option Addr → Nat → World → Prop
  | [], _, _, _ => True
  | k :: ks, A, i, W => (∃ ad a b c, A = some ad ∧ W.cell? (ad.add (i * 3)) = some a ∧ W.cell? ⟨(ad.add (i * 3)).block, (ad.add (i * 3)).off + 1, none⟩ = some b ∧ W.cell? ⟨(ad.add (i * 3)).block, (ad.add (i * 3)).off + 2, none⟩ = some c ∧ PtM k (.agg #[a, b, c]) W) ∧ KsM ks A (i + 1) W
end
mutual
theorem PtM.later {W W' : World} (hb : Below W.heap.size W W') : ∀ (t : PPt) (v : Value), PtM t v W → PtM t v W'
  | .mk nm ls ks, v, h => by
    unfold PtM at h ⊢
    obtain ⟨h1, h2, h3, A, c, A2, c2, e, h4, h5⟩ := h
    exact ⟨h1, h2, h3, A, c, A2, c2, e, h4.later hb, KsM.later hb ks A2 0 h5⟩
theorem KsM.later {W W' : World} (hb : Below W.heap.size W W') : ∀ (ks : List PPt) (A : Option Addr) (i : Nat), KsM ks A i W → KsM ks A i W'
  | [], _, _, _ => by unfold KsM; trivial
  | k :: ks, A, i, h => by
    unfold KsM at h ⊢
    obtain ⟨⟨ad, a, b, c, e, h1, h2, h3, h4⟩, h5⟩ := h
    exact ⟨⟨ad, a, b, c, e, (hb.cell (World.block_lt_of_cell? _ _ h1)).trans h1, (hb.cell (World.block_lt_of_cell? _ _ h2)).trans h2, (hb.cell (World.block_lt_of_cell? _ _ h3)).trans h3, PtM.later hb k _ h4⟩, KsM.later hb ks A (i + 1) h5⟩
end
theorem KsM.at {W : World} : ∀ {ks : List PPt} {A : Option Addr} {i : Nat}, KsM ks A i W → ∀ k (h : k < ks.length), ∃ ad a b c, A = some ad ∧ W.cell? (ad.add ((i + k) * 3)) = some a ∧ W.cell? ⟨(ad.add ((i + k) * 3)).block, (ad.add ((i + k) * 3)).off + 1, none⟩ = some b ∧ W.cell? ⟨(ad.add ((i + k) * 3)).block, (ad.add ((i + k) * 3)).off + 2, none⟩ = some c ∧ PtM ks[k] (.agg #[a, b, c]) W
  | [], _, _, _, k, hk => absurd hk (Nat.not_lt_zero _)
  | x :: ks, A, i, h, 0, hk => by
    unfold KsM at h
    exact h.1
  | x :: ks, A, i, h, k + 1, hk => by
    unfold KsM at h
    have := KsM.at h.2 k (by simpa using hk)
    rw [show i + 1 + k = i + (k + 1) by omega] at this
    exact this
def eL2 (l : List PLn) (k : Nat) : Int := match l[k]? with | some x => eL x | none => 0
mutual
/-- what is wrong with a part; the lines that were counted -/
def chk : PPt → Int → Int → Int × Int
  | .mk nm ls ks, d, n => if 8 < d then (6, n + ls.length + 2) else if 2000 < n + ls.length + 2 then (6, n + ls.length + 2) else if nmS nm = false then (8, n + ls.length + 2) else if eF (eL2 ls) ls.length = 0 then chks ks (d + 1) (n + ls.length + 2) else (eF (eL2 ls) ls.length, n + ls.length + 2)
def chks : List PPt → Int → Int → Int × Int
  | [], _, n => (0, n)
  | k :: ks, d, n => if (chk k d n).1 = 0 then chks ks d (chk k d n).2 else chk k d n
end
theorem chks_step : ∀ (ks : List PPt) (d n m : Int) (k : Nat) (h : k < ks.length), chks (ks.take k) d n = (0, m) → chks (ks.take (k + 1)) d n = chk ks[k] d m
  | x :: ks, d, n, m, 0, h, e => by
    have e0 : n = m := by
      have : chks ([] : List PPt) d n = (0, m) := e
      unfold chks at this
      exact (Prod.mk.inj this).2
    subst e0
    show chks [x] d n = chk x d n
    unfold chks
    split
    · rename_i h0
      unfold chks
      exact Prod.ext h0.symm rfl
    · rfl
  | x :: ks, d, n, m, k + 1, h, e => by
    have e1 : chks (x :: ks.take k) d n = (0, m) := e
    have hk : k < ks.length := by simpa using h
    show chks (x :: ks.take (k + 1)) d n = chk ks[k] d m
    unfold chks at e1 ⊢
    split at e1
    · rename_i h0
      rw [if_pos h0]
      exact chks_step ks d _ m k (by simpa using h) e1
    · rename_i h0
      rw [e1] at h0
      exact absurd rfl h0
theorem chks_stop : ∀ (ks : List PPt) (d n m : Int) (k : Nat) (h : k < ks.length), chks (ks.take k) d n = (0, m) → (chk ks[k] d m).1 ≠ 0 → chks ks d n = chk ks[k] d m
  | x :: ks, d, n, m, 0, h, e, h1 => by
    have e0 : n = m := by
      have : chks ([] : List PPt) d n = (0, m) := e
      unfold chks at this
      exact (Prod.mk.inj this).2
    subst e0
    show chks (x :: ks) d n = chk x d n
    replace h1 : (chk x d n).1 ≠ 0 := h1
    unfold chks
    rw [if_neg h1]
  | x :: ks, d, n, m, k + 1, h, e, h1 => by
    have e1 : chks (x :: ks.take k) d n = (0, m) := e
    have hk : k < ks.length := by simpa using h
    show chks (x :: ks) d n = chk ks[k] d m
    unfold chks at e1 ⊢
    split at e1
    · rename_i h0
      rw [if_pos h0]
      exact chks_stop ks d _ m k (by simpa using h) e1 h1
    · rename_i h0
      rw [e1] at h0
      exact absurd rfl h0
/-- counted lines stay within bounds -/
theorem chks_all (ks : List PPt) (d n m : Int) (h : chks (ks.take ks.length) d n = (0, m)) : chks ks d n = (0, m) := by rwa [List.take_length] at h
end Go.Proofs.YtponocolfjkapaaDoor
