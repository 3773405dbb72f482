/- busy: Check. -/
import Derived.Test.YtabgoicholknoaaDoorBusB
import Derived.Test.YtabgoicholknoaaDoorTell
import Derived.Maps.OwnSet
import Derived.Maps.AppendAt
namespace Go.Proofs.YtabgoicholknoaaDoor
open Go.RowKit Go.Shelf Go.Maps
set_option linter.unusedVariables false
set_option linter.unusedSimpArgs false

/-- a slice of numbers -/
def IsAt (w : World) (v : Value) (zs : List Int) : Prop := ∃ ad c, v = .slice ad zs.length c ∧ zs.length ≤ 1125899906842624 ∧ ∀ j, j < zs.length → ∃ g o, ad = some ⟨g, o, none⟩ ∧ w.cell? ⟨g, o + j, none⟩ = some (.int .i64 (zs.getD j 0))
theorem IsAt.below {w w' : World} {v : Value} {zs : List Int} (h : IsAt w v zs) (hB : Below w.heap.size w w') : IsAt w' v zs := by
  obtain ⟨ad, c, rfl, hl, hj⟩ := h
  refine ⟨ad, c, rfl, hl, fun j hl => ?_⟩
  obtain ⟨g, o, e, hc⟩ := hj j hl
  exact ⟨g, o, e, (hB.cell (World.block_lt_of_cell? w _ hc)).trans hc⟩
/-- numbers below n, none twice: n at most -/
theorem nodup_bound : ∀ (n : Nat) (l : List Int), l.Nodup → (∀ x ∈ l, 0 ≤ x ∧ x < (n : Int)) → l.length ≤ n
  | 0, l, _, h => by
    cases l with
    | nil => exact Nat.le_refl _
    | cons x l => have := h x (by simp); omega
  | n + 1, l, hd, h => by
    have i := nodup_bound n (l.erase (n : Int)) (hd.erase _) (fun x hx => by
      obtain ⟨h1, h2⟩ := hd.mem_erase_iff.1 hx
      have := h x h2
      omega)
    have e := List.length_erase (a := (n : Int)) (l := l)
    split at e <;> omega
theorem Wn.Good.small {W : Wn} {n : Nat} (h : W.Good n) : W.must.length + W.should.length ≤ n := by
  obtain ⟨h1, h2⟩ := (okW_iff (n : Int) (W.must ++ W.should) []).1 h.ok
  have := nodup_bound n _ h2 (fun x hx => ⟨(h1 x hx).1, (h1 x hx).2.1⟩)
  rw [List.length_append] at this
  exact this
/-- what is told: nothing, or a number -/
def eB (k : Int) : Value := if k = 0 then .nilIface else .iface 36 (.int .i64 k)
theorem tell_eB (k : Int) (W : World) (hW : Hd W) : Calls Tryd.prog 12 #[eB k] W fun e w' => e = .returned (.int .i64 k) ∧ Below W.heap.size W w' := by
  unfold eB
  split
  · rename_i h; subst h; exact tell_nil W
  · exact tell_err k W hW
/-- what is looked for, as a value -/
def wantV (W : Wn) (mv sv : Value) : Value := .agg #[.int .i64 W.len, .int .i64 W.step, .int .i64 W.from', .int .i64 W.to', mv, sv, .int .i64 W.seats]
def wantC (W : Wn) (mv sv : Value) : Obj := .cells #[.int .i64 W.len, .int .i64 W.step, .int .i64 W.from', .int .i64 W.to', mv, sv, .int .i64 W.seats] 25
theorem bzero (w : World) : (zeroValue 83).run Tryd.prog w = .ok (.agg #[]) w := by kernel_rfl
theorem bkeyed : Keyed Tryd.prog 3 := int_keyed Tryd.underlying3
/-- those that were seen, as a set -/
def seenS (l : List Int) : DataW Unit := setOf (.agg []) (l.map (Lit.int .i64))
theorem seenS_snoc (l : List Int) (x : Int) : seenS (l ++ [x]) = (seenS l).put (.int .i64 x) (.agg []) := by
  unfold seenS; rw [List.map_append]; exact setOf_snoc _ _ _
theorem has_seenS (l : List Int) (x : Int) : Maps.has (seenS l) (.int .i64 x) = decide (x ∈ l) := by
  unfold seenS
  rw [has_setOf _ _ _ (fun y hy => by obtain ⟨z, _, rfl⟩ := List.mem_map.1 hy; exact trivial)]
  rw [Bool.eq_iff_iff, List.any_eq_true, decide_eq_true_eq]
  constructor
  · rintro ⟨y, hy, h⟩
    obtain ⟨z, hz, rfl⟩ := List.mem_map.1 hy
    simp [Lit.sameKey] at h
    subst h; exact hz
  · intro h
    exact ⟨_, List.mem_map.2 ⟨x, h, rfl⟩, by simp [Lit.sameKey]⟩
end Go.Proofs.YtabgoicholknoaaDoor
