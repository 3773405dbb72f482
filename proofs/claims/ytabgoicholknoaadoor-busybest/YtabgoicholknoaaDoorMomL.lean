/- plain.TimesOf, plain.Times.Room, the law's closure. -/
import Derived.Test.YtabgoicholknoaaDoorMomK
import Derived.Test.YtabgoicholknoaaDoorTell
import Derived.WalkSmall
namespace Go.Proofs.YtabgoicholknoaaDoor
open Go.RowKit Go.Shelf Go.Sort
set_option linter.unusedVariables false
set_option linter.unusedSimpArgs false

set_option maxHeartbeats 2000000 in
theorem timesOf_any (sv : Value) (zs : List (Int × Int)) (hlen : zs.length ≤ 1000000) (w : World) (h : SpsW w sv zs) :
    Calls Tryd.prog 4 #[sv] w fun e W' => ∃ a l c L, e = .returned (.agg #[.slice a l c]) ∧ InvL L ∧ L.length ≤ 1000000 ∧ SetAt W' (.slice a l c) L ∧ (∀ g o, a = some ⟨g, o, none⟩ → w.heap.size ≤ g) ∧ Below w.heap.size w W' := by
  have hb1 : Below w.heap.size w (w.alloc (.cells #[.slice none 0 0] 32)) := (Below.refl _ w).alloc (Nat.le_refl _) _
  have x1 : Boxed (w.alloc (.cells #[.slice none 0 0] 32)) w.heap.size 32 (.slice none 0 0) := Boxed.new _ _ _
  have HO := hide (of_any sv zs hlen (w.alloc (.cells #[.slice none 0 0] 32)) (h.below hb1))
  have HB := hide hb1
  have HX := hide x1
  clear h hb1 x1
  go_enter Tryd.func4, Tryd.ntmps4
  go_wp2_with (go_at_call 10; refine HO.out.mono ?_; rintro e w1 ⟨v, zs', rfl, hp, _, ho, hb⟩; obtain ⟨a, l, c, rfl⟩ := own_form ho; have hx1 : Boxed w1 w.heap.size 32 (.slice none 0 0) := (hb.block _ (by simp)).trans HX.out; have hc1 := hx1.cell; have hf1 := hx1.frozen)
  have hl := jnL_len 0 zs'
  have hl2 := lyL_len zs
  have hl3 := hp.length_eq
  have hx2 := hx1.set (.slice a l c)
  have hc2 := hx2.cell
  have ho2 := ownsRow_setCell_below ho (a := ⟨w.heap.size, 0, none⟩) (by simp) (.slice a l c)
  have hga : ∀ g o, a = some ⟨g, o, none⟩ → w.heap.size ≤ g := fun g o e => by
    rcases ho.2 with ⟨h', _⟩ | ⟨g', cap, cur, h', hg', _⟩
    · simp only [Value.slice.injEq] at h'; rw [h'.1] at e; cases e
    · simp only [Value.slice.injEq] at h'
      rw [h'.1] at e
      simp only [Option.some.injEq, Addr.mk.injEq] at e
      have := e.1
      simp at hg'
      omega
  refine bodyPost_ret (v := .agg #[.slice a l c]) ?_ rfl ⟨a, l, c, jnL 0 zs', rfl, invL_of zs zs' hp, by omega, setAt_own ho2, hga, (HB.out.trans (hb.mono (by simp))).setCell (p := ⟨w.heap.size, 0, none⟩) (Nat.le_refl _) _⟩
  simp [results, Tryd.results4, go_sem, hc2]
theorem SetAt.store {w : World} {a : Option Addr} {l c : Nat} {L : List (Int × Int)} (h : SetAt w (.slice a l c) L) (p : Addr) (u : Value) (hne : ∀ g o, a = some ⟨g, o, none⟩ → g ≠ p.block) : SetAt (w.setCell p u) (.slice a l c) L := by
  rcases h with h | ⟨g, c', e, hc, hg, hA⟩
  · exact .inl h
  · have hn := hne g 0 (by simp only [Value.slice.injEq] at e; exact e.1)
    have hh := Below.heap_setCell w p u g hn
    exact .inr ⟨g, c', e, hc, by rw [World.size_setCell]; exact hg, fun j hj => ⟨(World.cell?_of_block hh).trans (hA j hj).1, (World.cell?_of_block hh).trans (hA j hj).2⟩⟩
theorem setAt_form {w : World} {v : Value} {L : List (Int × Int)} (h : SetAt w v L) : ∃ a c, v = .slice a L.length c ∧ ∀ j, j < L.length → ∃ g, a = some ⟨g, 0, none⟩ ∧ g < w.heap.size ∧ w.cell? ⟨g, j * 2, none⟩ = some (.int .i64 (L.getD j (0, 0)).1) ∧ w.cell? ⟨g, j * 2 + 1, none⟩ = some (.int .i64 (L.getD j (0, 0)).2) := by
  rcases h with ⟨rfl, rfl⟩ | ⟨g, c, rfl, hc, hg, hA⟩
  · exact ⟨none, 0, rfl, fun j hj => absurd hj (by simp)⟩
  · exact ⟨_, c, rfl, fun j hj => ⟨g, rfl, hg, hA j hj⟩⟩
end Go.Proofs.YtabgoicholknoaaDoor
