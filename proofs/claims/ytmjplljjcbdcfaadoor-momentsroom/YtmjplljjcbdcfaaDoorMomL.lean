/- plain.TimesOf, plain.Times.Room, the law's closure. -/
import Derived.Test.YtmjplljjcbdcfaaDoorMomK
import Derived.Test.YtmjplljjcbdcfaaDoorTell
import Derived.WalkSmall
namespace Go.Proofs.YtmjplljjcbdcfaaDoor
open Go.RowKit Go.Shelf Go.Sort
set_option linter.unusedVariables false
set_option linter.unusedSimpArgs false

set_option maxHeartbeats 2000000 in
theorem timesOf_any (sv : Value) (zs : List (Int × Int)) (hlen : zs.length ≤ 1000000) (w : World) (h : SpsW w sv zs) :
    Calls Tryd.prog 5 #[sv] w fun e W' => ∃ a l c L, e = .returned (.agg #[.slice a l c]) ∧ InvL L ∧ L.length ≤ 1000000 ∧ SetAt W' (.slice a l c) L ∧ (∀ g o, a = some ⟨g, o, none⟩ → w.heap.size ≤ g) ∧ Below w.heap.size w W' := by
  have hb1 : Below w.heap.size w (w.alloc (.cells #[.slice none 0 0] 27)) := (Below.refl _ w).alloc (Nat.le_refl _) _
  have x1 : Boxed (w.alloc (.cells #[.slice none 0 0] 27)) w.heap.size 27 (.slice none 0 0) := Boxed.new _ _ _
  have HO := hide (of_any sv zs hlen (w.alloc (.cells #[.slice none 0 0] 27)) (h.below hb1))
  have HB := hide hb1
  have HX := hide x1
  clear h hb1 x1
  go_enter Tryd.func5, Tryd.ntmps5
  go_wp2_with (go_at_call 33; refine HO.out.mono ?_; rintro e w1 ⟨v, zs', rfl, hp, _, ho, hb⟩; obtain ⟨a, l, c, rfl⟩ := own_form ho; have hx1 : Boxed w1 w.heap.size 27 (.slice none 0 0) := (hb.block _ (by simp)).trans HX.out; have hc1 := hx1.cell; have hf1 := hx1.frozen)
  have hl := jnL_len 0 zs'
  have hl2 := lyL_len zs
  have hl3 := hp.length_eq
  have hx2 := hx1.set (.slice a l c)
  have hc2 := hx2.cell
  have ho2 := ownsRow_setCell_below ho (a := ⟨w.heap.size, 0, none⟩) (by simp) (.slice a l c)
  have hga : ∀ g o, a = some ⟨g, o, none⟩ → w.heap.size ≤ g := fun g o e => by
    rcases ho.2 with ⟨h', _⟩ | ⟨g', cap, cur, h', hg', _⟩
    · simp only [Value.slice.injEq] at h'; rw [h'.1] at e; cases e
    · simp only [Value.slice.injEq] at h'
      rw [h'.1] at e
      simp only [Option.some.injEq, Addr.mk.injEq] at e
      have := e.1
      simp at hg'
      omega
  refine bodyPost_ret (v := .agg #[.slice a l c]) ?_ rfl ⟨a, l, c, jnL 0 zs', rfl, invL_of zs zs' hp, by omega, setAt_own ho2, hga, (HB.out.trans (hb.mono (by simp))).setCell (p := ⟨w.heap.size, 0, none⟩) (Nat.le_refl _) _⟩
  simp [results, Tryd.results5, go_sem, hc2]
theorem SetAt.store {w : World} {a : Option Addr} {l c : Nat} {L : List (Int × Int)} (h : SetAt w (.slice a l c) L) (p : Addr) (u : Value) (hne : ∀ g o, a = some ⟨g, o, none⟩ → g ≠ p.block) : SetAt (w.setCell p u) (.slice a l c) L := by
  rcases h with h | ⟨g, c', e, hc, hg, hA⟩
  · exact .inl h
  · have hn := hne g 0 (by simp only [Value.slice.injEq] at e; exact e.1)
    have hh := Below.heap_setCell w p u g hn
    exact .inr ⟨g, c', e, hc, by rw [World.size_setCell]; exact hg, fun j hj => ⟨(World.cell?_of_block hh).trans (hA j hj).1, (World.cell?_of_block hh).trans (hA j hj).2⟩⟩
set_option maxHeartbeats 2000000 in
theorem proom_any (L : List (Int × Int)) (hL : InvL L) (hlen : L.length ≤ 1000000) (a : Option Addr) (l c : Nat) (t n : Int) (hn : 1 ≤ n) (w : World) (hh : Hd w) (hA : SetAt w (.slice a l c) L) :
    Calls Tryd.prog 24 #[.agg #[.slice a l c], .int .i64 t, .int .i64 n] w fun e w' => ∃ x k, RoomR L t n x k ∧ e = .returned (.tuple #[.int .i64 x, .int .i64 k]) ∧ Below w.heap.size w w' := by
  have hb1 : Below w.heap.size w (w.alloc (.cells #[.slice a l c] 27)) := (Below.refl _ w).alloc (Nat.le_refl _) _
  have HO := hide (room_all L hL hlen (.slice a l c) t n hn _ (hA.below hb1))
  have HB := hide hb1
  clear hb1 hA
  have HH := hide hh
  clear hh
  go_enter Tryd.func24, Tryd.ntmps24
  go_wp2_with (go_at_call 45; refine HO.out.mono ?_; rintro e w1 ⟨⟨x, rfl, hR⟩ | ⟨rfl, hR⟩, hb2⟩)
  all_goals have hB2 := HB.out.trans (hb2.mono (by simp))
  · go_wp2_with (go_at_call 44; refine (tell_nil _).mono ?_; rintro e w2 ⟨rfl, hb3⟩)
    go_ret2
    exact ⟨x, 0, hR, rfl, hB2.trans (hb3.mono hB2.size)⟩
  · go_wp2_with (go_at_call 44; refine (tell_err 12 _ (HH.out.later hB2)).mono ?_; rintro e w2 ⟨rfl, hb3⟩)
    go_ret2
    exact ⟨0, 12, hR, rfl, hB2.trans (hb3.mono hB2.size)⟩
set_option maxHeartbeats 2000000 in
/-- the law's own question -/
theorem soon_any (x : Int × Int) (t n : Int) (hx : -1152921504606846976 ≤ x.1 ∧ x.1 < x.2 ∧ x.2 ≤ 1152921504606846976) (B4 B5 : Nat) (w : World) (h4 : w.cell? ⟨B4, 0, none⟩ = some (.int .i64 t)) (h5 : w.cell? ⟨B5, 0, none⟩ = some (.int .i64 n)) (l4 : B4 < w.heap.size) (l5 : B5 < w.heap.size) :
    Calls Tryd.prog 32 #[.agg #[.int .i64 x.1, .int .i64 x.2], .pointer (some ⟨B4, 0, none⟩), .pointer (some ⟨B5, 0, none⟩)] w fun e w' => ∃ b : Bool, (b = true ↔ okR t n x) ∧ e = .returned (.tuple #[.int .i64 (max x.1 t), .bool b]) ∧ Below w.heap.size w w' := by
  have hb1 : Below w.heap.size w (w.alloc (.cells #[.int .i64 x.1, .int .i64 x.2] 55)) := (Below.refl _ w).alloc (Nat.le_refl _) _
  have h4' := (hb1.cell (p := ⟨B4, 0, none⟩) l4).trans h4
  have h5' := (hb1.cell (p := ⟨B5, 0, none⟩) l5).trans h5
  have HB := hide hb1
  have HX := hide hx
  have hm : ∃ f, f = max x.1 t ∧ x.1 ≤ f ∧ t ≤ f := ⟨_, rfl, by omega, by omega⟩
  unfold okR
  clear hm hb1
  have hge : x.1 ≤ max x.1 t := by omega
  generalize hmf : max x.1 t = f at hge
  by_cases hlt : f < x.2
  · have hw1 : Hid (wrap64 (x.2 - f) = x.2 - f) := hide (by rw [wrap64_id] <;> omega)
    have hd : decide (max x.1 t < x.2) = true := by rw [hmf]; simpa using hlt
    clear hlt
    subst hmf
    go_enter Tryd.func32, Tryd.ntmps32
    go_wp2
    go_quiet (fail)
    go_wp2
    go_ret2
    refine ⟨_, ?_, rfl, below_drewN HB.out _⟩
    have := hw1.out
    simp only [decide_eq_true_eq] at hd
    simp [this, hd]
  · have hd : decide (max x.1 t < x.2) = false := by rw [hmf]; simpa using hlt
    clear hlt
    subst hmf
    go_enter Tryd.func32, Tryd.ntmps32
    go_wp2
    go_quiet (fail)
    go_wp2
    go_ret2
    refine ⟨_, ?_, rfl, below_drewN HB.out _⟩
    simp only [decide_eq_false_iff_not] at hd
    simp [hd]
end Go.Proofs.YtmjplljjcbdcfaaDoor
