/- plain.Times: what the law calls; the law's own question whether two sets are the same. -/
import Derived.Test.YtabgoicholknoaaDoorMomOp
namespace Go.Proofs.YtabgoicholknoaaDoor
open Go.RowKit Go.Shelf
set_option linter.unusedVariables false
set_option linter.unusedSimpArgs false

set_option maxHeartbeats 2000000 in
theorem timesOf_in (sv : Value) (zs : List (Int × Int)) (hlen : zs.length ≤ 1000000) (w : World) (h : SpsW w sv zs) :
    Calls Tryd.prog 4 #[sv] w fun e W' => ∃ a l c L, e = .returned (.agg #[.slice a l c]) ∧ Ok zs.length L ∧ SetAt W' (.slice a l c) L ∧ Below w.heap.size w W' ∧ (∀ g o, a = some ⟨g, o, none⟩ → w.heap.size ≤ g) ∧ (∀ t, InS L t ↔ -1152921504606846976 ≤ t ∧ t < 1152921504606846976 ∧ InS zs t) := by
  have hb1 : Below w.heap.size w (w.alloc (.cells #[.slice none 0 0] 32)) := (Below.refl _ w).alloc (Nat.le_refl _) _
  have x1 : Boxed (w.alloc (.cells #[.slice none 0 0] 32)) w.heap.size 32 (.slice none 0 0) := Boxed.new _ _ _
  have HO := hide (of_any sv zs hlen (w.alloc (.cells #[.slice none 0 0] 32)) (h.below hb1))
  have HB := hide hb1
  have HX := hide x1
  clear h hb1 x1
  go_enter Tryd.func4, Tryd.ntmps4
  go_wp2_with (go_at_call 10; refine HO.out.mono ?_; rintro e w1 ⟨v, zs', rfl, hp, hso, ho, hb⟩; obtain ⟨a, l, c, rfl⟩ := own_form ho; have hx1 : Boxed w1 w.heap.size 32 (.slice none 0 0) := (hb.block _ (by simp)).trans HX.out; have hc1 := hx1.cell; have hf1 := hx1.frozen)
  have hl := jnL_len 0 zs'
  have hl2 := lyL_len zs
  have hl3 := hp.length_eq
  have hx2 := hx1.set (.slice a l c)
  have hc2 := hx2.cell
  have ho2 := ownsRow_setCell_below ho (a := ⟨w.heap.size, 0, none⟩) (by simp) (.slice a l c)
  have hga := own_base ho
  refine bodyPost_ret (v := .agg #[.slice a l c]) ?_ rfl ⟨a, l, c, jnL 0 zs', rfl, ⟨invL_of zs zs' hp, by omega⟩, setAt_own ho2, (HB.out.trans (hb.mono (by simp))).setCell (p := ⟨w.heap.size, 0, none⟩) (Nat.le_refl _) _, fun g o e => by have := hga g o e; simp at this; omega, fun t => ofL_in zs zs' hp hso t⟩
  simp [results, Tryd.results4, go_sem, hc2]
set_option maxHeartbeats 2000000 in
theorem pand_set (a1 : Option Addr) (l1 c1 : Nat) (L : List (Int × Int)) (hL : Ok 300000 L) (a2 : Option Addr) (l2 c2 : Nat) (M : List (Int × Int)) (hM : Ok 300000 M) (w : World) (h1 : SetAt w (.slice a1 l1 c1) L) (h2 : SetAt w (.slice a2 l2 c2) M) :
    Calls Tryd.prog 8 #[.agg #[.slice a1 l1 c1], .agg #[.slice a2 l2 c2]] w fun e W' => ∃ a l c, e = .returned (.agg #[.slice a l c]) ∧ SetAt W' (.slice a l c) (anL L M) ∧ Below w.heap.size w W' := by
  have hb1 : Below w.heap.size w (((w.alloc (.cells #[.slice a1 l1 c1] 32)).alloc (.cells #[.slice a2 l2 c2] 32)).alloc (.cells #[.slice none 0 0] 32)) := (((Below.refl _ w).alloc (Nat.le_refl _) _).alloc (by simp) _).alloc (by simp; omega) _
  have x1 := Boxed.new ((w.alloc (.cells #[.slice a1 l1 c1] 32)).alloc (.cells #[.slice a2 l2 c2] 32)) 32 (.slice none 0 0)
  simp only [World.size_alloc] at x1
  have hz : (((w.alloc (.cells #[.slice a1 l1 c1] 32)).alloc (.cells #[.slice a2 l2 c2] 32)).alloc (.cells #[.slice none 0 0] 32)).heap.size = w.heap.size + 3 := by simp
  have HO := hide (and_set a1 l1 c1 L hL a2 l2 c2 M hM _ (h1.below hb1) (h2.below hb1))
  have HB := hide hb1
  have HX := hide x1
  have HZ := hide hz
  clear h1 h2 hb1 x1 hz
  go_enter Tryd.func8, Tryd.ntmps8
  go_wp2_with (go_at_call 14; refine HO.out.mono ?_; rintro e w1 ⟨a3, l3, c3, rfl, hs, hb, hfr⟩; have hx1 := boxed_later HX.out hb; have hc1 := hx1.cell; have hf1 := hx1.frozen)
  have hz := HZ.out
  have hx2 := hx1.set (.slice a3 l3 c3)
  have hc2 := hx2.cell
  refine bodyPost_ret (v := .agg #[.slice a3 l3 c3]) ?_ rfl ⟨_, _, _, rfl, hs.store ⟨w.heap.size + 1 + 1, 0, none⟩ (.slice a3 l3 c3) (fun g o e => by have := hfr g o e; show g ≠ w.heap.size + 1 + 1; omega), (HB.out.trans (hb.mono (by omega))).setCell (p := ⟨w.heap.size + 1 + 1, 0, none⟩) (by show w.heap.size ≤ w.heap.size + 1 + 1; omega) _⟩
  simp [results, Tryd.results8, go_sem, hc2]
theorem room_has {L : List (Int × Int)} (hL : InvL L) {t x k : Int} (h : RoomR L t 1 x k) : (k = 0 ∧ x = t) ↔ InS L t := by
  constructor
  · rintro ⟨rfl, rfl⟩
    rcases h with ⟨_, j, hj, hx, hok, _⟩ | ⟨h, _⟩
    · have := hok.1
      exact ⟨L.getD j (0, 0), by rw [List.getD_eq_getElem?_getD, List.getElem?_eq_getElem hj]; exact List.getElem_mem hj, by omega, by omega⟩
    · exact absurd h (by decide)
  · rintro ⟨p, hp, h1, h2⟩
    obtain ⟨i, hi, rfl⟩ := List.getElem_of_mem hp
    have he : L.getD i (0, 0) = L[i] := by rw [List.getD_eq_getElem?_getD, List.getElem?_eq_getElem hi]; rfl
    have hok : okR t 1 (L.getD i (0, 0)) := by rw [he]; unfold okR; omega
    rcases h with ⟨hk, j, hj, hx, hokj, hno⟩ | ⟨_, _, hno⟩
    · refine ⟨hk, ?_⟩
      rcases Nat.lt_trichotomy i j with h | h | h
      · exact absurd hok (hno i h)
      · subst h; rw [he] at hx; omega
      · have h3 := invL_to hL j i h hi
        rw [he] at h3
        have := hokj.1
        omega
    · exact absurd hok (hno i hi)
set_option maxHeartbeats 2000000 in
theorem next_set (L : List (Int × Int)) (hL : InvL L) (hlen : L.length ≤ 1000000) (a : Option Addr) (l c : Nat) (t : Int) (w : World) (hA : SetAt w (.slice a l c) L) :
    Calls Tryd.prog 37 #[.agg #[.slice a l c], .int .i64 t] w fun e w' => ((∃ x, e = .returned (.tuple #[.int .i64 x, .nilIface]) ∧ RoomR L t 1 x 0) ∨ (e = .returned (.tuple #[.int .i64 0, .iface 36 (.int .i64 12)]) ∧ RoomR L t 1 0 12)) ∧ Below w.heap.size w w' := by
  have hb1 : Below w.heap.size w (w.alloc (.cells #[.slice a l c] 30)) := (Below.refl _ w).alloc (Nat.le_refl _) _
  have HR := hide (room_all L hL hlen (.slice a l c) t 1 (by omega) _ (hA.below hb1))
  have HB := hide hb1
  clear hb1 hA
  go_enter Tryd.func37, Tryd.ntmps37
  go_wp2_with (go_at_call 55; refine HR.out.mono ?_; rintro e w1 ⟨⟨x, rfl, hR⟩ | ⟨rfl, hR⟩, hb2⟩)
  · go_ret2
    exact ⟨.inl ⟨x, rfl, hR⟩, HB.out.trans (hb2.mono (by simp))⟩
  · go_ret2
    exact ⟨.inr ⟨rfl, hR⟩, HB.out.trans (hb2.mono (by simp))⟩
end Go.Proofs.YtabgoicholknoaaDoor
