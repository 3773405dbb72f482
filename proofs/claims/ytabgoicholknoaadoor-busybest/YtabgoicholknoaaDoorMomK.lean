/- moments: notAhead and Room where there is none; plain.Times.Room, plain.TimesOf, pick. -/
import Derived.Test.YtabgoicholknoaaDoorMomJ
namespace Go.Proofs.YtabgoicholknoaaDoor
open Go.RowKit Go.Shelf Go.Sort
set_option linter.unusedVariables false
set_option linter.unusedSimpArgs false

set_option maxHeartbeats 2000000 in
theorem notAhead_nil (t : Int) (w : World) :
    Calls Tryd.prog 65 #[.agg #[.slice none 0 0], .int .i64 t] w fun e w' => e = .returned (.slice none 0 0) ∧ Below w.heap.size w w' := by
  have hb2 : Below w.heap.size w ((w.alloc (.cells #[.slice none 0 0] 30)).alloc (.cells #[.int .i64 t] 22)) := ((Below.refl _ w).alloc (Nat.le_refl _) _).alloc (by simp) _
  have x1 : Boxed ((w.alloc (.cells #[.slice none 0 0] 30)).alloc (.cells #[.int .i64 t] 22)) w.heap.size 30 (.slice none 0 0) := (Boxed.new _ _ _).alloc _
  have hz : ((w.alloc (.cells #[.slice none 0 0] 30)).alloc (.cells #[.int .i64 t] 22)).heap.size = w.heap.size + 2 := by simp
  have HS := Any.sort_Search Tryd.searchN 77 #[.pointer (some ⟨w.heap.size, 0, none⟩), .pointer (some ⟨w.heap.size + 1, 0, none⟩)] 0 (fun i => true) ((w.alloc (.cells #[.slice none 0 0] 30)).alloc (.cells #[.int .i64 t] 22)) (enters_of Tryd.func77 (by kernel_rfl) rfl) (by omega)
    (fun m os i hi => absurd hi (by omega)) (fun a b _ hb _ => absurd hb (by omega))
  change Calls Tryd.prog 76 #[.int .i64 0, _] _ (fun e w' => e = .returned (.int .i64 0) ∧ _) at HS
  have HSH := hide HS
  have HB := hide hb2
  have HX1 := hide x1
  have HZ := hide hz
  clear HS hb2 x1 hz
  go_enter Tryd.func65, Tryd.ntmps65
  go_wp2_with (go_at_call 76; refine HSH.out.mono ?_; rintro e w1 ⟨rfl, q, os, rfl⟩; have hcc := (cell?_grow (World.drewN ((w.alloc (.cells #[.slice none 0 0] 30)).alloc (.cells #[.int .i64 t] 22)) q) os ⟨w.heap.size, 0, none⟩ (by show w.heap.size < ((World.alloc _ _).heap.size); rw [HZ.out]; omega)).trans HX1.out.cell)
  go_ret
  exact ⟨by simp, HB.out.trans ⟨rfl, rfl, rfl, by rw [size_grow]; exact Nat.le_add_right _ _, fun j hj => heap_grow_old _ _ (by show j < ((World.alloc _ _).heap.size); rw [HZ.out]; have := HZ.out; omega)⟩⟩
set_option maxHeartbeats 2000000 in
theorem room_nil (t n : Int) (hn : 1 ≤ n) (w : World) :
    Calls Tryd.prog 55 #[.agg #[.slice none 0 0], .int .i64 t, .int .i64 n] w fun e w' => ((∃ x, e = .returned (.tuple #[.int .i64 x, .nilIface]) ∧ RoomR [] t n x 0) ∨ (e = .returned (.tuple #[.int .i64 0, .iface 36 (.int .i64 12)]) ∧ RoomR [] t n 0 12)) ∧ Below w.heap.size w w' := by
  have hn1 : ¬ n < 1 := by omega
  have hb1 : Below w.heap.size w (w.alloc (.cells #[.slice none 0 0] 30)) := (Below.refl _ w).alloc (Nat.le_refl _) _
  have HN := hide (notAhead_nil t (w.alloc (.cells #[.slice none 0 0] 30)))
  have HB := hide hb1
  clear hb1
  go_enter Tryd.func55, Tryd.ntmps55
  go_wp2_with (go_at_call 65; refine HN.out.mono ?_; rintro e w1 ⟨rfl, hb2⟩; have hB2 := HB.out.trans (hb2.mono (by simp)))
  refine wp_loop_rounds 1 ?_
  rw [rounds_succ]
  go_wp2
  go_ret2
  exact ⟨.inr ⟨rfl, .inr ⟨rfl, rfl, fun i hi => absurd hi (by simp)⟩⟩, hB2⟩
/-- a set of spans in memory -/
def SetAt (w : World) (v : Value) (L : List (Int × Int)) : Prop := (v = .slice none 0 0 ∧ L = []) ∨ ∃ g c, v = .slice (some ⟨g, 0, none⟩) L.length c ∧ L.length ≤ c ∧ g < w.heap.size ∧ At2 w g L
theorem setAt_own {w : World} {b : Nat} {v : Value} {L : List (Int × Int)} (h : w.ownsRow b 42 2 v L.length (clZ L)) : SetAt w v L := by
  have hh := h
  rcases h.2 with ⟨hv, hn⟩ | ⟨g, cap, cur, rfl, _, hg, hnc, _⟩
  · exact .inl ⟨hv, List.eq_nil_of_length_eq_zero hn⟩
  · refine .inr ⟨g, cap, rfl, hnc, (Array.getElem?_eq_some_iff.1 hg).1, fun j hj => ?_⟩
    have hd := clZ_get L j hj
    exact ⟨(World.ownsRow.cellAt hh (j * 2) (by omega)).trans hd.1, (World.ownsRow.cellAt hh (j * 2 + 1) (by omega)).trans hd.2⟩
theorem SetAt.below {w w' : World} {v : Value} {L : List (Int × Int)} (h : SetAt w v L) (hB : Below w.heap.size w w') : SetAt w' v L := by
  rcases h with h | ⟨g, c, e, hc, hg, hA⟩
  · exact .inl h
  · exact .inr ⟨g, c, e, hc, Nat.lt_of_lt_of_le hg hB.size, hA.below hg hB⟩
theorem SetAt.sps {w : World} {v : Value} {L : List (Int × Int)} (h : SetAt w v L) : SpsB w.heap.size w v L := by
  rcases h with h | ⟨g, c, e, hc, hg, hA⟩
  · exact .inl h
  · exact .inr ⟨g, 0, c, e, hg, fun j hj => by rw [Nat.zero_add]; exact hA j hj⟩
theorem room_all (L : List (Int × Int)) (hL : InvL L) (hlen : L.length ≤ 1000000) (v : Value) (t n : Int) (hn : 1 ≤ n) (w : World) (hA : SetAt w v L) :
    Calls Tryd.prog 55 #[.agg #[v], .int .i64 t, .int .i64 n] w fun e w' => ((∃ x, e = .returned (.tuple #[.int .i64 x, .nilIface]) ∧ RoomR L t n x 0) ∨ (e = .returned (.tuple #[.int .i64 0, .iface 36 (.int .i64 12)]) ∧ RoomR L t n 0 12)) ∧ Below w.heap.size w w' := by
  rcases hA with ⟨rfl, rfl⟩ | ⟨g, c, rfl, hc, hg, hA⟩
  · exact room_nil t n hn w
  · exact room_any L hL hlen g c hc t n hn w hg hA
end Go.Proofs.YtabgoicholknoaaDoor
