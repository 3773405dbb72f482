/- Errors with a place, taken apart; package plain: TextItems, TextJoin; lists held against each other. -/
import Derived.Test.YtponocolfjkapaaDoorMTextBackUpto13
import Derived.Test.YtponocolfjkapaaDoorMTextBackUpto11
import Derived.Test.YtponocolfjkapaaDoorMTextBackUpto18
namespace Go.Proofs.YtponocolfjkapaaDoor
open Go.RowKit Go.Extern.Stop Go.Stop Go.Extern
set_option linter.unusedVariables false
set_option linter.unusedSimpArgs false

set_option maxHeartbeats 4000000 in
theorem where_atk (B : Nat) (k : Int) (w : World) (h : Hd w) (hB : w.cell? ⟨B, 1, none⟩ = some (.int .i64 k)) : Calls Tryd.prog 20 #[.iface 69 (.pointer (some ⟨B, 0, none⟩))] w fun e w' => e = .returned (.int .i64 k) ∧ Below w.heap.size w w' := by
  have hBl : B < w.heap.size := by
    rcases Nat.lt_or_ge B w.heap.size with h | h
    · exact h
    · simp [World.cell?, Array.getElem?_eq_none h] at hB
  have hgA : (w.alloc (.cells #[.pointer none] 69)).cell? ⟨0, 0, none⟩ = some (.iface 107 (.agg #[.pointer (some ⟨2, 41, none⟩)])) := by
    rw [World.cell?_alloc_lt _ _ ⟨0, 0, none⟩ h.pos]; exact h
  have htA : (w.alloc (.cells #[.pointer none] 69)).cell? ⟨w.heap.size, 0, none⟩ = some (.pointer none) := by simp
  have hfA : (w.alloc (.cells #[.pointer none] 69)).frozen? ⟨w.heap.size, 0, none⟩ = false := by simp
  have hBA : (w.alloc (.cells #[.pointer none] 69)).cell? ⟨B, 1, none⟩ = some (.int .i64 k) := by
    rw [World.cell?_alloc_lt _ _ ⟨B, 1, none⟩ hBl]; exact hB
  have hb0 : Below w.heap.size w (w.alloc (.cells #[.pointer none] 69)) := (Below.refl _ w).alloc (Nat.le_refl _) _
  have hsz : w.heap.size < (w.alloc (.cells #[.pointer none] 69)).heap.size := by simp
  have K := hide (as_where B ⟨w.heap.size, 0, none⟩ (.pointer none) _ hgA htA hfA)
  go_enter Tryd.func20, Tryd.ntmps20
  go_wp2_with fail
  generalize hV : (w.alloc (.cells #[.pointer none] 69)) = V at *
  refine K.out.mono ?_
  rintro e W ⟨rfl, hW⟩
  have hbV : Below V.heap.size V ((((V.alloc (.cells #[.pointer (some ⟨w.heap.size, 0, none⟩)] 74)).alloc (.cells #[.pointer (some ⟨2, 74, none⟩), .pointer (some ⟨V.heap.size, 0, none⟩), .int .u64 150] 84)).alloc (.cells #[.pointer (some ⟨2, 74, none⟩), .pointer (some ⟨V.heap.size, 0, none⟩), .int .u64 150] 84)).alloc (.cells #[.pointer (some ⟨B, 0, none⟩)] 69)) := ((((Below.refl _ V).alloc (Nat.le_refl _) _).alloc (by simp) _).alloc (by simp; omega) _).alloc (by simp; omega) _
  have c1 : W.cell? ⟨w.heap.size, 0, none⟩ = some (.pointer (some ⟨B, 0, none⟩)) := by
    rw [hW]; exact World.cell?_setCell_same (u := .pointer none) _ _ _ ((hbV.cell (p := ⟨w.heap.size, 0, none⟩) hsz).trans htA)
  have c2 : W.cell? ⟨B, 1, none⟩ = some (.int .i64 k) := by
    rw [hW, World.cell?_setCell_other _ _ _ _ (by simp <;> omega)]
    exact (hbV.cell (p := ⟨B, 1, none⟩) (by show B < V.heap.size; omega)).trans hBA
  have hB2 : Below w.heap.size w W := by
    rw [hW]; exact (hb0.trans (hbV.mono (by omega))).setCell (Nat.le_refl _) _
  clear hW hbV hV K
  go_wp2_with fail
  go_ret
  exact ⟨rfl, hB2⟩

theorem where_nil' (w : World) : Calls Tryd.prog 20 #[.nilIface] w fun e w' => e = .returned (.int .i64 (-1)) ∧ Below w.heap.size w w' := by
  go_enter Tryd.func20, Tryd.ntmps20
  go_wp2_with fail
  refine (as_nil _ _).mono ?_
  rintro e W ⟨rfl, rfl⟩
  go_wp2_with fail
  go_ret
  exact ⟨rfl, (Below.refl _ _).alloc (Nat.le_refl _) _⟩
set_option maxHeartbeats 4000000 in
theorem tell_atk (B : Nat) (k : Int) (w : World) (h : Hd w) (hB : w.cell? ⟨B, 0, none⟩ = some (.int .i64 k)) : Calls Tryd.prog 15 #[.iface 69 (.pointer (some ⟨B, 0, none⟩))] w fun e w' => e = .returned (.int .i64 k) ∧ Below w.heap.size w w' := by
  have hBl : B < w.heap.size := by
    rcases Nat.lt_or_ge B w.heap.size with h | h
    · exact h
    · simp [World.cell?, Array.getElem?_eq_none h] at hB
  have hgA : (w.alloc (.cells #[.int .i64 0] 26)).cell? ⟨0, 0, none⟩ = some (.iface 107 (.agg #[.pointer (some ⟨2, 41, none⟩)])) := by
    rw [World.cell?_alloc_lt _ _ ⟨0, 0, none⟩ h.pos]; exact h
  have htA : (w.alloc (.cells #[.int .i64 0] 26)).cell? ⟨w.heap.size, 0, none⟩ = some (.int .i64 0) := by simp
  have hfA : (w.alloc (.cells #[.int .i64 0] 26)).frozen? ⟨w.heap.size, 0, none⟩ = false := by simp
  have hBA : (w.alloc (.cells #[.int .i64 0] 26)).cell? ⟨B, 0, none⟩ = some (.int .i64 k) := by
    rw [World.cell?_alloc_lt _ _ ⟨B, 0, none⟩ hBl]; exact hB
  go_enter Tryd.func15, Tryd.ntmps15
  go_wp2_with fail
  refine (as_at B k _ (.int .i64 0) _ hBA hgA htA hfA).mono ?_
  rintro e W ⟨rfl, ht, hm⟩
  have hb := hm.below (B := w.heap.size) (Nat.le_refl _) (by simp)
  have hB2 := ((Below.refl _ w).alloc (Nat.le_refl _) _).trans hb
  clear hm hb
  go_wp2_with fail
  go_ret
  exact ⟨rfl, hB2⟩

theorem SR.sl {w : World} {base : Nat} {v : Value} {L : List ByteArray} (h : SR w base v L) : ∃ a c, v = .slice a L.length c ∧ SL a L w := by
  rcases Nat.eq_zero_or_pos L.length with h0 | h0
  · obtain ⟨a, l, c, rfl⟩ := ownr_form' h
    have hl : l = L.length := by
      rcases h.2 with ⟨h', h1⟩ | ⟨g, cap, cur, h', _⟩
      · cases h'; exact h1.symm
      · cases h'; rfl
    subst hl
    exact ⟨a, c, rfl, fun k hk => absurd hk (by omega)⟩
  · obtain ⟨g, c, rfl, hg, hlt⟩ := World.ownsRow.form h h0
    refine ⟨_, c, rfl, fun k hk => ⟨_, rfl, ?_⟩⟩
    refine h.cells (g := g) rfl k _ ?_
    unfold strs'
    rw [List.getElem?_map, List.getElem?_eq_getElem hk]; rfl
end Go.Proofs.YtponocolfjkapaaDoor
