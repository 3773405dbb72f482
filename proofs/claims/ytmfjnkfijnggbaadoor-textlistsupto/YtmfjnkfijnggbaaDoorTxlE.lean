/- Errors with a place, taken apart; package plain: TextItems, TextJoin; lists held against each other. -/
import Derived.Test.YtmfjnkfijnggbaaDoorAsW
import Derived.Test.YtmfjnkfijnggbaaDoorAsAt
import Derived.Test.YtmfjnkfijnggbaaDoorTxlD
namespace Go.Proofs.YtmfjnkfijnggbaaDoor
open Go.RowKit Go.Extern.Stop Go.Stop Go.Extern
set_option linter.unusedVariables false
set_option linter.unusedSimpArgs false

set_option maxHeartbeats 4000000 in
theorem where_atk (B : Nat) (k : Int) (w : World) (h : Hd w) (hB : w.cell? ⟨B, 1, none⟩ = some (.int .i64 k)) : Calls Tryd.prog 18 #[.iface 56 (.pointer (some ⟨B, 0, none⟩))] w fun e w' => e = .returned (.int .i64 k) ∧ Below w.heap.size w w' := by
  have hBl : B < w.heap.size := by
    rcases Nat.lt_or_ge B w.heap.size with h | h
    · exact h
    · simp [World.cell?, Array.getElem?_eq_none h] at hB
  have hgA : (w.alloc (.cells #[.pointer none] 56)).cell? ⟨0, 0, none⟩ = some (.iface 93 (.agg #[.pointer (some ⟨2, 43, none⟩)])) := by
    rw [World.cell?_alloc_lt _ _ ⟨0, 0, none⟩ h.pos]; exact h
  have htA : (w.alloc (.cells #[.pointer none] 56)).cell? ⟨w.heap.size, 0, none⟩ = some (.pointer none) := by simp
  have hfA : (w.alloc (.cells #[.pointer none] 56)).frozen? ⟨w.heap.size, 0, none⟩ = false := by simp
  have hBA : (w.alloc (.cells #[.pointer none] 56)).cell? ⟨B, 1, none⟩ = some (.int .i64 k) := by
    rw [World.cell?_alloc_lt _ _ ⟨B, 1, none⟩ hBl]; exact hB
  have hb0 : Below w.heap.size w (w.alloc (.cells #[.pointer none] 56)) := (Below.refl _ w).alloc (Nat.le_refl _) _
  have hsz : w.heap.size < (w.alloc (.cells #[.pointer none] 56)).heap.size := by simp
  have K := hide (as_where B ⟨w.heap.size, 0, none⟩ (.pointer none) _ hgA htA hfA)
  go_enter Tryd.func18, Tryd.ntmps18
  go_wp2_with fail
  generalize hV : (w.alloc (.cells #[.pointer none] 56)) = V at *
  refine K.out.mono ?_
  rintro e W ⟨rfl, hW⟩
  have hbV : Below V.heap.size V ((((V.alloc (.cells #[.pointer (some ⟨w.heap.size, 0, none⟩)] 62)).alloc (.cells #[.pointer (some ⟨2, 62, none⟩), .pointer (some ⟨V.heap.size, 0, none⟩), .int .u64 150] 78)).alloc (.cells #[.pointer (some ⟨2, 62, none⟩), .pointer (some ⟨V.heap.size, 0, none⟩), .int .u64 150] 78)).alloc (.cells #[.pointer (some ⟨B, 0, none⟩)] 56)) := ((((Below.refl _ V).alloc (Nat.le_refl _) _).alloc (by simp) _).alloc (by simp; omega) _).alloc (by simp; omega) _
  have c1 : W.cell? ⟨w.heap.size, 0, none⟩ = some (.pointer (some ⟨B, 0, none⟩)) := by
    rw [hW]; exact World.cell?_setCell_same (u := .pointer none) _ _ _ ((hbV.cell (p := ⟨w.heap.size, 0, none⟩) hsz).trans htA)
  have c2 : W.cell? ⟨B, 1, none⟩ = some (.int .i64 k) := by
    rw [hW, World.cell?_setCell_other _ _ _ _ (by simp <;> omega)]
    exact (hbV.cell (p := ⟨B, 1, none⟩) (by show B < V.heap.size; omega)).trans hBA
  have hB2 : Below w.heap.size w W := by
    rw [hW]; exact (hb0.trans (hbV.mono (by omega))).setCell (Nat.le_refl _) _
  clear hW hbV hV K
  go_wp2_with fail
  go_ret
  exact ⟨rfl, hB2⟩

theorem where_nil' (w : World) : Calls Tryd.prog 18 #[.nilIface] w fun e w' => e = .returned (.int .i64 (-1)) ∧ Below w.heap.size w w' := by
  go_enter Tryd.func18, Tryd.ntmps18
  go_wp2_with fail
  refine (as_nil _ _).mono ?_
  rintro e W ⟨rfl, rfl⟩
  go_wp2_with fail
  go_ret
  exact ⟨rfl, (Below.refl _ _).alloc (Nat.le_refl _) _⟩
set_option maxHeartbeats 4000000 in
theorem tell_atk (B : Nat) (k : Int) (w : World) (h : Hd w) (hB : w.cell? ⟨B, 0, none⟩ = some (.int .i64 k)) : Calls Tryd.prog 17 #[.iface 56 (.pointer (some ⟨B, 0, none⟩))] w fun e w' => e = .returned (.int .i64 k) ∧ Below w.heap.size w w' := by
  have hBl : B < w.heap.size := by
    rcases Nat.lt_or_ge B w.heap.size with h | h
    · exact h
    · simp [World.cell?, Array.getElem?_eq_none h] at hB
  have hgA : (w.alloc (.cells #[.int .i64 0] 23)).cell? ⟨0, 0, none⟩ = some (.iface 93 (.agg #[.pointer (some ⟨2, 43, none⟩)])) := by
    rw [World.cell?_alloc_lt _ _ ⟨0, 0, none⟩ h.pos]; exact h
  have htA : (w.alloc (.cells #[.int .i64 0] 23)).cell? ⟨w.heap.size, 0, none⟩ = some (.int .i64 0) := by simp
  have hfA : (w.alloc (.cells #[.int .i64 0] 23)).frozen? ⟨w.heap.size, 0, none⟩ = false := by simp
  have hBA : (w.alloc (.cells #[.int .i64 0] 23)).cell? ⟨B, 0, none⟩ = some (.int .i64 k) := by
    rw [World.cell?_alloc_lt _ _ ⟨B, 0, none⟩ hBl]; exact hB
  go_enter Tryd.func17, Tryd.ntmps17
  go_wp2_with fail
  refine (as_at B k _ (.int .i64 0) _ hBA hgA htA hfA).mono ?_
  rintro e W ⟨rfl, ht, hm⟩
  have hb := hm.below (B := w.heap.size) (Nat.le_refl _) (by simp)
  have hB2 := ((Below.refl _ w).alloc (Nat.le_refl _) _).trans hb
  clear hm hb
  go_wp2_with fail
  go_ret
  exact ⟨rfl, hB2⟩

theorem SR.sl {w : World} {base : Nat} {v : Value} {L : List ByteArray} (h : SR w base v L) : ∃ a c, v = .slice a L.length c ∧ SL a L w := by
  rcases Nat.eq_zero_or_pos L.length with h0 | h0
  · obtain ⟨a, l, c, rfl⟩ := ownr_form' h
    have hl : l = L.length := by
      rcases h.2 with ⟨h', h1⟩ | ⟨g, cap, cur, h', _⟩
      · cases h'; exact h1.symm
      · cases h'; rfl
    subst hl
    exact ⟨a, c, rfl, fun k hk => absurd hk (by omega)⟩
  · obtain ⟨g, c, rfl, hg, hlt⟩ := World.ownsRow.form h h0
    refine ⟨_, c, rfl, fun k hk => ⟨_, rfl, ?_⟩⟩
    refine h.cells (g := g) rfl k _ ?_
    unfold strs'
    rw [List.getElem?_map, List.getElem?_eq_getElem hk]; rfl
set_option maxRecDepth 100000 in
set_option maxHeartbeats 4000000 in
theorem list_same (a b : Option Addr) (c d : Nat) (L : List ByteArray) (w : World) (h : SL a L w) (h2 : SL b L w) (h1 : L.length ≤ 1000000000) :
    Calls Tryd.prog 11 #[.slice a L.length c, .slice b L.length d] w fun e w' => e = .returned (.bool true) ∧ Below w.heap.size w w' := by
  have HA := hide h
  have HB := hide h2
  clear h h2
  go_enter Tryd.func11, Tryd.ntmps11
  go_wp2_with fail
  go_loopw [5] (fun i wr => ∃ k : Nat, k ≤ L.length ∧ i = .int .i64 k ∧ Below w.heap.size w wr) (fun i _ => L.length - (intOf i).toNat)
  case atStart => exact ⟨0, by omega, rfl, Below.refl _ _⟩
  case round =>
    obtain ⟨k, hk, rfl, hB⟩ := hrel
    by_cases hlt : k < L.length
    · have hki : (k : Int) < L.length := by omega
      have hk0 : (0 : Int) ≤ k := by omega
      obtain ⟨ad, rfl, hc⟩ := (HA.out.later hB) k hlt
      obtain ⟨bd, rfl, hd⟩ := (HB.out.later hB) k hlt
      generalize L[k] = s at *
      go_wp2_with fail
      go_quiet (fail)
      go_wp2
      go_roundw
      case rel => exact ⟨k + 1, by omega, by go_num, ⟨hB.os, hB.tape, hB.output, hB.size, hB.block⟩⟩
      case measure => simp [intOf]; omega
    · have hkn : k = L.length := by omega
      have hki : (L.length : Int) ≤ k := by omega
      subst hkn
      go_wp2
      go_ret
      exact ⟨rfl, hB⟩
end Go.Proofs.YtmfjnkfijnggbaaDoor
