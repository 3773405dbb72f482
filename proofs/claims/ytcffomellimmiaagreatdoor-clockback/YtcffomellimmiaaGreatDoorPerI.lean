/- package plain: where of an error with its place; ClockParsePeriod. -/
import Derived.Test.YtcffomellimmiaaGreatDoorAsW
import Derived.Test.YtcffomellimmiaaGreatDoorPerH
import Derived.Test.YtcffomellimmiaaGreatDoorPrsG
namespace Go.Proofs.YtcffomellimmiaaGreatDoor
open Go.RowKit Go.Shelf Go.Extern.Stop Go.Stop Go.Extern
set_option linter.unusedVariables false
set_option linter.unusedSimpArgs false

set_option maxHeartbeats 4000000 in
theorem where_at (B : Nat) (k : Int) (w : World) (h : Hd w) (hB : w.cell? ⟨B, 1, none⟩ = some (.int .i64 k)) : Calls Tryz.prog 23 #[.iface 92 (.pointer (some ⟨B, 0, none⟩))] w fun e w' => e = .returned (.int .i64 k) ∧ Below w.heap.size w w' := by
  have hBl : B < w.heap.size := by
    rcases Nat.lt_or_ge B w.heap.size with h | h
    · exact h
    · simp [World.cell?, Array.getElem?_eq_none h] at hB
  have hgA : (w.alloc (.cells #[.pointer none] 92)).cell? ⟨0, 0, none⟩ = some (.iface 168 (.agg #[.pointer (some ⟨5, 45, none⟩)])) := by
    rw [World.cell?_alloc_lt _ _ ⟨0, 0, none⟩ h.pos]; exact h
  have htA : (w.alloc (.cells #[.pointer none] 92)).cell? ⟨w.heap.size, 0, none⟩ = some (.pointer none) := by simp
  have hfA : (w.alloc (.cells #[.pointer none] 92)).frozen? ⟨w.heap.size, 0, none⟩ = false := by simp
  have hBA : (w.alloc (.cells #[.pointer none] 92)).cell? ⟨B, 1, none⟩ = some (.int .i64 k) := by
    rw [World.cell?_alloc_lt _ _ ⟨B, 1, none⟩ hBl]; exact hB
  have hb0 : Below w.heap.size w (w.alloc (.cells #[.pointer none] 92)) := (Below.refl _ w).alloc (Nat.le_refl _) _
  have hsz : w.heap.size < (w.alloc (.cells #[.pointer none] 92)).heap.size := by simp
  have K := hide (as_where B ⟨w.heap.size, 0, none⟩ (.pointer none) _ hgA htA hfA)
  go_enter Tryz.func23, Tryz.ntmps23
  go_wp2_with fail
  generalize hV : (w.alloc (.cells #[.pointer none] 92)) = V at *
  refine K.out.mono ?_
  rintro e W ⟨rfl, hW⟩
  have hbV : Below V.heap.size V ((((V.alloc (.cells #[.pointer (some ⟨w.heap.size, 0, none⟩)] 93)).alloc (.cells #[.pointer (some ⟨5, 93, none⟩), .pointer (some ⟨V.heap.size, 0, none⟩), .int .u64 150] 116)).alloc (.cells #[.pointer (some ⟨5, 93, none⟩), .pointer (some ⟨V.heap.size, 0, none⟩), .int .u64 150] 116)).alloc (.cells #[.pointer (some ⟨B, 0, none⟩)] 92)) := ((((Below.refl _ V).alloc (Nat.le_refl _) _).alloc (by simp) _).alloc (by simp; omega) _).alloc (by simp; omega) _
  have c1 : W.cell? ⟨w.heap.size, 0, none⟩ = some (.pointer (some ⟨B, 0, none⟩)) := by
    rw [hW]; exact World.cell?_setCell_same (u := .pointer none) _ _ _ ((hbV.cell (p := ⟨w.heap.size, 0, none⟩) hsz).trans htA)
  have c2 : W.cell? ⟨B, 1, none⟩ = some (.int .i64 k) := by
    rw [hW, World.cell?_setCell_other _ _ _ _ (by simp <;> omega)]
    exact (hbV.cell (p := ⟨B, 1, none⟩) (by show B < V.heap.size; omega)).trans hBA
  have hB2 : Below w.heap.size w W := by
    rw [hW]; exact (hb0.trans (hbV.mono (by omega))).setCell (Nat.le_refl _) _
  clear hW hbV hV K
  go_wp2_with fail
  go_ret
  exact ⟨rfl, hB2⟩

/-- what ClockParsePeriod keeps -/
def PL (C c : Nat) (v0 v1 v2 v3 v4 : Value) (w X : World) : Prop :=
  ((X.cell? ⟨C, 0, none⟩ = some (.int .i64 0) ∧ X.cell? ⟨C, 1, none⟩ = some (.int .i64 0) ∧ X.cell? ⟨C, 2, none⟩ = some (.int .i64 0) ∧ X.cell? ⟨C, 3, none⟩ = some (.int .i64 0) ∧ X.cell? ⟨C, 4, none⟩ = some (.int .i64 0)) ∧ (∀ j, X.frozen? ⟨C, j, none⟩ = false) ∧ C < X.heap.size) ∧
  ((X.cell? ⟨c, 0, none⟩ = some v0 ∧ X.cell? ⟨c, 1, none⟩ = some v1 ∧ X.cell? ⟨c, 2, none⟩ = some v2 ∧ X.cell? ⟨c, 3, none⟩ = some v3 ∧ X.cell? ⟨c, 4, none⟩ = some v4) ∧ (∀ j, X.frozen? ⟨c, j, none⟩ = false) ∧ c < X.heap.size) ∧ w.heap.size ≤ C ∧ Below w.heap.size w X
theorem PL.step {C c : Nat} {v0 v1 v2 v3 v4 : Value} {w X X' : World} {n : Nat} (h : PL C c v0 v1 v2 v3 v4 w X) (hx : Below (X.drewN n).heap.size (X.drewN n) X') : PL C c v0 v1 v2 v3 v4 w X' := by
  obtain ⟨h1, h2, hw, hB⟩ := h
  have hb : Below X.heap.size X X' := (below_drewN (Below.refl _ _) n).trans hx
  exact ⟨five_below hb h1, five_below hb h2, hw, hB.trans (hb.mono hB.size)⟩
set_option maxRecDepth 100000 in
set_option maxHeartbeats 8000000 in
theorem ppp_gen (s : ByteArray) (v0 v1 v2 v3 v4 k1 : Int) (Er : Nat → Value) (R : Nat → World → Prop) (hR : ∀ B X X', R B X → Below X.heap.size X X' → R B X') (w : World) (hd : Hd w)
    (kp : ∀ W, Calls Tryz.prog 33 #[.string s] W fun e w' => ∃ B, e = .returned (.tuple #[.agg #[.int .i64 v0, .int .i64 v1, .int .i64 v2, .int .i64 v3, .int .i64 v4], Er B]) ∧ R B w' ∧ Below W.heap.size W w')
    (kt : ∀ B X, Hd X → R B X → Calls Tryz.prog 17 #[Er B] X fun e w' => e = .returned (.int .i64 k1) ∧ Below X.heap.size X w')
    (kw : ∀ B X, Hd X → R B X → Calls Tryz.prog 23 #[Er B] X fun e w' => ∃ k2 : Int, e = .returned (.int .i64 k2) ∧ Below X.heap.size X w') :
    Calls Tryz.prog 15 #[.string s] w fun e w' => ∃ k2 : Int, e = .returned (.tuple #[.agg #[.int .i64 v0, .int .i64 v1, .int .i64 v2, .int .i64 v3, .int .i64 v4], .int .i64 k1, .int .i64 k2]) ∧ Below w.heap.size w w' := by
  have KP := hide kp
  have KT := hide kt
  have KW := hide kw
  have HR := hide hR
  clear kp kt kw hR
  go_enter Tryz.func15, Tryz.ntmps15
  go_wp2_with fail
  refine (KP.out _).mono ?_
  rintro e W1 ⟨B, rfl, hRB, hb1⟩
  have hf1 := box5 w W1 _ _ _ _ _ _ hb1
  have hB1 : Below w.heap.size w W1 := ((Below.refl _ w).alloc (Nat.le_refl _) _).trans (hb1.mono (by simp))
  have hbel : Below W1.heap.size W1 (W1.alloc (.cells #[.int .i64 v0, .int .i64 v1, .int .i64 v2, .int .i64 v3, .int .i64 v4] 39)) := (Below.refl _ W1).alloc (Nat.le_refl _) _
  have hp : PL w.heap.size W1.heap.size (.int .i64 v0) (.int .i64 v1) (.int .i64 v2) (.int .i64 v3) (.int .i64 v4) w (W1.alloc (.cells #[.int .i64 v0, .int .i64 v1, .int .i64 v2, .int .i64 v3, .int .i64 v4] 39)) :=
    ⟨five_below hbel hf1, box5 W1 _ _ _ _ _ _ _ (Below.refl _ _), Nat.le_refl _, hB1.trans (hbel.mono hB1.size)⟩
  have hRV := HR.out _ _ _ hRB hbel
  have hl := hf1.2.2
  clear hb1 hf1 hB1 hbel hRB KP
  generalize hE : Er B = E at *
  have KT2 := hide (fun X hX hRX => by have := KT.out B X hX hRX; rw [hE] at this; exact this)
  have KW2 := hide (fun X hX hRX => by have := KW.out B X hX hRX; rw [hE] at this; exact this)
  clear KT KW hE
  go_wp2_with fail
  generalize hV : W1.alloc (.cells #[.int .i64 v0, .int .i64 v1, .int .i64 v2, .int .i64 v3, .int .i64 v4] 39) = V at *
  generalize hc : W1.heap.size = c at *
  generalize hC : w.heap.size = C at *
  have hp0 := hp
  obtain ⟨⟨⟨a0, a1, a2, a3, a4⟩, fa, la⟩, ⟨⟨d0, d1, d2, d3, d4⟩, fd, ld⟩, _, _⟩ := hp0
  have hne : C ≠ c := by omega
  have hHd : ∀ X, PL C c (.int .i64 v0) (.int .i64 v1) (.int .i64 v2) (.int .i64 v3) (.int .i64 v4) w X → Hd X := fun X h => hd.later h.2.2.2
  have HH := hide hHd
  clear hHd
  go_region_with (first
    | (go_at_call 17; refine (KT2.out _ (by first | exact HH.out _ hp | exact HH.out _ (PL.step (n := 1) hp (Below.refl _ _)) | exact (HH.out _ hp)) (HR.out _ _ _ hRV (below_drewN (Below.refl _ _) _))).mono ?_; rintro e X ⟨rfl, hx⟩; have hpx := PL.step hp hx; have hRX := HR.out _ _ _ hRV ((below_drewN (Below.refl _ V) _).trans hx); have hpy := hpx; obtain ⟨⟨⟨x0, x1, x2, x3, x4⟩, fx, lx⟩, ⟨⟨y0, y1, y2, y3, y4⟩, fy, ly⟩, _, _⟩ := hpy; clear hx)
    | (go_at_call 23; refine (KW2.out _ (HH.out _ hpx) hRX).mono ?_; rintro e Y ⟨k2, rfl, hy⟩; have hpz := PL.step (n := 0) hpx hy; obtain ⟨⟨⟨u0, u1, u2, u3, u4⟩, fu, lu⟩, ⟨⟨z0, z1, z2, z3, z4⟩, fz, lz⟩, hwC, hBY⟩ := hpz; clear hy))
  all_goals
    obtain ⟨q0, q1, q2, q3, q4⟩ := five_read _ _ _ _ _ (.int .i64 v0) (.int .i64 v1) (.int .i64 v2) (.int .i64 v3) (.int .i64 v4) u0 u1 u2 u3 u4
    go_wp2
    refine bodyPost_ret (v := .tuple #[.agg #[.int .i64 v0, .int .i64 v1, .int .i64 v2, .int .i64 v3, .int .i64 v4], .int .i64 k1, .int .i64 k2]) (by simp [results, Tryz.results15, go_sem, q0, q1, q2, q3, q4]) rfl ⟨k2, rfl, ?_⟩
    rw [← hC]
    exact ((((hBY.setCell (Nat.le_refl _) _).setCell (Nat.le_refl _) _).setCell (Nat.le_refl _) _).setCell (Nat.le_refl _) _).setCell (Nat.le_refl _) _
end Go.Proofs.YtcffomellimmiaaGreatDoor
