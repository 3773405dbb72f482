/- package plain: where of an error with its place; ClockParsePeriod. -/
import Derived.Test.YtafaacliphdndaaGreatDoorMClockBack40
import Derived.Test.YtafaacliphdndaaGreatDoorMClockBack38
import Derived.Test.YtafaacliphdndaaGreatDoorMClockBack36
import Derived.Test.YtafaacliphdndaaGreatDoorMClockBack33
namespace Go.Proofs.YtafaacliphdndaaGreatDoor
open Go.RowKit Go.Shelf
set_option linter.unusedVariables false
set_option linter.unusedSimpArgs false


set_option maxRecDepth 100000 in
set_option maxHeartbeats 8000000 in
theorem pperiod_ok (s : ByteArray) (bk : Bool) (E : Nat) (y m n d x : Int) (w : World) (hs : s.size ≤ 1000000000) (hE : s.size ≤ E) (hk : Nx s 0 45 bk) (hy : -1000000000000 ≤ y ∧ y ≤ 1000000000000) (hm : -1000000000000 ≤ m ∧ m ≤ 1000000000000) (hn : -1000000000000 ≤ n ∧ n ≤ 1000000000000) (hd : -1000000000000 ≤ d ∧ d ≤ 1000000000000) (hx : -1000000000000 ≤ x ∧ x ≤ 1000000000000)
    (kp : ∀ b W, Rd b s (if bk then 1 else 0) W → Calls Tryz.prog 66 #[.pointer (some ⟨b, 0, none⟩)] W fun e w' => e = .returned (.tuple #[.agg #[.int .i64 y, .int .i64 m, .int .i64 n, .int .i64 d, .int .i64 x], .nilIface]) ∧ Rd b s E w' ∧ Mv b W w') :
    Calls Tryz.prog 41 #[.string s] w fun e w' => e = .returned (.tuple #[(if bk then .agg #[.int .i64 (-y), .int .i64 (-m), .int .i64 (-n), .int .i64 (-d), .int .i64 (-x)] else .agg #[.int .i64 y, .int .i64 m, .int .i64 n, .int .i64 d, .int .i64 x]), .nilIface]) ∧ Below w.heap.size w w' := by
  have KS := hide (fun b W hW => skip_any b s 0 45 bk W hW hs hk (by omega))
  have KP := hide kp
  have KE := hide (fun b W hW => rend_ok b s E W hW hs hE)
  have KT := hide (fun W => turned_any y m n d x W hy hm hn hd hx)
  clear kp hk
  have hA : Rd (w.heap.size + 1) s 0 ((w.alloc (.cells #[.int .i64 0, .int .i64 0, .int .i64 0, .int .i64 0, .int .i64 0] 24)).alloc (.cells #[.string s, .int .i64 0] 103)) :=
    ⟨by simp [go_sem], by simp [go_sem], fun j => by simp, by simp⟩
  have hMA : Below w.heap.size w ((w.alloc (.cells #[.int .i64 0, .int .i64 0, .int .i64 0, .int .i64 0, .int .i64 0] 24)).alloc (.cells #[.string s, .int .i64 0] 103)) := ((Below.refl _ w).alloc (Nat.le_refl _) _).alloc (by simp) _
  have hf0 := five_below (W := w.alloc (.cells #[.int .i64 0, .int .i64 0, .int .i64 0, .int .i64 0, .int .i64 0] 24)) ((Below.refl _ _).alloc (Nat.le_refl _) (.cells #[.string s, .int .i64 0] 103)) (box5 w _ _ _ _ _ _ _ (Below.refl _ (w.alloc (.cells #[.int .i64 0, .int .i64 0, .int .i64 0, .int .i64 0, .int .i64 0] 24))))
  have hne : w.heap.size ≠ w.heap.size + 1 := by omega
  cases bk
  all_goals
    simp only [if_true, Bool.false_eq_true, if_false] at KS KP ⊢
    go_enter Tryz.func41, Tryz.ntmps41
    go_wp2_with fail
    refine (KS.out _ _ hA).mono ?_
    rintro e W1 ⟨rfl, hr1, hm1⟩
    have hf1 := five_mv hm1 hne hf0
    have hB1 := hide (hMA.trans (hm1.below (B := w.heap.size) (by omega) (by simp; omega)))
    clear hm1 hMA hA hf0
    go_wp2_with fail
    refine (KP.out _ _ hr1).mono ?_
    rintro e W2 ⟨rfl, hr2, hm2⟩
    have hf2 := five_mv hm2 hne hf1
    have hB2 := hide (hB1.out.trans (hm2.below (B := w.heap.size) (by omega) hB1.out.size))
    clear hm2 hB1 hf1 hr1
    have hbel : Below W2.heap.size W2 (W2.alloc (.cells #[.int .i64 y, .int .i64 m, .int .i64 n, .int .i64 d, .int .i64 x] 24)) := (Below.refl _ W2).alloc (Nat.le_refl _) _
    have hr3 := hr2.later hbel
    have hf3 := five_below hbel hf2
    have hg3 := box5 W2 _ _ _ _ _ _ _ (Below.refl _ (W2.alloc (.cells #[.int .i64 y, .int .i64 m, .int .i64 n, .int .i64 d, .int .i64 x] 24)))
    have hB3 := hide (hB2.out.trans (hbel.mono hB2.out.size))
    have hl2 := hr2.lt
    have hcb : W2.heap.size ≠ w.heap.size + 1 := by omega
    clear hbel hf2 hB2 hr2
    go_wp2_with fail
    refine (KE.out _ _ hr3).mono ?_
    rintro e W4 ⟨rfl, hr4, hm4⟩
    have hf4 := five_mv hm4 hne hf3
    have hg4 := five_mv hm4 hcb hg3
    have hB4 := hide (hB3.out.trans (hm4.below (B := w.heap.size) (by omega) hB3.out.size))
    clear hm4 hf3 hg3 hB3 hr3 hr4
  · obtain ⟨⟨f0, f1, f2, f3, f4⟩, ff, fl⟩ := hf4
    obtain ⟨⟨g0, g1, g2, g3, g4⟩, gf, gl⟩ := hg4
    obtain ⟨z0, z1, z2, z3, z4⟩ := five_read _ _ _ _ _ (.int .i64 y) (.int .i64 m) (.int .i64 n) (.int .i64 d) (.int .i64 x) f0 f1 f2 f3 f4
    go_wp2_with fail
    refine bodyPost_ret (v := .tuple #[.agg #[.int .i64 y, .int .i64 m, .int .i64 n, .int .i64 d, .int .i64 x], .nilIface]) (by simp [results, Tryz.results41, go_sem, z0, z1, z2, z3, z4]) rfl ⟨rfl, ?_⟩
    exact ((((hB4.out.setCell (Nat.le_refl _) _).setCell (Nat.le_refl _) _).setCell (Nat.le_refl _) _).setCell (Nat.le_refl _) _).setCell (Nat.le_refl _) _
  · obtain ⟨⟨g0, g1, g2, g3, g4⟩, gf, gl⟩ := hg4
    go_wp2_with fail
    refine (KT.out _).mono ?_
    rintro e W5 ⟨rfl, b5⟩
    obtain ⟨⟨f0, f1, f2, f3, f4⟩, ff, fl⟩ := five_below b5 hf4
    have hB5 := hide (hB4.out.trans (b5.mono hB4.out.size))
    obtain ⟨z0, z1, z2, z3, z4⟩ := five_read _ _ _ _ _ (.int .i64 (-y)) (.int .i64 (-m)) (.int .i64 (-n)) (.int .i64 (-d)) (.int .i64 (-x)) f0 f1 f2 f3 f4
    clear b5 hf4 hB4
    go_wp2_with fail
    refine bodyPost_ret (v := .tuple #[.agg #[.int .i64 (-y), .int .i64 (-m), .int .i64 (-n), .int .i64 (-d), .int .i64 (-x)], .nilIface]) (by simp [results, Tryz.results41, go_sem, z0, z1, z2, z3, z4]) rfl ⟨rfl, ?_⟩
    exact ((((hB5.out.setCell (Nat.le_refl _) _).setCell (Nat.le_refl _) _).setCell (Nat.le_refl _) _).setCell (Nat.le_refl _) _).setCell (Nat.le_refl _) _
set_option maxRecDepth 100000 in
set_option maxHeartbeats 8000000 in
theorem pperiod_err (s : ByteArray) (bk : Bool) (w : World) (hs : s.size ≤ 1000000000) (hk : Nx s 0 45 bk)
    (kp : ∀ b W, Rd b s (if bk then 1 else 0) W → Calls Tryz.prog 66 #[.pointer (some ⟨b, 0, none⟩)] W (PErr b W)) :
    Calls Tryz.prog 41 #[.string s] w fun e w' => ∃ B, e = .returned (.tuple #[.agg #[.int .i64 0, .int .i64 0, .int .i64 0, .int .i64 0, .int .i64 0], .iface 106 (.pointer (some ⟨B, 0, none⟩))]) ∧ AtB B w' ∧ w.heap.size ≤ B ∧ Below w.heap.size w w' := by
  have KS := hide (fun b W hW => skip_any b s 0 45 bk W hW hs hk (by omega))
  have KP := hide kp
  clear kp hk
  have hA : Rd (w.heap.size + 1) s 0 ((w.alloc (.cells #[.int .i64 0, .int .i64 0, .int .i64 0, .int .i64 0, .int .i64 0] 24)).alloc (.cells #[.string s, .int .i64 0] 103)) :=
    ⟨by simp [go_sem], by simp [go_sem], fun j => by simp, by simp⟩
  have hMA : Below w.heap.size w ((w.alloc (.cells #[.int .i64 0, .int .i64 0, .int .i64 0, .int .i64 0, .int .i64 0] 24)).alloc (.cells #[.string s, .int .i64 0] 103)) := ((Below.refl _ w).alloc (Nat.le_refl _) _).alloc (by simp) _
  have hf0 := five_below (W := w.alloc (.cells #[.int .i64 0, .int .i64 0, .int .i64 0, .int .i64 0, .int .i64 0] 24)) ((Below.refl _ _).alloc (Nat.le_refl _) (.cells #[.string s, .int .i64 0] 103)) (box5 w _ _ _ _ _ _ _ (Below.refl _ (w.alloc (.cells #[.int .i64 0, .int .i64 0, .int .i64 0, .int .i64 0, .int .i64 0] 24))))
  have hne : w.heap.size ≠ w.heap.size + 1 := by omega
  cases bk
  all_goals
    simp only [if_true, Bool.false_eq_true, if_false] at KS KP ⊢
    go_enter Tryz.func41, Tryz.ntmps41
    go_wp2_with fail
    refine (KS.out _ _ hA).mono ?_
    rintro e W1 ⟨rfl, hr1, hm1⟩
    have hf1 := five_mv hm1 hne hf0
    have hB1 := hide (hMA.trans (hm1.below (B := w.heap.size) (by omega) (by simp; omega)))
    have hl1 := hr1.lt
    clear hm1 hMA hA hf0
    go_wp2_with fail
    refine (KP.out _ _ hr1).mono ?_
    rintro e W2 ⟨B, rfl, hAt, hBB, hm2⟩
    have hf2 := five_mv hm2 hne hf1
    have hB2 := hide (hB1.out.trans (hm2.below (B := w.heap.size) (by omega) hB1.out.size))
    clear hm2 hB1 hf1 hr1
    have hbel : Below W2.heap.size W2 (W2.alloc (.cells #[.int .i64 0, .int .i64 0, .int .i64 0, .int .i64 0, .int .i64 0] 24)) := (Below.refl _ W2).alloc (Nat.le_refl _) _
    obtain ⟨⟨f0, f1, f2, f3, f4⟩, ff, fl⟩ := five_below hbel hf2
    have hAt3 := hAt.later hbel
    have hB3 := hide (hB2.out.trans (hbel.mono hB2.out.size))
    obtain ⟨z0, z1, z2, z3, z4⟩ := five_read _ _ _ _ _ (.int .i64 0) (.int .i64 0) (.int .i64 0) (.int .i64 0) (.int .i64 0) f0 f1 f2 f3 f4
    clear hbel hf2 hB2 hAt
    go_wp2_with fail
    refine bodyPost_ret (v := .tuple #[.agg #[.int .i64 0, .int .i64 0, .int .i64 0, .int .i64 0, .int .i64 0], .iface 106 (.pointer (some ⟨B, 0, none⟩))]) (by simp [results, Tryz.results41, go_sem, z0, z1, z2, z3, z4]) rfl ⟨B, rfl, at_set5 _ _ _ _ _ (by omega) hAt3, by omega, ?_⟩
    exact ((((hB3.out.setCell (Nat.le_refl _) _).setCell (Nat.le_refl _) _).setCell (Nat.le_refl _) _).setCell (Nat.le_refl _) _).setCell (Nat.le_refl _) _
end Go.Proofs.YtafaacliphdndaaGreatDoor
namespace Go.Proofs.YtafaacliphdndaaGreatDoor
open Go.RowKit Go.Shelf Go.Extern.Stop Go.Stop Go.Extern
set_option linter.unusedVariables false
set_option linter.unusedSimpArgs false

set_option maxHeartbeats 4000000 in
theorem where_at (B : Nat) (k : Int) (w : World) (h : Hd w) (hB : w.cell? ⟨B, 1, none⟩ = some (.int .i64 k)) : Calls Tryz.prog 39 #[.iface 106 (.pointer (some ⟨B, 0, none⟩))] w fun e w' => e = .returned (.int .i64 k) ∧ Below w.heap.size w w' := by
  have hBl : B < w.heap.size := by
    rcases Nat.lt_or_ge B w.heap.size with h | h
    · exact h
    · simp [World.cell?, Array.getElem?_eq_none h] at hB
  have hgA : (w.alloc (.cells #[.pointer none] 106)).cell? ⟨0, 0, none⟩ = some (.iface 157 (.agg #[.pointer (some ⟨5, 46, none⟩)])) := by
    rw [World.cell?_alloc_lt _ _ ⟨0, 0, none⟩ h.pos]; exact h
  have htA : (w.alloc (.cells #[.pointer none] 106)).cell? ⟨w.heap.size, 0, none⟩ = some (.pointer none) := by simp
  have hfA : (w.alloc (.cells #[.pointer none] 106)).frozen? ⟨w.heap.size, 0, none⟩ = false := by simp
  have hBA : (w.alloc (.cells #[.pointer none] 106)).cell? ⟨B, 1, none⟩ = some (.int .i64 k) := by
    rw [World.cell?_alloc_lt _ _ ⟨B, 1, none⟩ hBl]; exact hB
  have hb0 : Below w.heap.size w (w.alloc (.cells #[.pointer none] 106)) := (Below.refl _ w).alloc (Nat.le_refl _) _
  have hsz : w.heap.size < (w.alloc (.cells #[.pointer none] 106)).heap.size := by simp
  have K := hide (as_where B ⟨w.heap.size, 0, none⟩ (.pointer none) _ hgA htA hfA)
  go_enter Tryz.func39, Tryz.ntmps39
  go_wp2_with fail
  generalize hV : (w.alloc (.cells #[.pointer none] 106)) = V at *
  refine K.out.mono ?_
  rintro e W ⟨rfl, hW⟩
  have hbV : Below V.heap.size V ((((V.alloc (.cells #[.pointer (some ⟨w.heap.size, 0, none⟩)] 107)).alloc (.cells #[.pointer (some ⟨5, 107, none⟩), .pointer (some ⟨V.heap.size, 0, none⟩), .int .u64 150] 123)).alloc (.cells #[.pointer (some ⟨5, 107, none⟩), .pointer (some ⟨V.heap.size, 0, none⟩), .int .u64 150] 123)).alloc (.cells #[.pointer (some ⟨B, 0, none⟩)] 106)) := ((((Below.refl _ V).alloc (Nat.le_refl _) _).alloc (by simp) _).alloc (by simp; omega) _).alloc (by simp; omega) _
  have c1 : W.cell? ⟨w.heap.size, 0, none⟩ = some (.pointer (some ⟨B, 0, none⟩)) := by
    rw [hW]; exact World.cell?_setCell_same (u := .pointer none) _ _ _ ((hbV.cell (p := ⟨w.heap.size, 0, none⟩) hsz).trans htA)
  have c2 : W.cell? ⟨B, 1, none⟩ = some (.int .i64 k) := by
    rw [hW, World.cell?_setCell_other _ _ _ _ (by simp <;> omega)]
    exact (hbV.cell (p := ⟨B, 1, none⟩) (by show B < V.heap.size; omega)).trans hBA
  have hB2 : Below w.heap.size w W := by
    rw [hW]; exact (hb0.trans (hbV.mono (by omega))).setCell (Nat.le_refl _) _
  clear hW hbV hV K
  go_wp2_with fail
  go_ret
  exact ⟨rfl, hB2⟩

/-- what ClockParsePeriod keeps -/
def PL (C c : Nat) (v0 v1 v2 v3 v4 : Value) (w X : World) : Prop :=
  ((X.cell? ⟨C, 0, none⟩ = some (.int .i64 0) ∧ X.cell? ⟨C, 1, none⟩ = some (.int .i64 0) ∧ X.cell? ⟨C, 2, none⟩ = some (.int .i64 0) ∧ X.cell? ⟨C, 3, none⟩ = some (.int .i64 0) ∧ X.cell? ⟨C, 4, none⟩ = some (.int .i64 0)) ∧ (∀ j, X.frozen? ⟨C, j, none⟩ = false) ∧ C < X.heap.size) ∧
  ((X.cell? ⟨c, 0, none⟩ = some v0 ∧ X.cell? ⟨c, 1, none⟩ = some v1 ∧ X.cell? ⟨c, 2, none⟩ = some v2 ∧ X.cell? ⟨c, 3, none⟩ = some v3 ∧ X.cell? ⟨c, 4, none⟩ = some v4) ∧ (∀ j, X.frozen? ⟨c, j, none⟩ = false) ∧ c < X.heap.size) ∧ w.heap.size ≤ C ∧ Below w.heap.size w X
theorem PL.step {C c : Nat} {v0 v1 v2 v3 v4 : Value} {w X X' : World} {n : Nat} (h : PL C c v0 v1 v2 v3 v4 w X) (hx : Below (X.drewN n).heap.size (X.drewN n) X') : PL C c v0 v1 v2 v3 v4 w X' := by
  obtain ⟨h1, h2, hw, hB⟩ := h
  have hb : Below X.heap.size X X' := (below_drewN (Below.refl _ _) n).trans hx
  exact ⟨five_below hb h1, five_below hb h2, hw, hB.trans (hb.mono hB.size)⟩
set_option maxRecDepth 100000 in
set_option maxHeartbeats 8000000 in
theorem ppp_gen (s : ByteArray) (v0 v1 v2 v3 v4 k1 : Int) (Er : Nat → Value) (R : Nat → World → Prop) (hR : ∀ B X X', R B X → Below X.heap.size X X' → R B X') (w : World) (hd : Hd w)
    (kp : ∀ W, Calls Tryz.prog 41 #[.string s] W fun e w' => ∃ B, e = .returned (.tuple #[.agg #[.int .i64 v0, .int .i64 v1, .int .i64 v2, .int .i64 v3, .int .i64 v4], Er B]) ∧ R B w' ∧ Below W.heap.size W w')
    (kt : ∀ B X, Hd X → R B X → Calls Tryz.prog 21 #[Er B] X fun e w' => e = .returned (.int .i64 k1) ∧ Below X.heap.size X w')
    (kw : ∀ B X, Hd X → R B X → Calls Tryz.prog 39 #[Er B] X fun e w' => ∃ k2 : Int, e = .returned (.int .i64 k2) ∧ Below X.heap.size X w') :
    Calls Tryz.prog 19 #[.string s] w fun e w' => ∃ k2 : Int, e = .returned (.tuple #[.agg #[.int .i64 v0, .int .i64 v1, .int .i64 v2, .int .i64 v3, .int .i64 v4], .int .i64 k1, .int .i64 k2]) ∧ Below w.heap.size w w' := by
  have KP := hide kp
  have KT := hide kt
  have KW := hide kw
  have HR := hide hR
  clear kp kt kw hR
  go_enter Tryz.func19, Tryz.ntmps19
  go_wp2_with fail
  refine (KP.out _).mono ?_
  rintro e W1 ⟨B, rfl, hRB, hb1⟩
  have hf1 := box5 w W1 _ _ _ _ _ _ hb1
  have hB1 : Below w.heap.size w W1 := ((Below.refl _ w).alloc (Nat.le_refl _) _).trans (hb1.mono (by simp))
  have hbel : Below W1.heap.size W1 (W1.alloc (.cells #[.int .i64 v0, .int .i64 v1, .int .i64 v2, .int .i64 v3, .int .i64 v4] 24)) := (Below.refl _ W1).alloc (Nat.le_refl _) _
  have hp : PL w.heap.size W1.heap.size (.int .i64 v0) (.int .i64 v1) (.int .i64 v2) (.int .i64 v3) (.int .i64 v4) w (W1.alloc (.cells #[.int .i64 v0, .int .i64 v1, .int .i64 v2, .int .i64 v3, .int .i64 v4] 24)) :=
    ⟨five_below hbel hf1, box5 W1 _ _ _ _ _ _ _ (Below.refl _ _), Nat.le_refl _, hB1.trans (hbel.mono hB1.size)⟩
  have hRV := HR.out _ _ _ hRB hbel
  have hl := hf1.2.2
  clear hb1 hf1 hB1 hbel hRB KP
  generalize hE : Er B = E at *
  have KT2 := hide (fun X hX hRX => by have := KT.out B X hX hRX; rw [hE] at this; exact this)
  have KW2 := hide (fun X hX hRX => by have := KW.out B X hX hRX; rw [hE] at this; exact this)
  clear KT KW hE
  go_wp2_with fail
  generalize hV : W1.alloc (.cells #[.int .i64 v0, .int .i64 v1, .int .i64 v2, .int .i64 v3, .int .i64 v4] 24) = V at *
  generalize hc : W1.heap.size = c at *
  generalize hC : w.heap.size = C at *
  have hp0 := hp
  obtain ⟨⟨⟨a0, a1, a2, a3, a4⟩, fa, la⟩, ⟨⟨d0, d1, d2, d3, d4⟩, fd, ld⟩, _, _⟩ := hp0
  have hne : C ≠ c := by omega
  have hHd : ∀ X, PL C c (.int .i64 v0) (.int .i64 v1) (.int .i64 v2) (.int .i64 v3) (.int .i64 v4) w X → Hd X := fun X h => hd.later h.2.2.2
  have HH := hide hHd
  clear hHd
  go_region_with (first
    | (go_at_call 21; refine (KT2.out _ (by first | exact HH.out _ hp | exact HH.out _ (PL.step (n := 1) hp (Below.refl _ _)) | exact (HH.out _ hp)) (HR.out _ _ _ hRV (below_drewN (Below.refl _ _) _))).mono ?_; rintro e X ⟨rfl, hx⟩; have hpx := PL.step hp hx; have hRX := HR.out _ _ _ hRV ((below_drewN (Below.refl _ V) _).trans hx); have hpy := hpx; obtain ⟨⟨⟨x0, x1, x2, x3, x4⟩, fx, lx⟩, ⟨⟨y0, y1, y2, y3, y4⟩, fy, ly⟩, _, _⟩ := hpy; clear hx)
    | (go_at_call 39; refine (KW2.out _ (HH.out _ hpx) hRX).mono ?_; rintro e Y ⟨k2, rfl, hy⟩; have hpz := PL.step (n := 0) hpx hy; obtain ⟨⟨⟨u0, u1, u2, u3, u4⟩, fu, lu⟩, ⟨⟨z0, z1, z2, z3, z4⟩, fz, lz⟩, hwC, hBY⟩ := hpz; clear hy))
  all_goals
    obtain ⟨q0, q1, q2, q3, q4⟩ := five_read _ _ _ _ _ (.int .i64 v0) (.int .i64 v1) (.int .i64 v2) (.int .i64 v3) (.int .i64 v4) u0 u1 u2 u3 u4
    go_wp2
    refine bodyPost_ret (v := .tuple #[.agg #[.int .i64 v0, .int .i64 v1, .int .i64 v2, .int .i64 v3, .int .i64 v4], .int .i64 k1, .int .i64 k2]) (by simp [results, Tryz.results19, go_sem, q0, q1, q2, q3, q4]) rfl ⟨k2, rfl, ?_⟩
    rw [← hC]
    exact ((((hBY.setCell (Nat.le_refl _) _).setCell (Nat.le_refl _) _).setCell (Nat.le_refl _) _).setCell (Nat.le_refl _) _).setCell (Nat.le_refl _) _
end Go.Proofs.YtafaacliphdndaaGreatDoor
