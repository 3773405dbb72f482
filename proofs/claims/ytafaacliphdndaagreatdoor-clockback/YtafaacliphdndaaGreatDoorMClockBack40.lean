/- package clock's reader: period, with a clock behind its days. -/
import Derived.Test.YtafaacliphdndaaGreatDoorMClockBack39
import Derived.Deep.RegionWith
namespace Go.Proofs.YtafaacliphdndaaGreatDoor
open Go.RowKit Go.Shelf
set_option linter.unusedVariables false
set_option linter.unusedSimpArgs false

def ps1 (y m n d : Option Nat) : List (Option Nat × UInt8) := [(y, 89), (m, 77), (n, 87), (d, 68)]
def ps2 (h m s : Option Nat) : List (Option Nat × UInt8) := [(h, 72), (m, 77), (s, 83)]
/-- what period leaves where a number has too many digits -/
def PErr (b : Nat) (w : World) (e : Ending) (w' : World) : Prop := ∃ B, e = .returned (.tuple #[.agg #[.int .i64 0, .int .i64 0, .int .i64 0, .int .i64 0, .int .i64 0], .iface 106 (.pointer (some ⟨B, 0, none⟩))]) ∧ AtB B w' ∧ w.heap.size ≤ B ∧ Mv b w w'
theorem five_mv {b C : Nat} {W W' : World} {v0 v1 v2 v3 v4 : Value} (hm : Mv b W W') (hne : C ≠ b) (h : (W.cell? ⟨C, 0, none⟩ = some v0 ∧ W.cell? ⟨C, 1, none⟩ = some v1 ∧ W.cell? ⟨C, 2, none⟩ = some v2 ∧ W.cell? ⟨C, 3, none⟩ = some v3 ∧ W.cell? ⟨C, 4, none⟩ = some v4) ∧ (∀ j, W.frozen? ⟨C, j, none⟩ = false) ∧ C < W.heap.size) :
    (W'.cell? ⟨C, 0, none⟩ = some v0 ∧ W'.cell? ⟨C, 1, none⟩ = some v1 ∧ W'.cell? ⟨C, 2, none⟩ = some v2 ∧ W'.cell? ⟨C, 3, none⟩ = some v3 ∧ W'.cell? ⟨C, 4, none⟩ = some v4) ∧ (∀ j, W'.frozen? ⟨C, j, none⟩ = false) ∧ C < W'.heap.size := by
  obtain ⟨⟨h0, h1, h2, h3, h4⟩, hf, hl⟩ := h
  exact ⟨⟨(hm.cell (p := ⟨C, 0, none⟩) hl hne).trans h0, (hm.cell (p := ⟨C, 1, none⟩) hl hne).trans h1, (hm.cell (p := ⟨C, 2, none⟩) hl hne).trans h2, (hm.cell (p := ⟨C, 3, none⟩) hl hne).trans h3, (hm.cell (p := ⟨C, 4, none⟩) hl hne).trans h4⟩, fun j => (hm.frozen (p := ⟨C, j, none⟩) hl hne).trans (hf j), Nat.lt_of_lt_of_le hl hm.size⟩
theorem five_below {C : Nat} {W W' : World} {v0 v1 v2 v3 v4 : Value} (hm : Below W.heap.size W W') (h : (W.cell? ⟨C, 0, none⟩ = some v0 ∧ W.cell? ⟨C, 1, none⟩ = some v1 ∧ W.cell? ⟨C, 2, none⟩ = some v2 ∧ W.cell? ⟨C, 3, none⟩ = some v3 ∧ W.cell? ⟨C, 4, none⟩ = some v4) ∧ (∀ j, W.frozen? ⟨C, j, none⟩ = false) ∧ C < W.heap.size) :
    (W'.cell? ⟨C, 0, none⟩ = some v0 ∧ W'.cell? ⟨C, 1, none⟩ = some v1 ∧ W'.cell? ⟨C, 2, none⟩ = some v2 ∧ W'.cell? ⟨C, 3, none⟩ = some v3 ∧ W'.cell? ⟨C, 4, none⟩ = some v4) ∧ (∀ j, W'.frozen? ⟨C, j, none⟩ = false) ∧ C < W'.heap.size := by
  obtain ⟨⟨h0, h1, h2, h3, h4⟩, hf, hl⟩ := h
  exact ⟨⟨(hm.cell (p := ⟨C, 0, none⟩) hl).trans h0, (hm.cell (p := ⟨C, 1, none⟩) hl).trans h1, (hm.cell (p := ⟨C, 2, none⟩) hl).trans h2, (hm.cell (p := ⟨C, 3, none⟩) hl).trans h3, (hm.cell (p := ⟨C, 4, none⟩) hl).trans h4⟩, fun j => (hm.frozen (p := ⟨C, j, none⟩) hl).trans (hf j), Nat.lt_of_lt_of_le hl hm.size⟩
/-- five stores into a new block: what the reader knows stays -/
theorem five_set {b C : Nat} {s : ByteArray} {k : Nat} {w W : World} (v0 v1 v2 v3 v4 : Value) (hC : w.heap.size ≤ C) (hne : C ≠ b) (hr : Rd b s k W) (hm : Mv b w W) :
    Rd b s k (((((W.setCell ⟨C, 0, none⟩ v0).setCell ⟨C, 1, none⟩ v1).setCell ⟨C, 2, none⟩ v2).setCell ⟨C, 3, none⟩ v3).setCell ⟨C, 4, none⟩ v4) ∧ Mv b w (((((W.setCell ⟨C, 0, none⟩ v0).setCell ⟨C, 1, none⟩ v1).setCell ⟨C, 2, none⟩ v2).setCell ⟨C, 3, none⟩ v3).setCell ⟨C, 4, none⟩ v4) :=
  ⟨((((hr.other C 0 _ hne).other C 1 _ hne).other C 2 _ hne).other C 3 _ hne).other C 4 _ hne, ((((hm.setNew C 0 _ hC).setNew C 1 _ hC).setNew C 2 _ hC).setNew C 3 _ hC).setNew C 4 _ hC⟩
theorem mv_set5 {b C : Nat} {w W : World} (v0 v1 v2 v3 v4 : Value) (hC : w.heap.size ≤ C) (hm : Mv b w W) :
    Mv b w (((((W.setCell ⟨C, 0, none⟩ v0).setCell ⟨C, 1, none⟩ v1).setCell ⟨C, 2, none⟩ v2).setCell ⟨C, 3, none⟩ v3).setCell ⟨C, 4, none⟩ v4) :=
  ((((hm.setNew C 0 _ hC).setNew C 1 _ hC).setNew C 2 _ hC).setNew C 3 _ hC).setNew C 4 _ hC
theorem at_set5 {B C : Nat} {W : World} (v0 v1 v2 v3 v4 : Value) (hne : B ≠ C) (h : AtB B W) :
    AtB B (((((W.setCell ⟨C, 0, none⟩ v0).setCell ⟨C, 1, none⟩ v1).setCell ⟨C, 2, none⟩ v2).setCell ⟨C, 3, none⟩ v3).setCell ⟨C, 4, none⟩ v4) := by
  have g : ∀ (V : World) (o : Nat) (v : Value), AtB B V → AtB B (V.setCell ⟨C, o, none⟩ v) := fun V o v hV => by
    obtain ⟨h0, ⟨k, h1⟩, hl⟩ := hV
    exact ⟨by rw [World.cell?_setCell_other _ _ _ _ (by simp <;> omega)]; exact h0, ⟨k, by rw [World.cell?_setCell_other _ _ _ _ (by simp <;> omega)]; exact h1⟩, by rw [World.size_setCell]; exact hl⟩
  exact g _ _ _ (g _ _ _ (g _ _ _ (g _ _ _ (g _ _ _ h))))
theorem five_read {C : Nat} {W : World} (u0 u1 u2 u3 u4 v0 v1 v2 v3 v4 : Value) (h0 : W.cell? ⟨C, 0, none⟩ = some u0) (h1 : W.cell? ⟨C, 1, none⟩ = some u1) (h2 : W.cell? ⟨C, 2, none⟩ = some u2) (h3 : W.cell? ⟨C, 3, none⟩ = some u3) (h4 : W.cell? ⟨C, 4, none⟩ = some u4) :
    (((((W.setCell ⟨C, 0, none⟩ v0).setCell ⟨C, 1, none⟩ v1).setCell ⟨C, 2, none⟩ v2).setCell ⟨C, 3, none⟩ v3).setCell ⟨C, 4, none⟩ v4).cell? ⟨C, 0, none⟩ = some v0 ∧
    (((((W.setCell ⟨C, 0, none⟩ v0).setCell ⟨C, 1, none⟩ v1).setCell ⟨C, 2, none⟩ v2).setCell ⟨C, 3, none⟩ v3).setCell ⟨C, 4, none⟩ v4).cell? ⟨C, 1, none⟩ = some v1 ∧
    (((((W.setCell ⟨C, 0, none⟩ v0).setCell ⟨C, 1, none⟩ v1).setCell ⟨C, 2, none⟩ v2).setCell ⟨C, 3, none⟩ v3).setCell ⟨C, 4, none⟩ v4).cell? ⟨C, 2, none⟩ = some v2 ∧
    (((((W.setCell ⟨C, 0, none⟩ v0).setCell ⟨C, 1, none⟩ v1).setCell ⟨C, 2, none⟩ v2).setCell ⟨C, 3, none⟩ v3).setCell ⟨C, 4, none⟩ v4).cell? ⟨C, 3, none⟩ = some v3 ∧
    (((((W.setCell ⟨C, 0, none⟩ v0).setCell ⟨C, 1, none⟩ v1).setCell ⟨C, 2, none⟩ v2).setCell ⟨C, 3, none⟩ v3).setCell ⟨C, 4, none⟩ v4).cell? ⟨C, 4, none⟩ = some v4 := by
  have o : ∀ (V : World) (i j : Nat) (v : Value), i ≠ j → (V.setCell ⟨C, i, none⟩ v).cell? ⟨C, j, none⟩ = V.cell? ⟨C, j, none⟩ := fun V i j v hij => World.cell?_setCell_other _ _ _ _ (by simp [hij])
  refine ⟨?_, ?_, ?_, ?_, ?_⟩
  · rw [o _ 4 0 _ (by decide), o _ 3 0 _ (by decide), o _ 2 0 _ (by decide), o _ 1 0 _ (by decide)]; exact World.cell?_setCell_same _ _ _ h0
  · rw [o _ 4 1 _ (by decide), o _ 3 1 _ (by decide), o _ 2 1 _ (by decide)]; exact World.cell?_setCell_same _ _ _ ((o _ 0 1 _ (by decide)).trans h1)
  · rw [o _ 4 2 _ (by decide), o _ 3 2 _ (by decide)]; exact World.cell?_setCell_same _ _ _ ((o _ 1 2 _ (by decide)).trans ((o _ 0 2 _ (by decide)).trans h2))
  · rw [o _ 4 3 _ (by decide)]; exact World.cell?_setCell_same _ _ _ ((o _ 2 3 _ (by decide)).trans ((o _ 1 3 _ (by decide)).trans ((o _ 0 3 _ (by decide)).trans h3)))
  · exact World.cell?_setCell_same _ _ _ ((o _ 3 4 _ (by decide)).trans ((o _ 2 4 _ (by decide)).trans ((o _ 1 4 _ (by decide)).trans ((o _ 0 4 _ (by decide)).trans h4))))
theorem segL_dig : ∀ (ps : List (Option Nat × UInt8)), (segL ps).length = 0 → segL ps = [] := fun ps h => List.eq_nil_of_length_eq_zero h
set_option maxRecDepth 100000 in
set_option maxHeartbeats 8000000 in
theorem period_days (b : Nat) (s : ByteArray) (k : Nat) (y m n d : Option Nat) (w : World) (h : Rd b s k w) (hs : s.size ≤ 1000000000) (hP : Tx.Seg s k (80 :: segL (ps1 y m n d))) (hstop : Stp s (k + 1 + (segL (ps1 y m n d)).length)) (hT : Nx s (k + 1 + (segL (ps1 y m n d)).length) 84 false) (hne : segL (ps1 y m n d) ≠ []) :
    Calls Tryz.prog 66 #[.pointer (some ⟨b, 0, none⟩)] w fun e w' =>
      ((y.getD 0 ≤ 99999999 ∧ m.getD 0 ≤ 99999999 ∧ n.getD 0 ≤ 99999999 ∧ d.getD 0 ≤ 99999999) ∧ e = .returned (.tuple #[.agg #[.int .i64 (y.getD 0), .int .i64 (m.getD 0), .int .i64 (n.getD 0), .int .i64 (d.getD 0), .int .i64 0], .nilIface]) ∧ Rd b s (k + 1 + (segL (ps1 y m n d)).length) w' ∧ Mv b w w') ∨
      ((∃ p ∈ ps1 y m n d, ∃ v, p.1 = some v ∧ 99999999 < v) ∧ PErr b w e w') := by
  have hle := hP.le
  rw [List.length_cons] at hle
  have K1 := hide (fun W hW => want_yes b s k 80 W hW hs (Nx.yes hP) (by omega))
  have K2 := hide (fun W hW => counts_any b s ⟨#[89, 77, 87, 68]⟩ (k + 1) 4 (ps1 y m n d) W hW hs rfl rfl (.inl rfl) (by simp [ps1]) hP.tail hstop (by
    intro p hp
    simp only [ps1, List.mem_cons, List.not_mem_nil, or_false] at hp
    rcases hp with rfl | rfl | rfl | rfl <;> simp))
  have K3 := hide (fun W hW => skip_any b s (k + 1 + (segL (ps1 y m n d)).length) 84 false W hW hs hT (by omega))
  have hpos : 0 < (segL (ps1 y m n d)).length := by
    rcases Nat.eq_zero_or_pos (segL (ps1 y m n d)).length with e | e
    · exact absurd (List.eq_nil_of_length_eq_zero e) hne
    · exact e
  have hv0 : ((ps1 y m n d).getD 0 (none, 0)).1 = y := rfl
  have hv1 : ((ps1 y m n d).getD 1 (none, 0)).1 = m := rfl
  have hv2 : ((ps1 y m n d).getD 2 (none, 0)).1 = n := rfl
  have hv3 : ((ps1 y m n d).getD 3 (none, 0)).1 = d := rfl
  clear hP hstop hT hne
  generalize (segL (ps1 y m n d)).length = len at *
  generalize ps1 y m n d = ps at *
  have hCb : w.heap.size ≠ b := by have := h.lt; omega
  have hA : Rd b s k (w.alloc (.cells #[.int .i64 0, .int .i64 0, .int .i64 0, .int .i64 0, .int .i64 0] 24)) := h.later ((Below.refl _ w).alloc (Nat.le_refl _) _)
  have hMA : Mv b w (w.alloc (.cells #[.int .i64 0, .int .i64 0, .int .i64 0, .int .i64 0, .int .i64 0] 24)) := Mv.of_below ((Below.refl _ w).alloc (Nat.le_refl _) _)
  have hfive := box5 w (w.alloc (.cells #[.int .i64 0, .int .i64 0, .int .i64 0, .int .i64 0, .int .i64 0] 24)) _ _ _ _ _ _ (Below.refl _ _)
  go_enter Tryz.func66, Tryz.ntmps66
  go_wp2_with fail
  refine (K1.out _ hA).mono ?_
  rintro e W1 ⟨rfl, hr1, hm1⟩
  have hf1 := five_mv hm1 hCb hfive
  have hM1 := hide (hMA.trans hm1)
  have hc1 := hr1.c1
  clear hm1 hMA hA hfive
  go_wp2_with fail
  refine (K2.out _ hr1).mono ?_
  rintro e W2 h2
  rcases h2 with ⟨S, rfl, hcs, hbd, hr2, hm2, hS1, hS2⟩ | ⟨hbig, B, rfl, hAt, hB, hm2⟩
  · have s0 : W2.cell? ⟨S, 0, none⟩ = some (.int .i64 (y.getD 0)) := by rw [hcs 0 (by omega), hv0]
    have s1 : W2.cell? ⟨S, 1, none⟩ = some (.int .i64 (m.getD 0)) := by rw [hcs 1 (by omega), hv1]
    have s2 : W2.cell? ⟨S, 2, none⟩ = some (.int .i64 (n.getD 0)) := by rw [hcs 2 (by omega), hv2]
    have s3 : W2.cell? ⟨S, 3, none⟩ = some (.int .i64 (d.getD 0)) := by rw [hcs 3 (by omega), hv3]
    have hNB : y.getD 0 ≤ 99999999 ∧ m.getD 0 ≤ 99999999 ∧ n.getD 0 ≤ 99999999 ∧ d.getD 0 ≤ 99999999 := ⟨by have := hbd 0 (by omega); rw [hv0] at this; exact this, by have := hbd 1 (by omega); rw [hv1] at this; exact this, by have := hbd 2 (by omega); rw [hv2] at this; exact this, by have := hbd 3 (by omega); rw [hv3] at this; exact this⟩
    have HNB := hide hNB
    have hf2 := five_mv hm2 hCb hf1
    have hM2 := hide (hM1.out.trans hm2)
    clear hcs hbd hm2 hf1 hM1 hv0 hv1 hv2 hv3 hNB
    generalize hY : (y.getD 0) = Y at *
    have HY := hide hY
    clear hY
    generalize hM : (m.getD 0) = M at *
    have HM := hide hM
    clear hM
    generalize hN : (n.getD 0) = N at *
    have HN := hide hN
    clear hN
    generalize hD : (d.getD 0) = D at *
    have HD := hide hD
    clear hD
    go_wp2_with fail
    go_region
    all_goals
      have hbel : Below W2.heap.size W2 (W2.alloc (.cells #[.int .i64 Y, .int .i64 M, .int .i64 N, .int .i64 D, .int .i64 0] 24)).drew := Below.drew ((Below.refl _ W2).alloc (Nat.le_refl _) _)
      have hr3 := hr2.later hbel
      have hf3 := five_below hbel hf2
      have hM3 := hM2.out.trans (Mv.of_below hbel)
      have hg3 := box5 W2 (W2.alloc (.cells #[.int .i64 Y, .int .i64 M, .int .i64 N, .int .i64 D, .int .i64 0] 24)).drew _ _ _ _ _ _ (Below.drew (Below.refl _ _))
      have hcb : W2.heap.size ≠ b := by have := hr2.lt; omega
      clear hbel
      go_wp2_with fail
      refine (K3.out _ hr3).mono ?_
      rintro e W4 ⟨rfl, hr4, hm4⟩
      obtain ⟨⟨f0, f1, f2, f3, f4⟩, ff, fl⟩ := five_mv hm4 hCb hf3
      obtain ⟨⟨g0, g1, g2, g3, g4⟩, gf, gl⟩ := five_mv hm4 hcb hg3
      have hM4 := hide (hM3.trans hm4)
      have HR4 := hide hr4
      obtain ⟨r0, r1, rf, rl⟩ := hr4
      simp only [if_neg (show ¬ (false = true) by decide)] at r1
      have hq : ((k : Int) + 1 + (len : Int) == (k : Int) + 1) = false := by simp; omega
      have hq2 : (((k + 1 + len : Nat) : Int) == (k : Int) + 1) = false := by simp; omega
      clear hf3 hg3 hm4 hf2
      go_wp2_with fail
      obtain ⟨e1, e2⟩ := five_set (.int .i64 Y) (.int .i64 M) (.int .i64 N) (.int .i64 D) (.int .i64 0) (Nat.le_refl _) hCb HR4.out hM4.out
      refine bodyPost_ret (v := .tuple #[.agg #[.int .i64 Y, .int .i64 M, .int .i64 N, .int .i64 D, .int .i64 0], .nilIface]) (by simp [results, Tryz.results66, go_sem, f0, f1, f2, f3, f4]) rfl (.inl ⟨by rw [HY.out, HM.out, HN.out, HD.out]; exact HNB.out, by rw [HY.out, HM.out, HN.out, HD.out], e1, e2⟩)
  · have hf2 := five_mv hm2 hCb hf1
    have hM2 := hide (hM1.out.trans hm2)
    have hb1 := hf1.2.2
    clear hm2 hf1 hM1 hv0 hv1 hv2 hv3
    obtain ⟨⟨f0, f1, f2, f3, f4⟩, ff, fl⟩ := hf2
    go_wp2_with fail
    refine bodyPost_ret (v := .tuple #[.agg #[.int .i64 0, .int .i64 0, .int .i64 0, .int .i64 0, .int .i64 0], .iface 106 (.pointer (some ⟨B, 0, none⟩))]) (by simp [results, Tryz.results66, go_sem, f0, f1, f2, f3, f4]) rfl (.inr ⟨hbig, B, rfl, ?_, by omega, ?_⟩)
    · exact at_set5 _ _ _ _ _ (by omega) hAt
    · exact mv_set5 _ _ _ _ _ (Nat.le_refl _) hM2.out
end Go.Proofs.YtafaacliphdndaaGreatDoor
namespace Go.Proofs.YtafaacliphdndaaGreatDoor
open Go.RowKit Go.Shelf
set_option linter.unusedVariables false
set_option linter.unusedSimpArgs false

set_option maxRecDepth 100000 in
set_option maxHeartbeats 16000000 in
theorem period_secs (b : Nat) (s : ByteArray) (k : Nat) (y m n d hh mm ss : Option Nat) (w : World) (h : Rd b s k w) (hs : s.size ≤ 1000000000) (hP : Tx.Seg s k (80 :: (segL (ps1 y m n d) ++ 84 :: segL (ps2 hh mm ss)))) (hstop : Stp s (k + 1 + (segL (ps1 y m n d)).length + 1 + (segL (ps2 hh mm ss)).length)) (hne : segL (ps2 hh mm ss) ≠ []) :
    Calls Tryz.prog 66 #[.pointer (some ⟨b, 0, none⟩)] w fun e w' =>
      (((y.getD 0 ≤ 99999999 ∧ m.getD 0 ≤ 99999999 ∧ n.getD 0 ≤ 99999999 ∧ d.getD 0 ≤ 99999999) ∧ hh.getD 0 ≤ 99999999) ∧ e = .returned (.tuple #[.agg #[.int .i64 (y.getD 0), .int .i64 (m.getD 0), .int .i64 (n.getD 0), .int .i64 (d.getD 0), .int .i64 (3600 * (hh.getD 0 : Int) + 60 * (mm.getD 0 : Int) + (ss.getD 0 : Int))], .nilIface]) ∧ Rd b s (k + 1 + (segL (ps1 y m n d)).length + 1 + (segL (ps2 hh mm ss)).length) w' ∧ Mv b w w') ∨
      ((∃ p ∈ ps1 y m n d ++ ps2 hh mm ss, ∃ v, p.1 = some v ∧ 99999999 < v) ∧ PErr b w e w') := by
  have hle := hP.le
  rw [List.length_cons, List.length_append, List.length_cons] at hle
  have hQ := hP.tail.right
  have K1 := hide (fun W hW => want_yes b s k 80 W hW hs (Nx.yes hP) (by omega))
  have K2 := hide (fun W hW => counts_any b s ⟨#[89, 77, 87, 68]⟩ (k + 1) 4 (ps1 y m n d) W hW hs rfl rfl (.inl rfl) (by simp [ps1]) hP.tail.left (Stp.of hQ (.inr (by decide))) (by
    intro p hp
    simp only [ps1, List.mem_cons, List.not_mem_nil, or_false] at hp
    rcases hp with rfl | rfl | rfl | rfl <;> simp))
  have K3 := hide (fun W hW => skip_any b s (k + 1 + (segL (ps1 y m n d)).length) 84 true W hW hs (Nx.yes hQ) (by omega))
  have K4 := hide (fun W hW => counts_any b s ⟨#[72, 77, 83]⟩ (k + 1 + (segL (ps1 y m n d)).length + 1) 3 (ps2 hh mm ss) W hW hs rfl rfl (.inr rfl) (by simp [ps2]) hQ.tail hstop (by
    intro p hp
    simp only [ps2, List.mem_cons, List.not_mem_nil, or_false] at hp
    rcases hp with rfl | rfl | rfl <;> simp))
  have hpos : 0 < (segL (ps2 hh mm ss)).length := by
    rcases Nat.eq_zero_or_pos (segL (ps2 hh mm ss)).length with e | e
    · exact absurd (List.eq_nil_of_length_eq_zero e) hne
    · exact e
  have hv0 : ((ps1 y m n d).getD 0 (none, 0)).1 = y := rfl
  have hv1 : ((ps1 y m n d).getD 1 (none, 0)).1 = m := rfl
  have hv2 : ((ps1 y m n d).getD 2 (none, 0)).1 = n := rfl
  have hv3 : ((ps1 y m n d).getD 3 (none, 0)).1 = d := rfl
  have hu0 : ((ps2 hh mm ss).getD 0 (none, 0)).1 = hh := rfl
  have hu1 : ((ps2 hh mm ss).getD 1 (none, 0)).1 = mm := rfl
  have hu2 : ((ps2 hh mm ss).getD 2 (none, 0)).1 = ss := rfl
  clear hP hstop hne hQ
  generalize (segL (ps1 y m n d)).length = len at *
  generalize (segL (ps2 hh mm ss)).length = len2 at *
  generalize ps1 y m n d = ps at *
  generalize ps2 hh mm ss = qs at *
  have hCb : w.heap.size ≠ b := by have := h.lt; omega
  have hA : Rd b s k (w.alloc (.cells #[.int .i64 0, .int .i64 0, .int .i64 0, .int .i64 0, .int .i64 0] 24)) := h.later ((Below.refl _ w).alloc (Nat.le_refl _) _)
  have hMA : Mv b w (w.alloc (.cells #[.int .i64 0, .int .i64 0, .int .i64 0, .int .i64 0, .int .i64 0] 24)) := Mv.of_below ((Below.refl _ w).alloc (Nat.le_refl _) _)
  have hfive := box5 w (w.alloc (.cells #[.int .i64 0, .int .i64 0, .int .i64 0, .int .i64 0, .int .i64 0] 24)) _ _ _ _ _ _ (Below.refl _ _)
  go_enter Tryz.func66, Tryz.ntmps66
  go_wp2_with fail
  refine (K1.out _ hA).mono ?_
  rintro e W1 ⟨rfl, hr1, hm1⟩
  have hf1 := five_mv hm1 hCb hfive
  have hM1 := hide (hMA.trans hm1)
  have hc1 := hr1.c1
  clear hm1 hMA hA hfive
  go_wp2_with fail
  refine (K2.out _ hr1).mono ?_
  rintro e W2 h2
  rcases h2 with ⟨S, rfl, hcs, hbd, hr2, hm2, hS1, hS2⟩ | ⟨hbig, B, rfl, hAt, hB, hm2⟩
  · have s0 : W2.cell? ⟨S, 0, none⟩ = some (.int .i64 (y.getD 0)) := by rw [hcs 0 (by omega), hv0]
    have s1 : W2.cell? ⟨S, 1, none⟩ = some (.int .i64 (m.getD 0)) := by rw [hcs 1 (by omega), hv1]
    have s2 : W2.cell? ⟨S, 2, none⟩ = some (.int .i64 (n.getD 0)) := by rw [hcs 2 (by omega), hv2]
    have s3 : W2.cell? ⟨S, 3, none⟩ = some (.int .i64 (d.getD 0)) := by rw [hcs 3 (by omega), hv3]
    have hNB : y.getD 0 ≤ 99999999 ∧ m.getD 0 ≤ 99999999 ∧ n.getD 0 ≤ 99999999 ∧ d.getD 0 ≤ 99999999 := ⟨by have := hbd 0 (by omega); rw [hv0] at this; exact this, by have := hbd 1 (by omega); rw [hv1] at this; exact this, by have := hbd 2 (by omega); rw [hv2] at this; exact this, by have := hbd 3 (by omega); rw [hv3] at this; exact this⟩
    have HNB := hide hNB
    have hf2 := five_mv hm2 hCb hf1
    have hM2 := hide (hM1.out.trans hm2)
    clear hcs hbd hm2 hf1 hv0 hv1 hv2 hv3 hNB
    generalize hY : (y.getD 0) = Y at *
    have HY := hide hY
    clear hY
    generalize hM : (m.getD 0) = M at *
    have HM := hide hM
    clear hM
    generalize hN : (n.getD 0) = N at *
    have HN := hide hN
    clear hN
    generalize hD : (d.getD 0) = D at *
    have HD := hide hD
    clear hD
    go_wp2_with fail
    go_region
    all_goals
      have hbel : Below W2.heap.size W2 (W2.alloc (.cells #[.int .i64 Y, .int .i64 M, .int .i64 N, .int .i64 D, .int .i64 0] 24)).drew := Below.drew ((Below.refl _ W2).alloc (Nat.le_refl _) _)
      have hr3 := hr2.later hbel
      have hf3 := five_below hbel hf2
      have hM3 := hM2.out.trans (Mv.of_below hbel)
      have hg3 := box5 W2 (W2.alloc (.cells #[.int .i64 Y, .int .i64 M, .int .i64 N, .int .i64 D, .int .i64 0] 24)).drew _ _ _ _ _ _ (Below.drew (Below.refl _ _))
      have hcb : W2.heap.size ≠ b := by have := hr2.lt; omega
      clear hbel
      go_wp2_with fail
      refine (K3.out _ hr3).mono ?_
      rintro e W4 ⟨rfl, hr4, hm4⟩
      simp only [if_true] at hr4
      have hf4 := five_mv hm4 hCb hf3
      have hg4 := five_mv hm4 hcb hg3
      have hM4 := hide (hM3.trans hm4)
      have hc4 := hr4.c1
      clear hf3 hg3 hm4 hf2 s0 s1 s2 s3
      go_wp2_with fail
      refine (K4.out _ hr4).mono ?_
      rintro e W5 h5
      rcases h5 with ⟨S2, rfl, hcs2, hbd2, hr5, hm5, hS3, hS4⟩ | ⟨hbig, B, rfl, hAt, hB, hm5⟩
      · have t0 : W5.cell? ⟨S2, 0, none⟩ = some (.int .i64 (hh.getD 0)) := by rw [hcs2 0 (by omega), hu0]
        have t1 : W5.cell? ⟨S2, 1, none⟩ = some (.int .i64 (mm.getD 0)) := by rw [hcs2 1 (by omega), hu1]
        have t2 : W5.cell? ⟨S2, 2, none⟩ = some (.int .i64 (ss.getD 0)) := by rw [hcs2 2 (by omega), hu2]
        have l0 : hh.getD 0 ≤ 99999999 := by have := hbd2 0 (by omega); rw [hu0] at this; exact this
        have l1 : mm.getD 0 ≤ 99999999 := by have := hbd2 1 (by omega); rw [hu1] at this; exact this
        have l2 : ss.getD 0 ≤ 99999999 := by have := hbd2 2 (by omega); rw [hu2] at this; exact this
        have hf5 := five_mv hm5 hCb hf4
        have hg5 := five_mv hm5 hcb hg4
        have hM5 := hide (hM4.out.trans hm5)
        clear hcs2 hbd2 hm5 hf4 hg4 hM4 hu0 hu1 hu2
        have HL0 := hide l0
        generalize hX0 : (hh.getD 0) = x0 at *
        generalize hX1 : (mm.getD 0) = x1 at *
        generalize hX2 : (ss.getD 0) = x2 at *
        have HX0 := hide hX0
        have HX1 := hide hX1
        have HX2 := hide hX2
        clear hX0 hX1 hX2
        have K5 := hide (fun W => seconds_any (x0 : Int) (x1 : Int) (x2 : Int) W (by omega) (by omega) (by omega) (by omega) (by omega) (by omega))
        have hr5' := hr5
        obtain ⟨q0, q1, qf, ql⟩ := hr5'
        have hg5' := hg5
        obtain ⟨⟨g0, g1, g2, g3, g4⟩, gf, gl⟩ := hg5'
        go_wp2_with fail
        go_region_with (go_at_call 92; refine (K5.out _).mono ?_; rintro e W6 ⟨rfl, hb6⟩; have hb7 : Below W5.heap.size W5 W6 := (below_drewN (Below.refl _ _) _).trans hb6; have hf6 := five_below hb7 hf5; have hr6 := hr5.later hb7; have hM6 := hM5.out.trans (Mv.of_below hb7); obtain ⟨⟨k0, k1, k2, k3, k4⟩, kf, kl⟩ := five_below hb7 hg5; clear hb6)
        all_goals
          have hw2 := hM2.out.size
          have hne2 : w.heap.size ≠ W2.heap.size := by have := hf5.2.2; have := hM1.out.size; omega
          obtain ⟨⟨f0, f1, f2, f3, f4⟩, ff, fl⟩ := hf6
          have hr7 := hr6.other W2.heap.size 4 (.int .i64 (3600 * (x0 : Int) + 60 * (x1 : Int) + (x2 : Int))) hcb
          have hM7 := hM6.setNew W2.heap.size 4 (.int .i64 (3600 * (x0 : Int) + 60 * (x1 : Int) + (x2 : Int))) hw2
          have hz1 := hr7.c1
          have hz6 := hr6.c1
          obtain ⟨e1, e2⟩ := five_set (.int .i64 Y) (.int .i64 M) (.int .i64 N) (.int .i64 D) (.int .i64 (3600 * (x0 : Int) + 60 * (x1 : Int) + (x2 : Int))) (Nat.le_refl _) hCb hr7 hM7
          have E1 := hide e1
          have E2 := hide e2
          have hq : ((k : Int) + 1 + (len : Int) + 1 + (len2 : Int) == (k : Int) + 1 + (len : Int) + 1) = false := by simp; omega
          have hq2 : (((k + 1 + len + 1 + len2 : Nat) : Int) == (k : Int) + 1 + (len : Int) + 1) = false := by simp; omega
          clear e1 e2 hM6 hM5 hf5 hg5 hr5 g0 g1 g2 g3 g4 gf gl q0 q1 qf ql t0 t1 t2 hb7
          have hoth : ∀ j, (W6.setCell ⟨W2.heap.size, 4, none⟩ (.int .i64 (3600 * (x0 : Int) + 60 * (x1 : Int) + (x2 : Int)))).cell? ⟨w.heap.size, j, none⟩ = W6.cell? ⟨w.heap.size, j, none⟩ := fun j => World.cell?_setCell_other _ _ _ _ (by simp [Ne.symm hne2])
          obtain ⟨z0, z1, z2, z3, z4⟩ := five_read _ _ _ _ _ (.int .i64 Y) (.int .i64 M) (.int .i64 N) (.int .i64 D) (.int .i64 (3600 * (x0 : Int) + 60 * (x1 : Int) + (x2 : Int))) ((hoth 0).trans f0) ((hoth 1).trans f1) ((hoth 2).trans f2) ((hoth 3).trans f3) ((hoth 4).trans f4)
          clear hoth
          go_wp2_with fail
          refine bodyPost_ret (v := .tuple #[.agg #[.int .i64 Y, .int .i64 M, .int .i64 N, .int .i64 D, .int .i64 (3600 * (x0 : Int) + 60 * (x1 : Int) + (x2 : Int))], .nilIface]) (by simp [results, Tryz.results66, go_sem, z0, z1, z2, z3, z4]) rfl (.inl ⟨by rw [HY.out, HM.out, HN.out, HD.out, HX0.out]; exact ⟨HNB.out, HL0.out⟩, by rw [HY.out, HM.out, HN.out, HD.out, HX0.out, HX1.out, HX2.out], E1.out, E2.out⟩)
      · have hf5 := five_mv hm5 hCb hf4
        have hM5 := hide (hM4.out.trans hm5)
        have hl4 := hf4.2.2
        clear hm5 hf4 hg4 hM4
        obtain ⟨⟨f0, f1, f2, f3, f4⟩, ff, fl⟩ := hf5
        have hbig2 : ∃ p ∈ ps ++ qs, ∃ v, p.1 = some v ∧ 99999999 < v := by
          obtain ⟨p, hp, hv⟩ := hbig
          exact ⟨p, List.mem_append_right _ hp, hv⟩
        go_wp2_with fail
        refine bodyPost_ret (v := .tuple #[.agg #[.int .i64 0, .int .i64 0, .int .i64 0, .int .i64 0, .int .i64 0], .iface 106 (.pointer (some ⟨B, 0, none⟩))]) (by simp [results, Tryz.results66, go_sem, f0, f1, f2, f3, f4]) rfl (.inr ⟨hbig2, B, rfl, ?_, by omega, ?_⟩)
        · exact at_set5 _ _ _ _ _ (by omega) hAt
        · exact mv_set5 _ _ _ _ _ (Nat.le_refl _) hM5.out
  · have hf2 := five_mv hm2 hCb hf1
    have hM2 := hide (hM1.out.trans hm2)
    have hb1 := hf1.2.2
    clear hm2 hf1 hM1 hv0 hv1 hv2 hv3
    obtain ⟨⟨f0, f1, f2, f3, f4⟩, ff, fl⟩ := hf2
    have hbig2 : ∃ p ∈ ps ++ qs, ∃ v, p.1 = some v ∧ 99999999 < v := by
      obtain ⟨p, hp, hv⟩ := hbig
      exact ⟨p, List.mem_append_left _ hp, hv⟩
    go_wp2_with fail
    refine bodyPost_ret (v := .tuple #[.agg #[.int .i64 0, .int .i64 0, .int .i64 0, .int .i64 0, .int .i64 0], .iface 106 (.pointer (some ⟨B, 0, none⟩))]) (by simp [results, Tryz.results66, go_sem, f0, f1, f2, f3, f4]) rfl (.inr ⟨hbig2, B, rfl, ?_, by omega, ?_⟩)
    · exact at_set5 _ _ _ _ _ (by omega) hAt
    · exact mv_set5 _ _ _ _ _ (Nat.le_refl _) hM2.out
end Go.Proofs.YtafaacliphdndaaGreatDoor
