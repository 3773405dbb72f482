/- PlanPath, walked. -/
import Derived.Test.YtldcjmnboagnkaaDoorPlnR
namespace Go.Proofs.YtldcjmnboagnkaaDoor
open Go.RowKit Go.Shelf
set_option linter.unusedVariables false
set_option linter.unusedSimpArgs false

/-- a row of numbers in memory -/
def RwF (a : Option Addr) (L : Nat) (f : Nat → Nat) (W : World) : Prop := ∀ j, j < L → ∃ g, a = some ⟨g, 0, none⟩ ∧ W.cell? ⟨g, j, none⟩ = some (.int .i64 ((f j : Nat) : Int))
theorem RwF.step {a : Option Addr} {L : Nat} {f : Nat → Nat} {W W' : World} (h : RwF a L f W) (hb : Below W.heap.size W W') : RwF a L f W' := fun j hj => let ⟨g, e, c⟩ := h j hj; ⟨g, e, (hb.cell (World.block_lt_of_cell? W _ c)).trans c⟩
/-- the path as it is told -/
structure PtF (P : List Tk) (L : Nat) (f : Nat → Nat) : Prop where
  pos : 0 < L
  le : L ≤ P.length
  all : ∀ j, j < L → f j < P.length ∧ f j ∈ crN P P.length
  first : (eS P (f 0)).1 = (tk P (f 0)).nb
  last : (eS P (f (L - 1))).2 = eN P
  seq : ∀ j, j + 1 < L → ∃ x ∈ (tk P (f (j + 1))).links, x.t = (f j : Nat) ∧ (eS P (f j)).1 + gp P (f (j + 1)) x = (eS P (f (j + 1))).1
theorem paV_R {w w' : World} {P : List Tk} {v : Value} (h : PaV w w' P v) (hn : 0 < P.length) : ∃ (a : Option Addr) (c L : Nat) (f : Nat → Nat), v = .slice a L c ∧ 0 < L ∧ RwF a L f w' ∧ (Fit P → PtF P L f) := by
  obtain ⟨b, p, a, h1, h2, h3, h4, h5⟩ := h.2 hn
  obtain ⟨ra, rc, rfl, hrow⟩ := row_form h2
  exact ⟨ra, rc, _, fun j => (p ++ [a]).reverse.getD j 0, rfl, by simp, hrow, fun hf => let R := pathR hf hn h3 h4 h5; ⟨R.pos, R.le, R.all, R.first, R.last, R.seq⟩⟩
theorem crV_R {w w' : World} {P : List Tk} {v : Value} (h : CrV w w' P v) : ∃ (a : Option Addr) (c L : Nat) (f : Nat → Nat), v = .slice a L c ∧ L ≤ P.length ∧ RwF a L f w' ∧ ∀ t ∈ crN P P.length, ∃ j, j < L ∧ f j = t := by
  obtain ⟨b, h1, h2⟩ := h
  obtain ⟨ra, rc, rfl, hrow⟩ := row_form h2
  refine ⟨ra, rc, _, fun j => (crN P P.length).getD j 0, rfl, crN_len _ _, hrow, fun t ht => ?_⟩
  obtain ⟨j, hj, rfl⟩ := List.getElem_of_mem ht
  exact ⟨j, hj, by show (crN P P.length).getD j 0 = _; rw [List.getD_eq_getElem?_getD, List.getElem?_eq_getElem hj]; rfl⟩
set_option maxRecDepth 100000 in
set_option maxHeartbeats 4000000 in
theorem path_no (P : List Tk) (v : Value) (w : World) (hd : Hd w) (hv : TsAt w v P) (h2 : ¬ 200 < P.length) (hk : chkP P ≠ 0) :
    Calls Tryd.prog 6 #[v] w fun e w' => e = .returned (.bool true) ∧ Below w.heap.size w w' := by
  have KE := hide (ppath_any P v w hd hv)
  have KC := hide (fun W (hb : Below w.heap.size w W) => pcheck_any P v W (hd.later hb) (hv.below hb))
  have h2i : ¬ (200 : Int) < (P.length : Int) := by omega
  obtain ⟨ad, c, rfl, _⟩ := hv
  clear hd
  generalize chkP P = k at *
  go_enter Tryd.func6, Tryd.ntmps6
  go_wp2_with (first
    | (go_at_call 17; refine KE.out.mono ?_; rintro e W1 ⟨u, rfl, hs, b1⟩; have HB1 := hide b1)
    | (go_at_call 19; refine (KC.out _ HB1.out).mono ?_; rintro e W2 ⟨rfl, b2⟩))
  go_ret
  exact ⟨ret_bool (by simp), HB1.out.trans (b2.mono HB1.out.size)⟩
set_option maxRecDepth 100000 in
theorem path_nil (v : Value) (w : World) (hd : Hd w) (hv : TsAt w v []) (hk : chkP [] = 0) :
    Calls Tryd.prog 6 #[v] w fun e w' => e = .returned (.bool true) ∧ Below w.heap.size w w' := by
  have KP := hide (ppath_any [] v w hd hv)
  have KC := hide (fun W (hb : Below w.heap.size w W) => pcheck_any [] v W (hd.later hb) (hv.below hb))
  have KE := hide (fun W (hb : Below w.heap.size w W) => pearly_any [] v W (hd.later hb) (hv.below hb))
  have KN := hide (fun W (hb : Below w.heap.size w W) => pend_any [] v W (hd.later hb) (hv.below hb))
  have KR := hide (fun W (hb : Below w.heap.size w W) => pcrit_any [] v W (hd.later hb) (hv.below hb))
  have en : eNv [] = 0 := by unfold eNv; rw [if_pos hk]; unfold eN; rfl
  obtain ⟨ad, c, rfl, _⟩ := hv
  clear hd
  rw [hk] at KP
  simp only [hk] at KC KE KR
  simp only [hk, en] at KN
  simp only [List.length_nil] at KP KC KE KN KR ⊢
  go_enter Tryd.func6, Tryd.ntmps6
  go_wp2_with (first
    | (go_at_call 17; refine KP.out.mono ?_; rintro e W1 ⟨u, rfl, hs, b1⟩; obtain rfl := (by first | exact hs rfl | exact hs trivial : PaV _ _ _ _).1 rfl; have HB1 := hide b1; clear hs b1)
    | (go_at_call 19; refine (KC.out _ HB1.out).mono ?_; rintro e W2 ⟨rfl, b2⟩; have HB2 := hide (HB1.out.trans (b2.mono HB1.out.size)); clear b2)
    | (go_at_call 8; refine (KE.out _ HB2.out).mono ?_; rintro e W3 ⟨u3, rfl, hs, hf, b3⟩; obtain ⟨q, rfl, _, _⟩ := hs.1 rfl; have HB3 := hide (HB2.out.trans (b3.mono HB2.out.size)); clear hs hf b3)
    | (go_at_call 10; refine (KN.out _ HB3.out).mono ?_; rintro e W4 ⟨rfl, b4⟩; have HB4 := hide (HB3.out.trans (b4.mono HB3.out.size)); clear b4)
    | (go_at_call 15; refine (KR.out _ HB4.out).mono ?_; rintro e W5 ⟨u5, rfl, hs, b5⟩; obtain ⟨_, _, ho⟩ := (by first | exact hs rfl | exact hs trivial : CrV _ _ _ _); obtain ⟨a5, c5, rfl, _⟩ := row_form ho; have HB5 := hide (HB4.out.trans (b5.mono HB4.out.size)); clear hs b5 ho))
  go_ret
  exact ⟨rfl, HB5.out⟩
end Go.Proofs.YtldcjmnboagnkaaDoor
