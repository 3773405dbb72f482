/- PlanPath: the plain ones, the mathematics. -/
import Derived.Test.YtjmjabdokckdlaaDoorPlnQ
namespace Go.Proofs.YtjmjabdokckdlaaDoor
open Go.RowKit Go.Shelf
set_option linter.unusedVariables false
set_option linter.unusedSimpArgs false

theorem pcrit_any (P : List Tk) (v : Value) (w : World) (hd : Hd w) (hv : TsAt w v P) :
    Calls Tryd.prog 15 #[v] w fun e w' => ∃ u, e = .returned (.tuple #[u, .int .i64 (chkP P)]) ∧ (chkP P = 0 → CrV w w' P u) ∧ Below w.heap.size w w' := by
  have KC := hide (Critical_any P v w hv)
  have KT := hide (fun c X (h : Below w.heap.size w X) => tell_eP c X (hd.later h))
  obtain ⟨ad, cap, rfl, _⟩ := hv
  clear hd
  go_enter Tryd.func15, Tryd.ntmps15
  go_wp2_with (first
    | (go_at_call 34; refine KC.out.mono ?_; rintro e W1 ⟨u, rfl, hs, b1⟩; have HB1 := hide b1)
    | (go_at_call 28; refine (KT.out _ _ HB1.out).mono ?_; rintro e W2 ⟨rfl, b2⟩))
  go_ret2
  exact ⟨u, rfl, fun h => (hs h).step b2, HB1.out.trans (b2.mono HB1.out.size)⟩
theorem ppath_any (P : List Tk) (v : Value) (w : World) (hd : Hd w) (hv : TsAt w v P) :
    Calls Tryd.prog 17 #[v] w fun e w' => ∃ u, e = .returned (.tuple #[u, .int .i64 (chkP P)]) ∧ (chkP P = 0 → PaV w w' P u) ∧ Below w.heap.size w w' := by
  have KC := hide (Path_any P v w hv)
  have KT := hide (fun c X (h : Below w.heap.size w X) => tell_eP c X (hd.later h))
  obtain ⟨ad, cap, rfl, _⟩ := hv
  clear hd
  go_enter Tryd.func17, Tryd.ntmps17
  go_wp2_with (first
    | (go_at_call 35; refine KC.out.mono ?_; rintro e W1 ⟨u, rfl, hs, b1⟩; have HB1 := hide b1)
    | (go_at_call 28; refine (KT.out _ _ HB1.out).mono ?_; rintro e W2 ⟨rfl, b2⟩))
  go_ret2
  exact ⟨u, rfl, fun h => (hs h).step b2, HB1.out.trans (b2.mono HB1.out.size)⟩
theorem fit_end {P : List Tk} (h : Fit P) (hn : 0 < P.length) : (eS P (laI (eS P) P.length)).2 = eN P := by
  have h1 := (endS_ge (eS P) P.length).2 _ (laI_lt (eS P) P.length hn)
  have hl := laI_lt (eS P) P.length hn
  have h0 : 0 ≤ (eS P (laI (eS P) P.length)).2 := by
    have a := (h.fits _ hl).1
    have b := (earS_bd h.g h.t (laI (eS P) P.length)).1
    have c := h.g.len _ hl
    have e : eS P (laI (eS P) P.length) = earS P (ord P) (laI (eS P) P.length) := rfl
    rw [← e] at b
    omega
  have h2 := endS_le (eS P) _ h0 P.length (fun i hi => laI_ge (eS P) P.length i hi)
  have e : eN P = endS P.length (eS P) := rfl
  omega
/-- none is later in Early than in Late -/
theorem fit_slack {P : List Tk} (h : Fit P) (i : Nat) (hi : i < P.length) : (eS P i).1 ≤ (lS P (eN P) i).1 ∧ (lS P (eN P) i).1 ≤ eN P - (tk P i).len :=
  ⟨latS_most h.g (eN P) h.t (fun j => (eS P j).1) (fun j hj => ⟨by
      have a := (h.fits j hj).1
      have b := (endS_ge (eS P) P.length).2 j hj
      have e : eN P = endS P.length (eS P) := rfl
      omega, (h.fits j hj).2.2⟩) i hi, (latS_shape P (eN P) (ord P) i).2⟩
/-- what is told of a path -/
structure PtOk (P : List Tk) (p : List Nat) : Prop where
  all : ∀ j, j < p.length → p.getD j 0 < P.length ∧ crB P (p.getD j 0) = true
  hd : p.getD 0 0 = laI (eS P) P.length
  seq : ∀ j, j + 1 < p.length → Tgt P (p.getD j 0) (p.getD (j + 1) 0)
theorem getD_app_l (p : List Nat) (b j : Nat) (h : j < p.length) : (p ++ [b]).getD j 0 = p.getD j 0 := by rw [List.getD_eq_getElem?_getD, List.getD_eq_getElem?_getD, List.getElem?_append_left h]
theorem getD_app_r (p : List Nat) (b : Nat) : (p ++ [b]).getD p.length 0 = b := by rw [List.getD_eq_getElem?_getD, List.getElem?_append_right (Nat.le_refl _), Nat.sub_self]; rfl
theorem gop_ok {P : List Tk} (h : Fit P) (hn : 0 < P.length) {p : List Nat} (hp : Gop P p) : 0 < p.length ∧ PtOk P p := by
  induction hp with
  | one =>
    have hl := laI_lt (eS P) P.length hn
    have hs := fit_slack h _ hl
    have he := fit_end h hn
    have hf := (h.fits _ hl).1
    refine ⟨by simp, fun j hj => ?_, rfl, fun j hj => by simp at hj⟩
    have : j = 0 := by simp at hj; omega
    subst this
    exact ⟨hl, decide_eq_true (by show (eS P (laI (eS P) P.length)).1 = (lS P (eN P) (laI (eS P) P.length)).1; omega)⟩
  | step p a b hg hne ht ih =>
    obtain ⟨h0, ho⟩ := ih
    have hla : (p ++ [a]).length = p.length + 1 := by simp
    have ea : (p ++ [a]).getD p.length 0 = a := getD_app_r p a
    have hAa := ho.all p.length (by omega)
    rw [ea] at hAa
    have hb := ht.lt h hAa.1
    have hcb : crB P b = true := by
      have ht' := ht
      obtain ⟨k, hk, e, hby, _⟩ := ht
      have hm := lk_mem _ k hk
      have hlink := latS_links h.g (eN P) h.t a (h.t.full h.l a hAa.1) _ hm
      have hs := fit_slack h b hb.1
      have hca : (eS P a).1 = (lS P (eN P) a).1 := of_decide_eq_true hAa.2
      unfold byL at hby
      rw [← e] at hby hlink
      exact decide_eq_true (by
        have e1 : lS P (eN P) b = latS P (eN P) (ord P) b := rfl
        have e2 : lS P (eN P) a = latS P (eN P) (ord P) a := rfl
        rw [e1] at hs ⊢
        rw [e2] at hca
        omega)
    refine ⟨by simp, fun j hj => ?_, ?_, fun j hj => ?_⟩
    · rw [List.length_append, List.length_singleton] at hj
      by_cases e : j = (p ++ [a]).length
      · rw [e, getD_app_r]; exact ⟨hb.1, hcb⟩
      · rw [getD_app_l _ _ _ (by omega)]; exact ho.all j (by omega)
    · rw [getD_app_l _ _ _ (by omega)]; exact ho.hd
    · rw [List.length_append, List.length_singleton] at hj
      rw [getD_app_l _ _ _ (by omega)]
      by_cases e : j + 1 = (p ++ [a]).length
      · rw [e, getD_app_r]
        have : j = p.length := by omega
        rw [this, ea]; exact ht
      · rw [getD_app_l (p ++ [a]) b (j + 1) (by omega)]; exact ho.seq j (by omega)
/-- the path as it is told -/
structure PtR (P : List Tk) (R : List Nat) : Prop where
  pos : 0 < R.length
  le : R.length ≤ P.length
  all : ∀ j, j < R.length → R.getD j 0 < P.length ∧ R.getD j 0 ∈ crN P P.length
  first : (eS P (R.getD 0 0)).1 = (tk P (R.getD 0 0)).nb
  last : (eS P (R.getD (R.length - 1) 0)).2 = eN P
  seq : ∀ j, j + 1 < R.length → ∃ x ∈ (tk P (R.getD (j + 1) 0)).links, x.t = (R.getD j 0 : Nat) ∧ (eS P (R.getD j 0)).1 + gp P (R.getD (j + 1) 0) x = (eS P (R.getD (j + 1) 0)).1
theorem getD_rev (p : List Nat) (j : Nat) (h : j < p.length) : p.reverse.getD j 0 = p.getD (p.length - 1 - j) 0 := by
  rw [List.getD_eq_getElem?_getD, List.getD_eq_getElem?_getD, List.getElem?_reverse h]
theorem pathR {P : List Tk} (h : Fit P) (hn : 0 < P.length) {p : List Nat} {a : Nat} (hp : Gop P (p ++ [a])) (ha : (eS P a).1 = (tk P a).nb) (hl : (p ++ [a]).length ≤ P.length) : PtR P (p ++ [a]).reverse := by
  obtain ⟨h0, ho⟩ := gop_ok h hn hp
  have e0 : (p ++ [a]).reverse.getD 0 0 = a := by
    rw [getD_rev _ _ h0]
    have : (p ++ [a]).length - 1 - 0 = p.length := by simp
    rw [this, getD_app_r]
  refine ⟨by rw [List.length_reverse]; exact h0, by rw [List.length_reverse]; exact hl, fun j hj => ?_, by rw [e0]; exact ha, ?_, fun j hj => ?_⟩
  · rw [List.length_reverse] at hj
    rw [getD_rev _ _ hj]
    obtain ⟨h1, h2⟩ := ho.all ((p ++ [a]).length - 1 - j) (by omega)
    refine ⟨h1, ?_⟩
    unfold crN
    exact List.mem_filter.2 ⟨List.mem_range.2 h1, h2⟩
  · rw [List.length_reverse, getD_rev _ _ (by omega)]
    have : (p ++ [a]).length - 1 - ((p ++ [a]).length - 1) = 0 := by omega
    rw [this, ho.hd]
    exact fit_end h hn
  · rw [List.length_reverse] at hj
    rw [getD_rev _ _ (by omega), getD_rev _ _ (by omega)]
    have hs := ho.seq ((p ++ [a]).length - 1 - (j + 1)) (by omega)
    have e : (p ++ [a]).length - 1 - (j + 1) + 1 = (p ++ [a]).length - 1 - j := by omega
    rw [e] at hs
    have hlt := (ho.all ((p ++ [a]).length - 1 - (j + 1)) (by omega)).1
    obtain ⟨k, hk, et, hby, _⟩ := hs
    have hm := lk_mem _ k hk
    have hlk := h.g.link _ hlt _ hm
    refine ⟨_, hm, by omega, ?_⟩
    rw [et]
    exact hby
theorem row_form {X : World} {b : Nat} {v : Value} {r : List Nat} (h : OwnN X b v r) : ∃ (a : Option Addr) (c : Nat), v = .slice a r.length c ∧ ∀ j, j < r.length → ∃ g, a = some ⟨g, 0, none⟩ ∧ X.cell? ⟨g, j, none⟩ = some (.int .i64 ((r.getD j 0 : Nat) : Int)) := by
  have h' := h
  rcases h.2 with ⟨rfl, e⟩ | ⟨g, cap, cur, rfl, _⟩
  · exact ⟨none, 0, by rw [e], fun j hj => by omega⟩
  · refine ⟨some ⟨g, 0, none⟩, cap, rfl, fun j hj => ⟨g, rfl, ?_⟩⟩
    rw [World.ownsRow.cellAt h' j (by omega), nV_at r j hj, List.getD_eq_getElem?_getD, List.getElem?_eq_getElem hj]; rfl
end Go.Proofs.YtjmjabdokckdlaaDoor
