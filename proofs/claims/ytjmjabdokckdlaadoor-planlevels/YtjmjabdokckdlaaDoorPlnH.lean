/- plan: Early, End, Late; the plain ones. -/
import Derived.Test.YtjmjabdokckdlaaDoorPlnG
namespace Go.Proofs.YtjmjabdokckdlaaDoor
open Go.RowKit Go.Shelf
set_option linter.unusedVariables false
set_option linter.unusedSimpArgs false

/-- a plan that Check lets pass -/
structure Fit (P : List Tk) : Prop where
  g : Good P
  t : Topo P (ord P)
  l : (ord P).length = P.length
theorem chk_good {P : List Tk} (h : chkP P = 0) : Good P ∧ ¬ (ord P).length < P.length := by
  unfold chkP at h
  by_cases c : 60 < P.length
  · rw [if_pos c] at h; cases h
  rw [if_neg c] at h
  by_cases c2 : eTkN P P.length = 0
  · rw [if_pos c2] at h
    by_cases c3 : (ord P).length < P.length
    · rw [if_pos c3] at h; cases h
    · exact ⟨good_of (by omega) c2, c3⟩
  · rw [if_neg c2] at h; exact absurd h c2
theorem fit_of {P : List Tk} (h : chkP P = 0) (ht : Topo P (ord P)) : Fit P := ⟨(chk_good h).1, ht, by have := (chk_good h).2; have := ht.le; omega⟩
noncomputable def eS (P : List Tk) : Sp := earS P (ord P)
noncomputable def eN (P : List Tk) : Int := endS P.length (eS P)
noncomputable def lS (P : List Tk) (b : Int) : Sp := latS P b (ord P)
theorem Fit.bd {P : List Tk} (h : Fit P) : 0 ≤ eN P ∧ eN P ≤ 1000000000 := by
  have h1 := endS_ge (eS P) P.length
  have h2 := endS_le (eS P) 1000000000 (by decide) P.length (fun i hi => by
    have a := earS_bd h.g h.t i
    have b := (earS_fits h.t h.l i hi).1
    have c := h.g.len i hi
    have d := h.g.n60
    have e := h.l
    unfold eS
    omega)
  exact ⟨h1.1, h2⟩
/-- spans that are told, or none -/
def SpV (w w' : World) (n : Nat) (s : Sp) (c : Int) (v : Value) : Prop := (c = 0 → ∃ q, v = .slice (some ⟨q, 0, none⟩) n n ∧ w.heap.size ≤ q ∧ SpR q n s w') ∧ (c ≠ 0 → v = .slice none 0 0)
theorem SpV.step {w w' w'' : World} {n : Nat} {s : Sp} {c : Int} {v : Value} (h : SpV w w' n s c v) (hb : Below w'.heap.size w' w'') : SpV w w'' n s c v :=
  ⟨fun e => let ⟨q, h1, h2, h3⟩ := h.1 e; ⟨q, h1, h2, h3.step hb⟩, h.2⟩
set_option maxHeartbeats 2000000 in
theorem Early_any (P : List Tk) (v : Value) (w : World) (hv : TsAt w v P) :
    Calls Tryd.prog 27 #[v] w fun e w' => ∃ u, e = .returned (.tuple #[u, eP (chkP P)]) ∧ SpV w w' P.length (eS P) (chkP P) u ∧ (chkP P = 0 → Fit P) ∧ Below w.heap.size w w' := by
  have HV := hide hv
  have KC := hide (check_any P v w hv)
  have KE := hide (fun hG W (hb : Below w.heap.size w W) => early_any (P := P) hG v W (hv.below hb))
  obtain ⟨ad, cap, rfl, _⟩ := hv
  by_cases hk : chkP P = 0
  · have hg := (chk_good hk).1
    have hfit := fit_of hk
    rw [hk] at KC ⊢
    have e0 : eP 0 = .nilIface := rfl
    rw [e0] at KC ⊢
    go_enter Tryd.func27, Tryd.ntmps27
    go_wp2_with (first
      | (go_at_call 36; refine KC.out.mono ?_; rintro e W1 ⟨rfl, b1⟩; have HB1 := hide b1)
      | (go_at_call 40; refine (KE.out hg _ HB1.out).mono ?_; rintro e W2 ⟨q, rfl, hq, hs, hT, b2⟩))
    go_ret2
    have hz := HB1.out.size
    exact ⟨_, rfl, ⟨fun _ => ⟨q, rfl, by omega, hs⟩, fun h => absurd rfl h⟩, fun _ => hfit hT, HB1.out.trans (b2.mono hz)⟩
  · rw [eP_ne hk] at KC ⊢
    go_enter Tryd.func27, Tryd.ntmps27
    go_wp2_with (go_at_call 36; refine KC.out.mono ?_; rintro e W1 ⟨rfl, b1⟩; have HB1 := hide b1)
    go_ret2
    exact ⟨_, rfl, ⟨fun h => absurd h hk, fun _ => rfl⟩, fun h => absurd h hk, HB1.out⟩
/-- the end, or 0 -/
noncomputable def eNv (P : List Tk) : Int := if chkP P = 0 then eN P else 0
set_option maxHeartbeats 2000000 in
theorem End_any (P : List Tk) (v : Value) (w : World) (hv : TsAt w v P) :
    Calls Tryd.prog 31 #[v] w fun e w' => e = .returned (.tuple #[.int .i64 (eNv P), eP (chkP P)]) ∧ (chkP P = 0 → Fit P) ∧ Below w.heap.size w w' := by
  have HV := hide hv
  have KC := hide (check_any P v w hv)
  have KE := hide (fun hG W (hb : Below w.heap.size w W) => early_any (P := P) hG v W (hv.below hb))
  have KN := hide (fun q c W (hn : P.length ≤ 60) (hs : SpR q P.length (earS P (ord P)) W) => end_any P.length (earS P (ord P)) q c W (by omega) hs.at)
  obtain ⟨ad, cap, rfl, _⟩ := hv
  by_cases hk : chkP P = 0
  · have hg := (chk_good hk).1
    have hfit := fit_of hk
    have en : eNv P = endS P.length (earS P (ord P)) := by unfold eNv; rw [if_pos hk]; rfl
    rw [en]
    rw [hk] at KC ⊢
    have e0 : eP 0 = .nilIface := rfl
    rw [e0] at KC ⊢
    go_enter Tryd.func31, Tryd.ntmps31
    go_wp2_with (first
      | (go_at_call 36; refine KC.out.mono ?_; rintro e W1 ⟨rfl, b1⟩; have HB1 := hide b1)
      | (go_at_call 40; refine (KE.out hg _ HB1.out).mono ?_; rintro e W2 ⟨q, rfl, hq, hs, hT, b2⟩; have HS := hide hs)
      | (go_at_call 42; refine (KN.out _ _ _ hg.n60 HS.out).mono ?_; rintro e W3 ⟨rfl, b3⟩))
    go_ret2
    have hz := HB1.out.size
    have hz2 := b2.size
    exact ⟨rfl, fun _ => hfit hT, (HB1.out.trans (b2.mono hz)).trans (b3.mono (by omega))⟩
  · have en : eNv P = 0 := by unfold eNv; rw [if_neg hk]
    rw [en]
    rw [eP_ne hk] at KC ⊢
    go_enter Tryd.func31, Tryd.ntmps31
    go_wp2_with (go_at_call 36; refine KC.out.mono ?_; rintro e W1 ⟨rfl, b1⟩; have HB1 := hide b1)
    go_ret2
    exact ⟨rfl, fun h => absurd h hk, HB1.out⟩
/-- what Late tells -/
noncomputable def latE (P : List Tk) (b : Int) : Int := if chkP P = 0 then (if b < eN P then 12 else if 1099511627776 < b then 4 else 0) else chkP P
set_option maxHeartbeats 4000000 in
theorem Late_any (P : List Tk) (b : Int) (v : Value) (w : World) (hv : TsAt w v P) :
    Calls Tryd.prog 32 #[v, .int .i64 b] w fun e w' => ∃ u, e = .returned (.tuple #[u, eP (latE P b)]) ∧ SpV w w' P.length (lS P b) (latE P b) u ∧ Below w.heap.size w w' := by
  have KN := hide (End_any P v w hv)
  have KL := hide (fun hG h0 h1 W (hb : Below w.heap.size w W) => late_any (P := P) hG b h0 h1 v W (hv.below hb))
  obtain ⟨ad, cap, rfl, _⟩ := hv
  unfold latE
  by_cases hk : chkP P = 0
  · have hg := (chk_good hk).1
    have en : eNv P = eN P := by unfold eNv; rw [if_pos hk]
    rw [en, hk] at KN
    rw [if_pos hk]
    have e0 : eP 0 = .nilIface := rfl
    rw [e0] at KN
    by_cases h1 : b < eN P
    · rw [if_pos h1]
      generalize eN P = N at *
      go_enter Tryd.func32, Tryd.ntmps32
      go_wp2_with (go_at_call 31; refine KN.out.mono ?_; rintro e W1 ⟨rfl, hf, b1⟩; have HB1 := hide b1)
      go_ret2
      exact ⟨_, rfl, ⟨(fun h => by cases h), fun _ => rfl⟩, HB1.out⟩
    · rw [if_neg h1]
      by_cases h2 : 1099511627776 < b
      · rw [if_pos h2]
        generalize eN P = N at *
        go_enter Tryd.func32, Tryd.ntmps32
        go_wp2_with (go_at_call 31; refine KN.out.mono ?_; rintro e W1 ⟨rfl, hf, b1⟩; have HB1 := hide b1)
        go_ret2
        exact ⟨_, rfl, ⟨(fun h => by cases h), fun _ => rfl⟩, HB1.out⟩
      · rw [if_neg h2, e0]
        have hN := (endS_ge (eS P) P.length).1
        have hb0 : 0 ≤ b := by have : eN P = endS P.length (eS P) := rfl; omega
        clear hN
        generalize eN P = N at *
        go_enter Tryd.func32, Tryd.ntmps32
        go_wp2_with (first
          | (go_at_call 31; refine KN.out.mono ?_; rintro e W1 ⟨rfl, hf, b1⟩; have HB1 := hide b1)
          | (go_at_call 43; refine (KL.out hg hb0 (by omega) _ HB1.out).mono ?_; rintro e W2 ⟨q, rfl, hq, hs, b2⟩))
        go_ret2
        have hz := HB1.out.size
        exact ⟨_, rfl, ⟨fun _ => ⟨q, rfl, by omega, hs⟩, fun h => absurd rfl h⟩, HB1.out.trans (b2.mono hz)⟩
  · have en : eNv P = 0 := by unfold eNv; rw [if_neg hk]
    rw [en, eP_ne hk] at KN
    rw [if_neg hk, eP_ne hk]
    go_enter Tryd.func32, Tryd.ntmps32
    go_wp2_with (go_at_call 31; refine KN.out.mono ?_; rintro e W1 ⟨rfl, hf, b1⟩; have HB1 := hide b1)
    go_ret2
    exact ⟨_, rfl, ⟨fun h => absurd h hk, fun _ => rfl⟩, HB1.out⟩
/-! The plain ones. -/
theorem pcheck_any (P : List Tk) (v : Value) (w : World) (hd : Hd w) (hv : TsAt w v P) :
    Calls Tryd.prog 19 #[v] w fun e w' => e = .returned (.int .i64 (chkP P)) ∧ Below w.heap.size w w' := by
  have KC := hide (check_any P v w hv)
  have KT := hide (fun c X (h : Below w.heap.size w X) => tell_eP c X (hd.later h))
  obtain ⟨ad, cap, rfl, _⟩ := hv
  clear hd
  go_enter Tryd.func19, Tryd.ntmps19
  go_wp2_with (first
    | (go_at_call 36; refine KC.out.mono ?_; rintro e W1 ⟨rfl, b1⟩; have HB1 := hide b1)
    | (go_at_call 28; refine (KT.out _ _ HB1.out).mono ?_; rintro e W2 ⟨rfl, b2⟩))
  go_ret
  exact ⟨rfl, HB1.out.trans (b2.mono HB1.out.size)⟩
theorem pearly_any (P : List Tk) (v : Value) (w : World) (hd : Hd w) (hv : TsAt w v P) :
    Calls Tryd.prog 8 #[v] w fun e w' => ∃ u, e = .returned (.tuple #[u, .int .i64 (chkP P)]) ∧ SpV w w' P.length (eS P) (chkP P) u ∧ (chkP P = 0 → Fit P) ∧ Below w.heap.size w w' := by
  have KC := hide (Early_any P v w hv)
  have KT := hide (fun c X (h : Below w.heap.size w X) => tell_eP c X (hd.later h))
  obtain ⟨ad, cap, rfl, _⟩ := hv
  clear hd
  go_enter Tryd.func8, Tryd.ntmps8
  go_wp2_with (first
    | (go_at_call 27; refine KC.out.mono ?_; rintro e W1 ⟨u, rfl, hs, hf, b1⟩; have HB1 := hide b1)
    | (go_at_call 28; refine (KT.out _ _ HB1.out).mono ?_; rintro e W2 ⟨rfl, b2⟩))
  go_ret2
  exact ⟨u, rfl, hs.step b2, hf, HB1.out.trans (b2.mono HB1.out.size)⟩
theorem pend_any (P : List Tk) (v : Value) (w : World) (hd : Hd w) (hv : TsAt w v P) :
    Calls Tryd.prog 10 #[v] w fun e w' => e = .returned (.tuple #[.int .i64 (eNv P), .int .i64 (chkP P)]) ∧ Below w.heap.size w w' := by
  have KC := hide (End_any P v w hv)
  have KT := hide (fun c X (h : Below w.heap.size w X) => tell_eP c X (hd.later h))
  obtain ⟨ad, cap, rfl, _⟩ := hv
  clear hd
  go_enter Tryd.func10, Tryd.ntmps10
  go_wp2_with (first
    | (go_at_call 31; refine KC.out.mono ?_; rintro e W1 ⟨rfl, hf, b1⟩; have HB1 := hide b1)
    | (go_at_call 28; refine (KT.out _ _ HB1.out).mono ?_; rintro e W2 ⟨rfl, b2⟩))
  go_ret2
  exact ⟨rfl, HB1.out.trans (b2.mono HB1.out.size)⟩
theorem plate_any (P : List Tk) (b : Int) (v : Value) (w : World) (hd : Hd w) (hv : TsAt w v P) :
    Calls Tryd.prog 13 #[v, .int .i64 b] w fun e w' => ∃ u, e = .returned (.tuple #[u, .int .i64 (latE P b)]) ∧ SpV w w' P.length (lS P b) (latE P b) u ∧ Below w.heap.size w w' := by
  have KC := hide (Late_any P b v w hv)
  have KT := hide (fun c X (h : Below w.heap.size w X) => tell_eP c X (hd.later h))
  obtain ⟨ad, cap, rfl, _⟩ := hv
  clear hd
  go_enter Tryd.func13, Tryd.ntmps13
  go_wp2_with (first
    | (go_at_call 32; refine KC.out.mono ?_; rintro e W1 ⟨u, rfl, hs, b1⟩; have HB1 := hide b1)
    | (go_at_call 28; refine (KT.out _ _ HB1.out).mono ?_; rintro e W2 ⟨rfl, b2⟩))
  go_ret2
  exact ⟨u, rfl, hs.step b2, HB1.out.trans (b2.mono HB1.out.size)⟩
end Go.Proofs.YtjmjabdokckdlaaDoor
