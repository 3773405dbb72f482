/- plan: checkTask, Check. (Written by gen/plne.py.) -/
import Derived.Test.YtjmjabdokckdlaaDoorPlnD
namespace Go.Proofs.YtjmjabdokckdlaaDoor
open Go.RowKit
set_option linter.unusedVariables false
set_option linter.unusedSimpArgs false

/-- what is told of a link -/
def eLk (n i : Int) (x : Lk) : Int := if x.t < 0 ∨ n ≤ x.t ∨ x.k < 1 ∨ 4 < x.k then 1 else if x.g < -1000000 ∨ 1000000 < x.g then 1 else if x.t = i then 14 else 0
def eLks (n i : Int) : List Lk → Int
  | [] => 0
  | x :: l => if eLk n i x = 0 then eLks n i l else eLk n i x
theorem eLks_app (n i : Int) : ∀ a b, eLks n i (a ++ b) = if eLks n i a = 0 then eLks n i b else eLks n i a
  | [], b => by simp [eLks]
  | x :: a, b => by
    rw [List.cons_append, eLks, eLks, eLks_app n i a b]
    split <;> simp_all
theorem eLks_step {n i : Int} {l : List Lk} {m : Nat} (h : m < l.length) (h0 : eLks n i (l.take m) = 0) : eLks n i (l.take (m + 1)) = eLk n i (lk l m) ∧ (eLk n i (lk l m) ≠ 0 → eLks n i l = eLk n i (lk l m)) := by
  have e1 : eLks n i (l.take (m + 1)) = eLk n i (lk l m) := by
    rw [List.take_succ_eq_append_getElem h, eLks_app, if_pos h0, lk_at l m h, eLks]
    split
    · rename_i e; rw [e]; rfl
    · rfl
  refine ⟨e1, fun hn => ?_⟩
  have := eLks_app n i (l.take (m + 1)) (l.drop (m + 1))
  rw [List.take_append_drop, e1, if_neg hn] at this
  exact this
theorem eLks_mem {n i : Int} : ∀ {l : List Lk}, eLks n i l = 0 → ∀ x ∈ l, eLk n i x = 0
  | [], _, x, hx => by cases hx
  | y :: l, h, x, hx => by
    rw [eLks] at h
    split at h
    · rcases List.mem_cons.1 hx with rfl | hx
      · assumption
      · exact eLks_mem h x hx
    · exact absurd h ‹_›
def eUs : List Int → Int
  | [] => 0
  | u :: l => if okL u = true then eUs l else 1
theorem eUs_step {l : List Int} {m : Nat} (h : m < l.length) (h0 : eUs (l.take m) = 0) : (okL (l.getD m 0) = true → eUs (l.take (m + 1)) = 0) ∧ (okL (l.getD m 0) = false → eUs l = 1) := by
  have app : ∀ a b, eUs (a ++ b) = if eUs a = 0 then eUs b else eUs a := by
    intro a b
    induction a with
    | nil => simp [eUs]
    | cons x a ih =>
      rw [List.cons_append, eUs, eUs, ih]
      by_cases e : okL x = true
      · rw [if_pos e, if_pos e]
      · rw [if_neg e, if_neg e]; rfl
  have eg : l.getD m 0 = l[m] := by rw [List.getD_eq_getElem?_getD, List.getElem?_eq_getElem h]; rfl
  have e1 : eUs (l.take (m + 1)) = if okL l[m] = true then 0 else 1 := by
    rw [List.take_succ_eq_append_getElem h, app, if_pos h0]; rfl
  rw [eg]
  refine ⟨fun hk => by rw [e1, if_pos hk], fun hk => ?_⟩
  have := app (l.take (m + 1)) (l.drop (m + 1))
  rw [List.take_append_drop, e1, hk] at this
  simpa using this
theorem eUs_mem : ∀ {l : List Int}, eUs l = 0 → ∀ x ∈ l, okL x = true
  | [], _, x, hx => by cases hx
  | y :: l, h, x, hx => by
    rw [eUs] at h
    split at h
    · rcases List.mem_cons.1 hx with rfl | hx
      · assumption
      · exact eUs_mem h x hx
    · cases h
/-- what is told of a task -/
def eTk (P : List Tk) (i : Nat) : Int := if okL (tk P i).len = true ∧ okL (tk P i).nb = true ∧ (tk P i).links.length ≤ 60 ∧ (tk P i).uses.length ≤ 8 then (if eLks P.length i (tk P i).links = 0 then eUs (tk P i).uses else eLks P.length i (tk P i).links) else 1
set_option maxRecDepth 100000 in
set_option maxHeartbeats 8000000 in
theorem checkTask_any {P : List Tk} (i : Nat) (hi : i < P.length) (v : Value) (w : World) (hv : TsAt w v P) :
    Calls Tryd.prog 47 #[v, .int .i64 (i : Int)] w fun e w' => e = .returned (eP (eTk P i)) ∧ Below w.heap.size w w' := by
  obtain ⟨ad, cap, rfl, hall⟩ := hv
  obtain ⟨g, o, lv, uv, rfl, h0, h1, h2, h3, hl, hu⟩ := hall i hi
  obtain ⟨la, lc, rfl, hls⟩ := hl
  obtain ⟨ua, uc, rfl, hus⟩ := hu
  have hii : (i : Int) < (P.length : Int) := by omega
  have hE : ∃ V, eP (eTk P i) = V := ⟨_, rfl⟩
  obtain ⟨V, hV⟩ := hE
  rw [hV]
  unfold eTk at hV
  generalize hT : tk P i = T at *
  obtain ⟨tl, tn, L, U⟩ := T
  dsimp only at *
  have HL := hide hls
  have HU := hide hus
  have hB0 : Below w.heap.size w (w.alloc (.cells #[.int .i64 tl, .int .i64 tn, .slice la L.length lc, .slice ua U.length uc] 45)) := (Below.refl _ w).alloc (Nat.le_refl _) _
  have HB0 := hide hB0
  have K := hide (fun n W => isLen_any n W)
  clear hall hls hus hB0 hT
  by_cases a1 : okL tl = true
  case neg =>
    have c1 : okL tl = false := by simpa using a1
    rw [if_neg (fun h => a1 h.1)] at hV
    go_enter Tryd.func47, Tryd.ntmps47
    go_wp2_with (go_at_call 66; refine (K.out _ _).mono ?_; rintro e X ⟨rfl, rfl⟩)
    go_ret
    exact ⟨by rw [← hV]; rfl, HB0.out⟩
  by_cases a2 : okL tn = true
  case neg =>
    have c1 : okL tn = false := by simpa using a2
    rw [if_neg (fun h => a2 h.2.1)] at hV
    go_enter Tryd.func47, Tryd.ntmps47
    go_wp2_with (go_at_call 66; refine (K.out _ _).mono ?_; rintro e X ⟨rfl, rfl⟩)
    go_ret
    exact ⟨by rw [← hV]; rfl, HB0.out⟩
  by_cases a3 : L.length ≤ 60
  case neg =>
    have c1 : (60 : Int) < (L.length : Int) := by omega
    rw [if_neg (fun h => a3 h.2.2.1)] at hV
    go_enter Tryd.func47, Tryd.ntmps47
    go_wp2_with (go_at_call 66; refine (K.out _ _).mono ?_; rintro e X ⟨rfl, rfl⟩)
    go_ret
    exact ⟨by rw [← hV]; rfl, HB0.out⟩
  by_cases a4 : U.length ≤ 8
  case neg =>
    have c1 : (8 : Int) < (U.length : Int) := by omega
    have c3 : ¬ (60 : Int) < (L.length : Int) := by omega
    rw [if_neg (fun h => a4 h.2.2.2)] at hV
    go_enter Tryd.func47, Tryd.ntmps47
    go_wp2_with (go_at_call 66; refine (K.out _ _).mono ?_; rintro e X ⟨rfl, rfl⟩)
    go_ret
    exact ⟨by rw [← hV]; rfl, HB0.out⟩
  rw [if_pos ⟨a1, a2, a3, a4⟩] at hV
  have c3 : ¬ (60 : Int) < (L.length : Int) := by omega
  have c4 : ¬ (8 : Int) < (U.length : Int) := by omega
  have HV := hide hV
  clear hV
  generalize hW0 : w.alloc (.cells #[.int .i64 tl, .int .i64 tn, .slice la L.length lc, .slice ua U.length uc] 45) = W0 at HB0
  have z0 : W0.heap.size = w.heap.size + 1 := by rw [← hW0]; simp
  have z1 : W0.cell? ⟨w.heap.size, 3, none⟩ = some (.slice ua U.length uc) := by rw [← hW0]; simp
  have HW0 := hide hW0
  clear hW0
  go_enter Tryd.func47, Tryd.ntmps47
  go_wp2_with (go_at_call 66; refine (K.out _ _).mono ?_; rintro e X ⟨rfl, rfl⟩)
  go_loopw [40] (fun j wr => ∃ m : Nat, m ≤ L.length ∧ j = .int .i64 m ∧ eLks P.length i (L.take m) = 0 ∧ Below (w.heap.size + 1) W0 wr) (fun j _ => L.length - (intOf j).toNat)
  case atStart => exact ⟨0, by omega, rfl, rfl, by rw [HW0.out]; exact Below.refl _ _⟩
  case round =>
    obtain ⟨m, hm, rfl, h0, hB⟩ := hrel
    have hBw : Below w.heap.size w wr := HB0.out.trans (hB.mono (by omega))
    by_cases hlt : m < L.length
    · have hmi : (m : Int) < (L.length : Int) := by omega
      obtain ⟨g1, o1, rfl, y0, y1, y2⟩ := HL.out m hlt
      have hy0 := (hBw.cell (World.block_lt_of_cell? w _ y0)).trans y0
      have hy1 := (hBw.cell (World.block_lt_of_cell? w _ y1)).trans y1
      have hy2 := (hBw.cell (World.block_lt_of_cell? w _ y2)).trans y2
      obtain ⟨s1, s2⟩ := eLks_step hlt h0
      generalize lk L m = x at *
      obtain ⟨xt, xk, xg⟩ := x
      dsimp only at *
      have HBn := hide (hB.alloc (by have := hB.size; omega) (.cells #[.int .i64 xt, .int .i64 xk, .int .i64 xg] 47))
      have HBx := hide (hBw.alloc (by have := hBw.size; omega) (.cells #[.int .i64 xt, .int .i64 xk, .int .i64 xg] 47))
      have H1 := hide s1
      have H2 := hide s2
      clear y0 y1 y2 hB hBw s1 s2
      by_cases b1 : xt < 0
      case pos =>
        have hcode : eLk P.length i ⟨xt, xk, xg⟩ = 1 := by unfold eLk; dsimp only; rw [if_pos (by omega)]
        have hfin := H2.out (by rw [hcode]; decide)
        rw [hcode] at hfin
        go_wp2_with fail
        go_ret
        exact ⟨by rw [← HV.out, hfin]; rfl, HBx.out⟩
      by_cases b2 : (P.length : Int) ≤ xt
      case pos =>
        have hcode : eLk P.length i ⟨xt, xk, xg⟩ = 1 := by unfold eLk; dsimp only; rw [if_pos (by omega)]
        have hfin := H2.out (by rw [hcode]; decide)
        rw [hcode] at hfin
        go_wp2_with fail
        go_ret
        exact ⟨by rw [← HV.out, hfin]; rfl, HBx.out⟩
      by_cases b3 : xk < 1
      case pos =>
        have hcode : eLk P.length i ⟨xt, xk, xg⟩ = 1 := by unfold eLk; dsimp only; rw [if_pos (by omega)]
        have hfin := H2.out (by rw [hcode]; decide)
        rw [hcode] at hfin
        go_wp2_with fail
        go_ret
        exact ⟨by rw [← HV.out, hfin]; rfl, HBx.out⟩
      by_cases b4 : 4 < xk
      case pos =>
        have hcode : eLk P.length i ⟨xt, xk, xg⟩ = 1 := by unfold eLk; dsimp only; rw [if_pos (by omega)]
        have hfin := H2.out (by rw [hcode]; decide)
        rw [hcode] at hfin
        go_wp2_with fail
        go_ret
        exact ⟨by rw [← HV.out, hfin]; rfl, HBx.out⟩
      by_cases b5 : xg < -1000000
      case pos =>
        have hcode : eLk P.length i ⟨xt, xk, xg⟩ = 1 := by unfold eLk; dsimp only; rw [if_neg (by omega), if_pos (by omega)]
        have hfin := H2.out (by rw [hcode]; decide)
        rw [hcode] at hfin
        go_wp2_with fail
        go_ret
        exact ⟨by rw [← HV.out, hfin]; rfl, HBx.out⟩
      by_cases b6 : 1000000 < xg
      case pos =>
        have hcode : eLk P.length i ⟨xt, xk, xg⟩ = 1 := by unfold eLk; dsimp only; rw [if_neg (by omega), if_pos (by omega)]
        have hfin := H2.out (by rw [hcode]; decide)
        rw [hcode] at hfin
        go_wp2_with fail
        go_ret
        exact ⟨by rw [← HV.out, hfin]; rfl, HBx.out⟩
      by_cases b7 : xt = (i : Int)
      case pos =>
        have hcode : eLk P.length i ⟨xt, xk, xg⟩ = 14 := by unfold eLk; dsimp only; rw [if_neg (by omega), if_neg (by omega), if_pos b7]
        have hfin := H2.out (by rw [hcode]; decide)
        rw [hcode] at hfin
        subst b7
        go_wp2_with fail
        go_ret
        exact ⟨by rw [← HV.out, hfin]; rfl, HBx.out⟩
      have hcode : eLk P.length i ⟨xt, xk, xg⟩ = 0 := by unfold eLk; dsimp only; rw [if_neg (by omega), if_neg (by omega), if_neg b7]
      have hgo := H1.out
      rw [hcode] at hgo
      go_wp2_with fail
      go_roundw
      case rel => exact ⟨m + 1, by omega, by go_num, hgo, HBn.out⟩
      case measure => simp [intOf]; omega
    · obtain rfl : m = L.length := by omega
      rw [List.take_length] at h0
      have hu1 : eP (eUs U) = V := by rw [← HV.out, if_pos h0]
      have hz1 := (hB.cell (by show w.heap.size < _; omega)).trans z1
      have HB := hide hB
      clear hB hBw
      go_wp2_with fail
      go_loopw [83] (fun j wr => ∃ m : Nat, m ≤ U.length ∧ j = .int .i64 m ∧ eUs (U.take m) = 0 ∧ Below (w.heap.size + 1) W0 wr) (fun j _ => U.length - (intOf j).toNat)
      case atStart => exact ⟨0, by omega, rfl, rfl, HB.out⟩
      case round =>
        clear HB
        obtain ⟨m, hm, rfl, h0', hB⟩ := hrel
        have hBw : Below w.heap.size w wr := HB0.out.trans (hB.mono (by omega))
        by_cases hlt : m < U.length
        · have hmi : (m : Int) < (U.length : Int) := by omega
          obtain ⟨g1, o1, rfl, y0⟩ := HU.out m hlt
          have hy0 := (hBw.cell (World.block_lt_of_cell? w _ y0)).trans y0
          obtain ⟨s1, s2⟩ := eUs_step hlt h0'
          generalize U.getD m 0 = x at *
          have HB := hide (And.intro hB hBw)
          clear y0 hB hBw
          cases hx : okL x with
          | true =>
            have hgo := s1 hx
            clear s1 s2
            go_wp2_with (go_at_call 66; refine (K.out _ _).mono ?_; rintro e X ⟨rfl, rfl⟩)
            go_roundw
            case rel => exact ⟨m + 1, by omega, by go_num, hgo, HB.out.1⟩
            case measure => simp [intOf]; omega
          | false =>
            have hfin := s2 hx
            clear s1 s2
            go_wp2_with (go_at_call 66; refine (K.out _ _).mono ?_; rintro e X ⟨rfl, rfl⟩)
            go_ret
            exact ⟨by rw [← hu1, hfin]; rfl, HB.out.2⟩
        · obtain rfl : m = U.length := by omega
          rw [List.take_length] at h0'
          have HB := hide hBw
          clear hB hBw
          go_wp2_with fail
          go_ret
          exact ⟨by rw [← hu1, h0']; rfl, HB.out⟩
/-- what is told of the first tasks -/
def eTkN (P : List Tk) : Nat → Int
  | 0 => 0
  | m + 1 => if eTkN P m = 0 then eTk P m else eTkN P m
theorem eTkN_bad (P : List Tk) (m : Nat) (h0 : eTkN P m = 0) (hn : eTk P m ≠ 0) : ∀ k, m < k → eTkN P k = eTk P m
  | k + 1, hk => by
    rw [eTkN]
    by_cases e : k = m
    · subst e; rw [if_pos h0]
    · rw [eTkN_bad P m h0 hn k (by omega), if_neg hn]
theorem eTkN_all (P : List Tk) : ∀ m, eTkN P m = 0 → ∀ i, i < m → eTk P i = 0
  | m + 1, h, i, hi => by
    rw [eTkN] at h
    split at h
    · rename_i h0
      by_cases e : i = m
      · subst e; exact h
      · exact eTkN_all P m h0 i (by omega)
    · exact absurd h ‹_›
theorem eLk_ok {n i : Int} {x : Lk} (h : eLk n i x = 0) : 0 ≤ x.t ∧ x.t < n ∧ 1 ≤ x.k ∧ x.k ≤ 4 ∧ -1000000 ≤ x.g ∧ x.g ≤ 1000000 ∧ x.t ≠ i := by
  unfold eLk at h
  by_cases c1 : x.t < 0 ∨ n ≤ x.t ∨ x.k < 1 ∨ 4 < x.k
  · rw [if_pos c1] at h; cases h
  rw [if_neg c1] at h
  by_cases c2 : x.g < -1000000 ∨ 1000000 < x.g
  · rw [if_pos c2] at h; cases h
  rw [if_neg c2] at h
  by_cases c3 : x.t = i
  · rw [if_pos c3] at h; cases h
  omega
theorem eTk_ok {P : List Tk} {i : Nat} (h : eTk P i = 0) : okL (tk P i).len = true ∧ okL (tk P i).nb = true ∧ (tk P i).links.length ≤ 60 ∧ (tk P i).uses.length ≤ 8 ∧ eLks P.length i (tk P i).links = 0 ∧ eUs (tk P i).uses = 0 := by
  unfold eTk at h
  by_cases c : okL (tk P i).len = true ∧ okL (tk P i).nb = true ∧ (tk P i).links.length ≤ 60 ∧ (tk P i).uses.length ≤ 8
  · rw [if_pos c] at h
    by_cases c2 : eLks P.length i (tk P i).links = 0
    · rw [if_pos c2] at h; exact ⟨c.1, c.2.1, c.2.2.1, c.2.2.2, c2, h⟩
    · rw [if_neg c2] at h; exact absurd h c2
  · rw [if_neg c] at h; cases h
theorem good_of {P : List Tk} (h60 : P.length ≤ 60) (h : eTkN P P.length = 0) : Good P := by
  have H := fun i hi => eTk_ok (eTkN_all P _ h i hi)
  refine ⟨h60, fun i hi => ?_, fun i hi => ?_, fun i hi => ?_, fun i hi x hx => ?_, fun i hi x hx => ?_⟩
  · have := (H i hi).1; unfold okL at this; exact of_decide_eq_true this
  · have := (H i hi).2.1; unfold okL at this; exact of_decide_eq_true this
  · exact ⟨(H i hi).2.2.1, (H i hi).2.2.2.1⟩
  · exact eLk_ok (eLks_mem (H i hi).2.2.2.2.1 x hx)
  · have := eUs_mem (H i hi).2.2.2.2.2 x hx; unfold okL at this; exact of_decide_eq_true this
/-- what Check tells -/
noncomputable def chkP (P : List Tk) : Int := if 60 < P.length then 6 else if eTkN P P.length = 0 then (if (ord P).length < P.length then 14 else 0) else eTkN P P.length
theorem eP_ne {k : Int} (h : k ≠ 0) : eP k = .iface 24 (.int .i64 k) := if_neg h
set_option maxRecDepth 100000 in
set_option maxHeartbeats 4000000 in
theorem check_any (P : List Tk) (v : Value) (w : World) (hv : TsAt w v P) :
    Calls Tryd.prog 36 #[v] w fun e w' => e = .returned (eP (chkP P)) ∧ Below w.heap.size w w' := by
  have hv' := hv
  obtain ⟨ad, cap, rfl, _⟩ := hv
  have HV := hide hv'
  have KT := hide (fun i hi W (hb : Below w.heap.size w W) => checkTask_any (P := P) i hi _ W (hv'.below hb))
  have KO := hide (fun hG W (hb : Below w.heap.size w W) => order_any (P := P) hG _ W (hv'.below hb))
  clear hv'
  obtain ⟨V, hV⟩ : ∃ V, eP (chkP P) = V := ⟨_, rfl⟩
  rw [hV]
  unfold chkP at hV
  by_cases h60 : 60 < P.length
  · rw [if_pos h60] at hV
    have h60i : (60 : Int) < (P.length : Int) := by omega
    go_enter Tryd.func36, Tryd.ntmps36
    go_wp2_with fail
    go_ret
    exact ⟨by rw [← hV]; rfl, Below.refl _ _⟩
  rw [if_neg h60] at hV
  have h60i : ¬ (60 : Int) < (P.length : Int) := by omega
  have H := hide hV
  clear hV
  go_enter Tryd.func36, Tryd.ntmps36
  go_wp2_with fail
  go_loopw [11] (fun j wr => ∃ m : Nat, m ≤ P.length ∧ j = .int .i64 m ∧ eTkN P m = 0 ∧ Below w.heap.size w wr) (fun j _ => P.length - (intOf j).toNat)
  case atStart => exact ⟨0, by omega, rfl, rfl, Below.refl _ _⟩
  case round =>
    obtain ⟨m, hm, rfl, h0, hB⟩ := hrel
    by_cases hlt : m < P.length
    · have hmi : (m : Int) < (P.length : Int) := by omega
      have HB := hide hB
      have hst : eTkN P (m + 1) = eTk P m := by rw [eTkN, if_pos h0]
      have hbad := eTkN_bad P m h0
      have KX := hide (KT.out m hlt wr hB)
      clear hB
      generalize eTk P m = k at *
      by_cases hk : k = 0
      · subst hk
        have e0 : eP 0 = .nilIface := rfl
        rw [e0] at KX
        go_wp2_with (go_at_call 47; refine (KX.out).mono ?_; rintro e X ⟨rfl, hx⟩)
        go_roundw
        case rel => exact ⟨m + 1, by omega, by go_num, hst, HB.out.trans (hx.mono HB.out.size)⟩
        case measure => simp [intOf]; omega
      · have hfin := hbad hk _ hlt
        rw [eP_ne hk] at KX
        have hre : V = .iface 24 (.int .i64 k) := by rw [← H.out, hfin, if_neg hk, eP_ne hk]
        clear hbad
        go_wp2_with (go_at_call 47; refine (KX.out).mono ?_; rintro e X ⟨rfl, hx⟩)
        go_ret
        exact ⟨by rw [hre]; rfl, HB.out.trans (hx.mono HB.out.size)⟩
    · obtain rfl : m = P.length := by omega
      have hre := H.out
      rw [if_pos h0] at hre
      have KX := hide (KO.out (good_of (by omega) h0) wr hB)
      have HB := hide hB
      clear hB H KO KT
      generalize ord P = r at *
      have HR := hide hre
      clear hre
      by_cases hl : r.length < P.length
      · have hli : (r.length : Int) < (P.length : Int) := by omega
        go_wp2_with (go_at_call 48; refine (KX.out).mono ?_; rintro e X ⟨u, rfl, ho, _, hx⟩; obtain ⟨ua, uc, rfl⟩ := (own_len ho).2)
        go_ret
        exact ⟨by rw [← HR.out, if_pos hl]; rfl, HB.out.trans (hx.mono HB.out.size)⟩
      · have hli : ¬ (r.length : Int) < (P.length : Int) := by omega
        go_wp2_with (go_at_call 48; refine (KX.out).mono ?_; rintro e X ⟨u, rfl, ho, _, hx⟩; obtain ⟨ua, uc, rfl⟩ := (own_len ho).2)
        go_ret
        exact ⟨by rw [← HR.out, if_neg hl]; rfl, HB.out.trans (hx.mono HB.out.size)⟩
end Go.Proofs.YtjmjabdokckdlaaDoor
