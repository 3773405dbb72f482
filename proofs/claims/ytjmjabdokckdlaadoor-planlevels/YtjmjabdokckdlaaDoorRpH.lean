/- the law's lists and picks; what is told of a plan that may not be. -/
import Derived.Test.YtjmjabdokckdlaaDoorRpF
import Derived.Test.YtjmjabdokckdlaaDoorRpG
import Derived.Test.YtjmjabdokckdlaaDoorPlnR
namespace Go.Proofs.YtjmjabdokckdlaaDoor
open Go.RowKit Go.Shelf
set_option linter.unusedVariables false
set_option linter.unusedSimpArgs false

theorem listI_any (zs : List Int) (hz : zs.length ≤ 1000000) (u v : Value) (w : World) (hu : NsAt w u zs) (hv : NsAt w v zs) :
    Calls Tryd.prog 22 #[u, v] w fun e w' => e = .returned (.bool true) ∧ RowKit.Below w.heap.size w w' := by
  obtain ⟨au, cu, rfl, hu⟩ := hu
  obtain ⟨av, cv, rfl, hv⟩ := hv
  have HU := hide hu
  have HV := hide hv
  clear hu hv
  go_enter Tryd.func22, Tryd.ntmps22
  go_wp2_with fail
  go_loopw [5] (fun j wr => ∃ m : Nat, m ≤ zs.length ∧ j = .int .i64 m ∧ RowKit.Below w.heap.size w wr) (fun j _ => zs.length - (intOf j).toNat)
  case atStart => exact ⟨0, by omega, rfl, RowKit.Below.refl _ _⟩
  case round =>
    obtain ⟨m, hm, rfl, hB⟩ := hrel
    by_cases hlt : m < zs.length
    · have hmi : (m : Int) < (zs.length : Int) := by omega
      obtain ⟨g1, o1, rfl, y0⟩ := HU.out m hlt
      obtain ⟨g2, o2, rfl, z0⟩ := HV.out m hlt
      have x0 := (hB.cell (World.block_lt_of_cell? w _ y0)).trans y0
      have x1 := (hB.cell (World.block_lt_of_cell? w _ z0)).trans z0
      have HB := hide hB
      clear y0 z0 hB
      generalize zs.getD m 0 = x at *
      go_wp2_with fail
      go_quiet (fail)
      go_wp2_with fail
      go_roundw
      case rel => exact ⟨m + 1, by omega, by go_num, by repeat (first | exact HB.out | apply bdr)⟩
      case measure => simp [intOf]; omega
    · obtain rfl : m = zs.length := by omega
      have HB := hide hB
      clear hB
      go_wp2_with fail
      go_ret
      exact ⟨rfl, HB.out⟩
theorem listS_any (n : Nat) (hn : n ≤ 1000000) (s : Sp) (u v : Value) (w : World) (hu : SsAt w u n s) (hv : SsAt w v n s) :
    Calls Tryd.prog 21 #[u, v] w fun e w' => e = .returned (.bool true) ∧ RowKit.Below w.heap.size w w' := by
  obtain ⟨au, cu, rfl, hu⟩ := hu
  obtain ⟨av, cv, rfl, hv⟩ := hv
  have HU := hide hu
  have HV := hide hv
  clear hu hv
  go_enter Tryd.func21, Tryd.ntmps21
  go_wp2_with fail
  go_loopw [5] (fun j wr => ∃ m : Nat, m ≤ n ∧ j = .int .i64 m ∧ RowKit.Below w.heap.size w wr) (fun j _ => n - (intOf j).toNat)
  case atStart => exact ⟨0, by omega, rfl, RowKit.Below.refl _ _⟩
  case round =>
    obtain ⟨m, hm, rfl, hB⟩ := hrel
    by_cases hlt : m < n
    · have hmi : (m : Int) < (n : Int) := by omega
      obtain ⟨g1, rfl, y0, y1⟩ := HU.out m hlt
      obtain ⟨g2, rfl, z0, z1⟩ := HV.out m hlt
      have x0 := (hB.cell (World.block_lt_of_cell? w _ y0)).trans y0
      have x1 := (hB.cell (World.block_lt_of_cell? w _ y1)).trans y1
      have x2 := (hB.cell (World.block_lt_of_cell? w _ z0)).trans z0
      have x3 := (hB.cell (World.block_lt_of_cell? w _ z1)).trans z1
      have HB := hide hB
      clear y0 y1 z0 z1 hB
      generalize (s m).1 = x at *
      generalize (s m).2 = y at *
      go_wp2_with fail
      go_quiet (fail)
      go_wp2_with fail
      go_roundw
      case rel => exact ⟨m + 1, by omega, by go_num, by repeat (first | exact HB.out | apply bdr)⟩
      case measure => simp [intOf]; omega
    · obtain rfl : m = n := by omega
      have HB := hide hB
      clear hB
      go_wp2_with fail
      go_ret
      exact ⟨rfl, HB.out⟩
/-- two lists that are one -/
def EqI (W : World) (u v : Value) : Prop := ∃ zs : List Int, zs.length ≤ 1000000 ∧ NsAt W u zs ∧ NsAt W v zs
def EqS (W : World) (u v : Value) : Prop := ∃ n s, n ≤ 1000000 ∧ SsAt W u n s ∧ SsAt W v n s
theorem EqI.below {W W' : World} {u v : Value} (h : EqI W u v) (hb : RowKit.Below W.heap.size W W') : EqI W' u v := let ⟨zs, h1, h2, h3⟩ := h; ⟨zs, h1, h2.below hb, h3.below hb⟩
theorem EqS.below {W W' : World} {u v : Value} (h : EqS W u v) (hb : RowKit.Below W.heap.size W W') : EqS W' u v := let ⟨n, s, h1, h2, h3⟩ := h; ⟨n, s, h1, h2.below hb, h3.below hb⟩
theorem eqI_nil (W : World) : EqI W (.slice none 0 0) (.slice none 0 0) := ⟨[], by simp, ⟨none, 0, rfl, fun j hj => absurd hj (Nat.not_lt_zero _)⟩, ⟨none, 0, rfl, fun j hj => absurd hj (Nat.not_lt_zero _)⟩⟩
theorem eqS_nil (W : World) : EqS W (.slice none 0 0) (.slice none 0 0) := ⟨0, fun _ => (0, 0), by simp, ss_nil _ _, ss_nil _ _⟩
theorem eqI_any (u v : Value) (w : World) (h : EqI w u v) : Calls Tryd.prog 22 #[u, v] w fun e w' => e = .returned (.bool true) ∧ RowKit.Below w.heap.size w w' := let ⟨zs, h1, h2, h3⟩ := h; listI_any zs h1 u v w h2 h3
theorem eqS_any (u v : Value) (w : World) (h : EqS w u v) : Calls Tryd.prog 21 #[u, v] w fun e w' => e = .returned (.bool true) ∧ RowKit.Below w.heap.size w w' := let ⟨n, s, h1, h2, h3⟩ := h; listS_any n h1 s u v w h2 h3
theorem spV_ss {w w' : World} {n : Nat} {s : Sp} {c : Int} {v : Value} (h : SpV w w' n s c v) : SsV w' n s c v := ⟨fun e => let ⟨q, h1, _, h3⟩ := h.1 e; by rw [h1]; exact h3.ss, h.2⟩
theorem ssV_eq {W : World} {n : Nat} {s : Sp} {c : Int} {u v : Value} (hn : c = 0 → n ≤ 1000000) (h : SsV W n s c u) (h' : SsV W n s c v) : EqS W u v := by
  by_cases e : c = 0
  · exact ⟨n, s, hn e, h.1 e, h'.1 e⟩
  · rw [h.2 e, h'.2 e]; exact eqS_nil W
theorem crV_eq {w1 w2 W : World} {P : List Tk} {u v : Value} (h : CrV w1 W P u) (h' : CrV w2 W P v) (hn : P.length ≤ 60) : EqI W u v := by
  obtain ⟨b, _, h⟩ := h
  obtain ⟨b', _, h'⟩ := h'
  exact ⟨_, by rw [List.length_map]; have := crN_len P P.length; omega, ownN_ns h, ownN_ns h'⟩
theorem paV_eq {w1 w2 W : World} {P : List Tk} {u v : Value} (h : PaV w1 W P u) (h' : PaV w2 W P v) (hn : P.length ≤ 60) : EqI W u v := by
  by_cases e : P.length = 0
  · rw [h.1 e, h'.1 e]; exact eqI_nil W
  · obtain ⟨b, p, a, _, ho, hg, he, hl⟩ := h.2 (by omega)
    obtain ⟨b', p', a', _, ho', hg', he', hl'⟩ := h'.2 (by omega)
    rw [← hg.uniq hg' he he'] at ho'
    exact ⟨_, by rw [List.length_map, List.length_reverse]; omega, ownN_ns ho, ownN_ns ho'⟩
/-! A plan that may not be. -/
theorem pcrit_no (P : List Tk) (v : Value) (w : World) (hd : Hd w) (hv : TsAt w v P) (hk : chkP P ≠ 0) :
    Calls Tryd.prog 15 #[v] w fun e w' => e = .returned (.tuple #[.slice none 0 0, .int .i64 (chkP P)]) ∧ RowKit.Below w.heap.size w w' := by
  have KC := hide (check_any P v w hv)
  have KT := hide (fun c X (h : RowKit.Below w.heap.size w X) => tell_eP c X (hd.later h))
  obtain ⟨ad, cap, rfl, _⟩ := hv
  have KM : Hid (Calls Tryd.prog 34 #[.slice ad P.length cap] w fun e w' => e = .returned (.tuple #[.slice none 0 0, eP (chkP P)]) ∧ RowKit.Below w.heap.size w w') := by
    rw [eP_ne hk] at KC ⊢
    clear hd KT
    go_enter Tryd.func34, Tryd.ntmps34
    go_wp2_with (go_at_call 36; refine KC.out.mono ?_; rintro e W1 ⟨rfl, b1⟩; have HB1 := hide b1)
    go_ret2
    exact ⟨rfl, HB1.out⟩
  clear hd KC
  go_enter Tryd.func15, Tryd.ntmps15
  go_wp2_with (first
    | (go_at_call 34; refine KM.out.mono ?_; rintro e W1 ⟨rfl, b1⟩; have HB1 := hide b1)
    | (go_at_call 28; refine (KT.out _ _ HB1.out).mono ?_; rintro e W2 ⟨rfl, b2⟩))
  go_ret2
  exact ⟨rfl, HB1.out.trans (b2.mono HB1.out.size)⟩
theorem ppath_no (P : List Tk) (v : Value) (w : World) (hd : Hd w) (hv : TsAt w v P) (hk : chkP P ≠ 0) :
    Calls Tryd.prog 17 #[v] w fun e w' => e = .returned (.tuple #[.slice none 0 0, .int .i64 (chkP P)]) ∧ RowKit.Below w.heap.size w w' := by
  have KE := hide (Early_any P v w hv)
  have KT := hide (fun c X (h : RowKit.Below w.heap.size w X) => tell_eP c X (hd.later h))
  obtain ⟨ad, cap, rfl, _⟩ := hv
  have KM : Hid (Calls Tryd.prog 35 #[.slice ad P.length cap] w fun e w' => e = .returned (.tuple #[.slice none 0 0, eP (chkP P)]) ∧ RowKit.Below w.heap.size w w') := by
    rw [eP_ne hk] at KE ⊢
    clear hd KT
    have HK := hide hk
    go_enter Tryd.func35, Tryd.ntmps35
    go_wp2_with (go_at_call 27; refine KE.out.mono ?_; rintro e W1 ⟨u, rfl, hs, hf, b1⟩; obtain rfl := hs.2 HK.out; have HB1 := hide b1)
    go_ret2
    exact ⟨rfl, HB1.out⟩
  clear hd KE
  go_enter Tryd.func17, Tryd.ntmps17
  go_wp2_with (first
    | (go_at_call 35; refine KM.out.mono ?_; rintro e W1 ⟨rfl, b1⟩; have HB1 := hide b1)
    | (go_at_call 28; refine (KT.out _ _ HB1.out).mono ?_; rintro e W2 ⟨rfl, b2⟩))
  go_ret2
  exact ⟨rfl, HB1.out.trans (b2.mono HB1.out.size)⟩
/-- one of m -/
def lpk (n m : Int) : Int := if n.tmod m < 0 then n.tmod m + m else n.tmod m
theorem lpk_bd (n m : Int) (hm : 2 ≤ m ∧ m ≤ 100) : 0 ≤ lpk n m ∧ lpk n m ≤ 100 := by
  unfold lpk
  have h1 := Int.tmod_lt_of_pos n (show (0 : Int) < m by omega)
  have h2 := Int.lt_tmod_of_pos n (show (0 : Int) < m by omega)
  split <;> omega
theorem lpick_any (n m : Int) (hm : 2 ≤ m ∧ m ≤ 100) (w : World) : Calls Tryd.prog 12 #[.int .i64 n, .int .i64 m] w fun e w' => e = .returned (.int .i64 (lpk n m)) ∧ w' = w := by
  unfold lpk
  have h1 := Int.tmod_lt_of_pos n (show (0 : Int) < m by omega)
  have h2 := Int.lt_tmod_of_pos n (show (0 : Int) < m by omega)
  have hm0 : ¬ m = 0 := by omega
  have hmb : (m == 0) = false := beq_eq_false_iff_ne.2 hm0
  by_cases h : n.tmod m < 0
  · rw [if_pos h]
    have e1 := wrap64_id (x := n.tmod m + m) (by omega) (by omega)
    have e2 := wrap64_id (x := n.tmod m) (by omega) (by omega)
    go_enter Tryd.func12, Tryd.ntmps12
    go_wp2
    go_ret
    exact ⟨rfl, rfl⟩
  · rw [if_neg h]
    have e2 := wrap64_id (x := n.tmod m) (by omega) (by omega)
    go_enter Tryd.func12, Tryd.ntmps12
    go_wp2
    go_ret
    exact ⟨rfl, rfl⟩
end Go.Proofs.YtjmjabdokckdlaaDoor
