/- plan: Critical. -/
import Derived.Test.YtjmjabdokckdlaaDoorPlnJ
namespace Go.Proofs.YtjmjabdokckdlaaDoor
open Go.RowKit Go.Shelf
set_option linter.unusedVariables false
set_option linter.unusedSimpArgs false

/-- is a task at one time in both -/
noncomputable def crB (P : List Tk) (i : Nat) : Bool := decide ((eS P i).1 = (lS P (eN P) i).1)
noncomputable def crN (P : List Tk) (m : Nat) : List Nat := (List.range m).filter (crB P)
theorem crN_succ (P : List Tk) (m : Nat) : crN P (m + 1) = crN P m ++ if crB P m = true then [m] else [] := by
  unfold crN
  rw [List.range_succ, List.filter_append]
  congr 1
  cases h : crB P m <;> simp [h]
theorem crN_len (P : List Tk) (m : Nat) : (crN P m).length ≤ m := by
  unfold crN
  exact Nat.le_trans (List.length_filter_le _ _) (by rw [List.length_range]; exact Nat.le_refl _)
/-- the critical ones that are told -/
def CrV (w w' : World) (P : List Tk) (v : Value) : Prop := ∃ b, w.heap.size ≤ b ∧ OwnN w' b v (crN P P.length)
theorem CrV.step {w w' w'' : World} {P : List Tk} {v : Value} (h : CrV w w' P v) (hb : Below w'.heap.size w' w'') : CrV w w'' P v := let ⟨b, h1, h2⟩ := h; ⟨b, h1, own_bel h2 hb⟩
set_option maxRecDepth 100000 in
set_option maxHeartbeats 8000000 in
theorem Critical_any (P : List Tk) (v : Value) (w : World) (hv : TsAt w v P) :
    Calls Tryd.prog 34 #[v] w fun e w' => ∃ u, e = .returned (.tuple #[u, eP (chkP P)]) ∧ (chkP P = 0 → CrV w w' P u) ∧ Below w.heap.size w w' := by
  have KC := hide (check_any P v w hv)
  have KE := hide (fun hG W (hb : Below w.heap.size w W) => early_any (P := P) hG v W (hv.below hb))
  have KN := hide (fun q c W (hn : P.length ≤ 60) (hs : SpR q P.length (earS P (ord P)) W) => end_any P.length (earS P (ord P)) q c W (by omega) hs.at)
  have KL := hide (fun hG b h0 h1 W (hb : Below w.heap.size w W) => late_any (P := P) hG b h0 h1 v W (hv.below hb))
  obtain ⟨ad, cap, rfl, _⟩ := hv
  obtain ⟨i0, hi, hz0, hz1, hz2⟩ := info_parts int_info
  by_cases hk : chkP P = 0
  · have hg := (chk_good hk).1
    have h60 := hg.n60
    have hfit := fit_of hk
    rw [hk] at KC ⊢
    have e0 : eP 0 = .nilIface := rfl
    rw [e0] at KC ⊢
    go_enter Tryd.func34, Tryd.ntmps34
    go_wp2_with (first
      | (go_at_call 36; refine KC.out.mono ?_; rintro e W1 ⟨rfl, b1⟩; have HB1 := hide b1; clear b1)
      | (go_at_call 40; refine (KE.out hg _ HB1.out).mono ?_; rintro e W2 ⟨q, rfl, hq, hs, hT, b2⟩; have HF := hide (hfit hT); have HB2 := hide (HB1.out.trans (b2.mono HB1.out.size)); have HS := hide hs; clear hs hT b2)
      | (go_at_call 42; refine (KN.out _ _ _ hg.n60 HS.out).mono ?_; rintro e W3 ⟨rfl, b3⟩; have HB3 := hide (HB2.out.trans (b3.mono HB2.out.size)); have HS3 := hide (HS.out.step b3); clear b3)
      | (go_at_call 43; refine (KL.out hg _ (HF.out.bd.1) (by have := HF.out.bd.2; show eN P ≤ _; omega) _ HB3.out).mono ?_; rintro e W4 ⟨q2, rfl, hq2, hs, b4⟩; have HB4 := hide (HB3.out.trans (b4.mono HB3.out.size)); have HS4 := hide (HS3.out.step b4); have HL4 := hide hs; clear hs b4))
    have HS5 : Hid (SpR q P.length (eS P) W4) := HS4.out
    have HL5 : Hid (SpR q2 P.length (lS P (eN P)) W4) := HL4.out
    have hqz := HS4.out.lt
    have hqz2 := HL4.out.lt
    have hb4 := HB4.out.size
    have hgen : ∀ i, i < P.length → (eS P i).2 = (eS P i).1 + (tk P i).len ∧ (lS P (eN P) i).2 = (lS P (eN P) i).1 + (tk P i).len := fun i hi => ⟨(HF.out.fits i hi).1, (latS_shape P (eN P) (ord P) i).1⟩
    have HGEN := hide hgen
    clear HS4 HL4 HS HS3 HB1 HB2 HB3 hgen KC KE KN KL hq hq2
    go_loopw [7, 22] (fun rv j wr => ∃ m : Nat, m ≤ P.length ∧ j = .int .i64 m ∧ OwnN wr W4.heap.size rv (crN P m) ∧ Below W4.heap.size W4 wr) (fun _ j _ => P.length - (intOf j).toNat)
    case atStart => exact ⟨0, by omega, rfl, own_nil _ _, Below.refl _ _⟩
    case round =>
      obtain ⟨m, hm, rfl, ho, hB⟩ := hrel
      have hcl := crN_len P m
      have hsu := crN_succ P m
      by_cases hlt : m < P.length
      · have hmi : (m : Int) < (P.length : Int) := by omega
        have x0 := ((HS5.out.step hB).at m hlt).1
        have x1 := ((HS5.out.step hB).at m hlt).2
        have y0 := ((HL5.out.step hB).at m hlt).1
        have y1 := ((HL5.out.step hB).at m hlt).2
        obtain ⟨g1, g2⟩ := HGEN.out m hlt
        have HO := hide ho
        have HB := hide hB
        have hz := hB.size
        clear ho hB
        rw [g1] at x1
        rw [g2] at y1
        unfold crB at hsu
        generalize (tk P m).len = tl at *
        generalize crN P m = r at *
        clear g1 g2
        by_cases he : (eS P m).1 = (lS P (eN P) m).1
        · rw [decide_eq_true he, if_pos rfl] at hsu
          rw [← he] at y0 y1
          clear he
          generalize (eS P m).1 = a at *
          go_wp2_with fail
          go_quiet (fail)
          have hbq := bdr (Below.refl wr.heap.size wr) nq
          have hown := own_bel HO.out hbq
          have hBq := HB.out.trans (hbq.mono hz)
          have hzq : W4.heap.size ≤ (wr.drewN nq).heap.size := hBq.size
          go_wp2_with (at_builtin; refine wpList_append_own _ rfl _ _ 31 rfl W4.heap.size 3 i0 (.int .i64 0) 1 8 Tryd.underlying31 hi hz0 hz1 hz2 rfl (by decide) _ _ _ rfl (hown.alloc _) ⟨(wr.drewN nq).heap.size, 0, none⟩ 1 1 [.int .i64 m] rfl rfl (cell_one_new _ _ _) (ints_oneCell .i64 [(m : Int)]) (by unfold maxLen; omega) (by omega) (by simp; omega) ?_; intro v' w1 hown1 hgrow1 hnil1)
          have hr1 := hown.alloc (.cells #[.int .i64 (m : Int)] 3)
          go_roundw
          case rel => exact ⟨m + 1, by omega, by go_num, by rw [hsu]; unfold OwnN; rw [nV_snoc, List.length_append]; exact hown1, (hBq.alloc hzq _).grown hgrow1 (by simp; omega) (fun j hj => (hr1.lt j hj).1)⟩
          case measure => simp [intOf]; omega
        · rw [decide_eq_false he, if_neg (by simp), List.append_nil] at hsu
          generalize (eS P m).1 = a at *
          generalize (lS P (eN P) m).1 = b at *
          go_wp2_with fail
          go_quiet (fail)
          have hbq := bdr (Below.refl wr.heap.size wr) nq
          go_wp2
          go_roundw
          case rel => exact ⟨m + 1, by omega, by go_num, by rw [hsu]; exact own_bel HO.out hbq, HB.out.trans (hbq.mono hz)⟩
          case measure => simp [intOf]; omega
      · obtain rfl : m = P.length := by omega
        have HO := hide ho
        have HB := hide hB
        clear ho hB
        go_wp2_with fail
        go_ret2
        exact ⟨_, rfl, fun _ => ⟨_, hb4, HO.out⟩, HB4.out.trans (HB.out.mono hb4)⟩
  · rw [eP_ne hk] at KC ⊢
    go_enter Tryd.func34, Tryd.ntmps34
    go_wp2_with (go_at_call 36; refine KC.out.mono ?_; rintro e W1 ⟨rfl, b1⟩; have HB1 := hide b1)
    go_ret2
    exact ⟨_, rfl, fun h => absurd h hk, HB1.out⟩
end Go.Proofs.YtjmjabdokckdlaaDoor
