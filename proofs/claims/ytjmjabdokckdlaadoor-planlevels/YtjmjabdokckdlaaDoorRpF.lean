/- the reference of plans: Late whole, Critical. -/
import Derived.Test.YtjmjabdokckdlaaDoorRpE
import Derived.Test.YtjmjabdokckdlaaDoorPlnN
namespace Go.Proofs.YtjmjabdokckdlaaDoor
open Go.RowKit Go.Shelf
set_option linter.unusedVariables false
set_option linter.unusedSimpArgs false

/-- spans in a slice that are told, or none -/
def SsV (W : World) (n : Nat) (s : Sp) (c : Int) (v : Value) : Prop := (c = 0 → SsAt W v n s) ∧ (c ≠ 0 → v = .slice none 0 0)
theorem SsV.step {W W' : World} {n : Nat} {s : Sp} {c : Int} {v : Value} (h : SsV W n s c v) (hb : Below W.heap.size W W') : SsV W' n s c v := ⟨fun e => (h.1 e).below hb, h.2⟩
set_option maxRecDepth 100000 in
set_option maxHeartbeats 4000000 in
theorem rlate_any (P : List Tk) (b : Int) (v : Value) (w : World) (hv : TsAt w v P) :
    Calls Tryd.prog 14 #[v, .int .i64 b] w fun e w' => ∃ u, e = .returned (.tuple #[u, .int .i64 (latE P b)]) ∧ SsV w' P.length (lS P b) (latE P b) u ∧ Below w.heap.size w w' := by
  have KN := hide (rend_any P v w hv)
  by_cases hk : chkP P = 0
  · have en : eNv P = eN P := by unfold eNv; rw [if_pos hk]
    by_cases h1 : b < eN P
    · have hE : latE P b = 12 := by unfold latE; rw [if_pos hk, if_pos h1]
      rw [hE]
      obtain ⟨ad, cap, rfl, _⟩ := hv
      rw [en, hk] at KN
      generalize eN P = N at *
      go_enter Tryd.func14, Tryd.ntmps14
      go_wp2_with (go_at_call 11; refine KN.out.mono ?_; rintro e W1 ⟨rfl, hf, b1⟩; have HB1 := hide b1; clear hf b1)
      go_ret2
      exact ⟨_, rfl, ⟨(fun h => by cases h), fun _ => rfl⟩, HB1.out⟩
    · by_cases h2 : 1099511627776 < b
      · have hE : latE P b = 4 := by unfold latE; rw [if_pos hk, if_neg h1, if_pos h2]
        rw [hE]
        obtain ⟨ad, cap, rfl, _⟩ := hv
        rw [en, hk] at KN
        generalize eN P = N at *
        go_enter Tryd.func14, Tryd.ntmps14
        go_wp2_with (go_at_call 11; refine KN.out.mono ?_; rintro e W1 ⟨rfl, hf, b1⟩; have HB1 := hide b1; clear hf b1)
        go_ret2
        exact ⟨_, rfl, ⟨(fun h => by cases h), fun _ => rfl⟩, HB1.out⟩
      · have hE : latE P b = 0 := by unfold latE; rw [if_pos hk, if_neg h1, if_neg h2]
        rw [hE]
        exact (rlate_yes P b v w hv hk h1 h2).mono fun e w' ⟨u, he, hs, hb⟩ => ⟨u, he, ⟨fun _ => hs, fun h => absurd rfl h⟩, hb⟩
  · have en : eNv P = 0 := by unfold eNv; rw [if_neg hk]
    have hE : latE P b = chkP P := by unfold latE; rw [if_neg hk]
    rw [hE]
    obtain ⟨ad, cap, rfl, _⟩ := hv
    rw [en] at KN
    have hkb : ((chkP P : Int) == 0) = false := beq_eq_false_iff_ne.2 hk
    have HK := hide hk
    generalize chkP P = c at *
    go_enter Tryd.func14, Tryd.ntmps14
    go_wp2_with (go_at_call 11; refine KN.out.mono ?_; rintro e W1 ⟨rfl, hf, b1⟩; have HB1 := hide b1; clear hf b1)
    go_ret2
    exact ⟨_, rfl, ⟨fun h => absurd h HK.out, fun _ => rfl⟩, HB1.out⟩
theorem latE_eN {P : List Tk} (hF : Fit P) (hk : chkP P = 0) : latE P (eN P) = 0 := by
  have := hF.bd
  unfold latE
  rw [if_pos hk, if_neg (by omega), if_neg (by omega)]
set_option maxRecDepth 100000 in
set_option maxHeartbeats 8000000 in
theorem rcrit_any (P : List Tk) (v : Value) (w : World) (hv : TsAt w v P) :
    Calls Tryd.prog 16 #[v] w fun e w' => ∃ u, e = .returned (.tuple #[u, .int .i64 (chkP P)]) ∧ (chkP P = 0 → CrV w w' P u) ∧ (chkP P ≠ 0 → u = .slice none 0 0) ∧ Below w.heap.size w w' := by
  have KN := hide (rend_any P v w hv)
  have KE := hide (fun W (hb : Below w.heap.size w W) => rearly_any P v W (hv.below hb))
  have KL := hide (fun W (hb : Below w.heap.size w W) => rlate_any P (eN P) v W (hv.below hb))
  obtain ⟨ad, cap, rfl, _⟩ := hv
  obtain ⟨i0, hi, hz0, hz1, hz2⟩ := info_parts int_info
  by_cases hk : chkP P = 0
  · have en : eNv P = eN P := by unfold eNv; rw [if_pos hk]
    have h60 := (chk_good hk).1.n60
    have KLE := hide (fun hF : Fit P => latE_eN hF hk)
    rw [hk, en] at KN
    simp only [hk] at KE
    rw [hk]
    go_enter Tryd.func16, Tryd.ntmps16
    go_wp2_with (first
      | (go_at_call 11; refine KN.out.mono ?_; rintro e W1 ⟨rfl, hf, b1⟩; have HB1 := hide b1; have HF : Hid (Fit P) := (by first | exact hf rfl | exact hf trivial | exact hf); clear hf b1)
      | (go_at_call 9; refine (KE.out _ HB1.out).mono ?_; rintro e W2 ⟨u2, rfl, hs, hf, b2⟩; obtain ⟨q, rfl, hq, hsp⟩ := (by first | exact hs.1 rfl | exact hs.1 trivial : ∃ q, u2 = .slice (some ⟨q, 0, none⟩) P.length P.length ∧ W1.heap.size ≤ q ∧ SpR q P.length (eS P) W2); have HB2 := hide (HB1.out.trans (b2.mono HB1.out.size)); have HS2 := hide hsp; clear hs hf b2 hsp)
      | (go_at_call 14; refine (KL.out _ HB2.out).mono ?_; rintro e W3 ⟨u3, rfl, hs, b3⟩; obtain ⟨la, lc, rfl, hls⟩ := hs.1 (KLE.out HF.out); have HB3 := hide (HB2.out.trans (b3.mono HB2.out.size)); have HS3 := hide (HS2.out.step b3); have HL3 := hide hls; clear hs b3 hls))
    have hqz := HS3.out.lt
    have hb3 := HB3.out.size
    have hgen : ∀ i, i < P.length → (eS P i).2 = (eS P i).1 + (tk P i).len ∧ (lS P (eN P) i).2 = (lS P (eN P) i).1 + (tk P i).len := fun i hi => ⟨(earS_fits HF.out.t HF.out.l i hi).1, (latS_shape P (eN P) (ord P) i).1⟩
    have HGEN := hide hgen
    clear HS2 HB1 HB2 hgen KE KN KL hq
    go_loopw [10, 11] (fun rv j wr => ∃ m : Nat, m ≤ P.length ∧ j = .int .i64 m ∧ OwnN wr W3.heap.size rv (crN P m) ∧ Below W3.heap.size W3 wr) (fun _ j _ => P.length - (intOf j).toNat)
    case atStart => exact ⟨0, by omega, rfl, own_nil _ _, Below.refl _ _⟩
    case round =>
      obtain ⟨m, hm, rfl, ho, hB⟩ := hrel
      have hcl := crN_len P m
      have hsu := crN_succ P m
      by_cases hlt : m < P.length
      · have hmi : (m : Int) < (P.length : Int) := by omega
        have x0 := ((HS3.out.step hB).at m hlt).1
        have x1 := ((HS3.out.step hB).at m hlt).2
        obtain ⟨q2, rfl, z0, z1⟩ := HL3.out m hlt
        have y0 := (hB.cell (World.block_lt_of_cell? W3 _ z0)).trans z0
        have y1 := (hB.cell (World.block_lt_of_cell? W3 _ z1)).trans z1
        obtain ⟨g1, g2⟩ := HGEN.out m hlt
        have HO := hide ho
        have HB := hide hB
        have hz := hB.size
        clear ho hB z0 z1
        rw [g1] at x1
        rw [g2] at y1
        unfold crB at hsu
        generalize (tk P m).len = tl at *
        generalize crN P m = r at *
        clear g1 g2
        by_cases he : (eS P m).1 = (lS P (eN P) m).1
        · rw [decide_eq_true he, if_pos rfl] at hsu
          rw [← he] at y0 y1
          clear he
          generalize (eS P m).1 = a at *
          go_wp2_with fail
          go_quiet (fail)
          have hbq := bdr (Below.refl wr.heap.size wr) nq
          have hown := own_bel HO.out hbq
          have hBq := HB.out.trans (hbq.mono hz)
          have hzq : W3.heap.size ≤ (wr.drewN nq).heap.size := hBq.size
          go_wp2_with (at_builtin; refine wpList_append_own _ rfl _ _ 31 rfl W3.heap.size 3 i0 (.int .i64 0) 1 8 Tryd.underlying31 hi hz0 hz1 hz2 rfl (by decide) _ _ _ rfl (hown.alloc _) ⟨(wr.drewN nq).heap.size, 0, none⟩ 1 1 [.int .i64 m] rfl rfl (cell_one_new _ _ _) (ints_oneCell .i64 [(m : Int)]) (by unfold maxLen; omega) (by omega) (by simp; omega) ?_; intro v' w1 hown1 hgrow1 hnil1)
          have hr1 := hown.alloc (.cells #[.int .i64 (m : Int)] 3)
          go_roundw
          case rel => exact ⟨m + 1, by omega, by go_num, by rw [hsu]; unfold OwnN; rw [nV_snoc, List.length_append]; exact hown1, (hBq.alloc hzq _).grown hgrow1 (by simp; omega) (fun j hj => (hr1.lt j hj).1)⟩
          case measure => simp [intOf]; omega
        · rw [decide_eq_false he, if_neg (by simp), List.append_nil] at hsu
          generalize (eS P m).1 = a at *
          generalize (lS P (eN P) m).1 = b at *
          have hab : (a == b) = false := beq_eq_false_iff_ne.2 he
          have hab2 : decide (a = b) = false := decide_eq_false he
          go_wp2_with fail
          go_quiet (fail)
          go_wp2_with fail
          have hbq := bdr (Below.refl wr.heap.size wr) nq
          go_roundw
          case rel => exact ⟨m + 1, by omega, by go_num, by rw [hsu]; exact own_bel HO.out hbq, HB.out.trans (hbq.mono hz)⟩
          case measure => simp [intOf]; omega
      · obtain rfl : m = P.length := by omega
        have HO := hide ho
        have HB := hide hB
        clear ho hB
        go_wp2_with fail
        go_ret2
        exact ⟨_, rfl, fun _ => ⟨W3.heap.size, hb3, HO.out⟩, fun h => absurd rfl h, HB3.out.trans (HB.out.mono hb3)⟩
  · have en : eNv P = 0 := by unfold eNv; rw [if_neg hk]
    rw [en] at KN
    have hkb : ((chkP P : Int) == 0) = false := beq_eq_false_iff_ne.2 hk
    have HK := hide hk
    generalize chkP P = c at *
    go_enter Tryd.func16, Tryd.ntmps16
    go_wp2_with (go_at_call 11; refine KN.out.mono ?_; rintro e W1 ⟨rfl, hf, b1⟩; have HB1 := hide b1; clear hf b1)
    go_ret2
    exact ⟨_, rfl, fun h => absurd h HK.out, fun _ => rfl, HB1.out⟩
end Go.Proofs.YtjmjabdokckdlaaDoor
