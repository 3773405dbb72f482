/- the reference of plans: Early, End. -/
import Derived.Test.YtjmjabdokckdlaaDoorRpC
namespace Go.Proofs.YtjmjabdokckdlaaDoor
open Go.RowKit
set_option linter.unusedVariables false
set_option linter.unusedSimpArgs false

theorem Topo.last {P : List Tk} {l : List Nat} {i : Nat} (h : Topo P (l ++ [i])) : ∀ x ∈ (tk P i).links, x.t.toNat ∈ l := by
  generalize hq : l ++ [i] = q at h
  cases h with
  | nil => simp at hq
  | snoc r j h hi hn hl =>
    obtain ⟨rfl, e⟩ := List.append_inj' hq rfl
    obtain rfl : i = j := by simpa using e
    exact hl
theorem earS_placed {P : List Tk} {r : List Nat} (hT : Topo P r) (m : Nat) (hm : m < r.length) : ∀ x ∈ (tk P r[m]).links, (earS P (r.take m) x.t.toNat).2 = (earS P (r.take m) x.t.toNat).1 + (tk P x.t.toNat).len := fun x hx => by
  have h := hT.take (m + 1)
  rw [List.take_succ_eq_append_getElem hm] at h
  rw [earS_fix (hT.take m) _ (h.last x hx)]
  rfl
set_option maxRecDepth 100000 in
set_option maxHeartbeats 8000000 in
theorem rearly_any (P : List Tk) (v : Value) (w : World) (hv : TsAt w v P) :
    Calls Tryd.prog 9 #[v] w fun e w' => ∃ u, e = .returned (.tuple #[u, .int .i64 (chkP P)]) ∧ SpV w w' P.length (eS P) (chkP P) u ∧ (chkP P = 0 → Fit P) ∧ Below w.heap.size w w' := by
  have HV := hide hv
  have KC := hide (rcheck_any P v w hv)
  obtain ⟨ad, cap, rfl, hall⟩ := hv
  have HALL := hide hall
  clear hall
  by_cases hk : chkP P = 0
  · have hg := (chk_good hk).1
    have h60 := hg.n60
    have KO := hide (fun W (hb : Below w.heap.size w W) => rorder_any hg _ W (HV.out.below hb))
    have HG := hide hg
    have HK := hide hk
    rw [hk] at KC ⊢
    clear hg hk
    obtain ⟨i0, hi, hz0, hz1, hz2⟩ := info_parts span_info
    go_enter Tryd.func9, Tryd.ntmps9
    go_wp2_with (first
      | (go_at_call 20; refine KC.out.mono ?_; rintro e W1 ⟨rfl, b1⟩; have HB1 := hide b1; clear b1)
      | (refine wpList_make_full _ rfl (.tmp 15) (.tmp 15) 23 rfl W1.heap.size 37 i0 (.agg #[.int .i64 0, .int .i64 0]) 2 Tryd.underlying23 hi hz0 hz1 .i64 .i64 _ _ P.length rfl rfl rfl rfl (by rw [hz2]; omega) (by unfold maxLen; omega) (Nat.le_refl _) ?_; intro W2 hown hgrow; have hs0 := made_sp hown; have hb2 : Below W1.heap.size W1 W2 := Below.grown (Below.refl _ W1) hgrow (Nat.le_refl _) (fun k hk => by cases hk); have hq1 := hs0.lt; have H2 := hide (And.intro hs0 hb2); have HB2 := hide (HB1.out.trans (hb2.mono HB1.out.size)); clear hown hgrow hs0 hb2)
      | (go_at_call 29; refine (KO.out _ HB2.out).mono ?_; rintro e W3 ⟨u, rfl, ho, hT, hb3⟩; have hE : EaS W1 P.length (fun _ => (0, 0)) W2.heap.size u (ord P) W3 := ⟨H2.out.1.step hb3, ho, H2.out.2.trans (hb3.mono H2.out.2.size)⟩; obtain ⟨ua, uc, rfl⟩ := (own_len ho).2; have HE := hide hE; have HT := hide hT; clear hE ho hb3 hT))
    clear H2 KO KC HB2
    have hfit := fit_of HK.out HT.out
    have HFT := hide hfit
    generalize hr : ord P = r at *
    have hrl := HT.out.le
    generalize hbase : W2.heap.size = base at *
    have hq1b : W1.heap.size < base := by omega
    clear hbase hfit
    have hz1w := HB1.out.size
    go_loopw [20] (fun i wr => ∃ m : Nat, m ≤ r.length ∧ i = .int .i64 m ∧ EaS W1 P.length (earS P (r.take m)) base (.slice ua r.length uc) r wr) (fun i _ => r.length - (intOf i).toNat)
    case atStart => exact ⟨0, by omega, rfl, HE.out⟩
    case round =>
      clear HE
      obtain ⟨m, hm, rfl, hE⟩ := hrel
      by_cases hlt : m < r.length
      · have hmi : (m : Int) < (r.length : Int) := by omega
        have hir := HT.out.lt r[m] (List.getElem_mem hlt)
        have hst := earS_take P r m hlt
        have hbd := earS_spbd HG.out (HT.out.take m)
        have hpl := earS_placed HT.out m hlt
        have hsn : -4000000000000 ≤ soon P r[m] (earS P (r.take m)) ∧ soon P r[m] (earS P (r.take m)) ≤ 4000000000000 := by
          have h1 := earS_spbd HG.out (HT.out.take (m + 1)) r[m] hir
          rw [hst, upS_same] at h1
          exact ⟨h1.1, h1.2.1⟩
        obtain ⟨c0, ec0⟩ : ∃ c0, wr.cell? ⟨c0, m, none⟩ = some (.int .i64 ((r[m] : Nat) : Int)) ∧ ua = some ⟨c0, 0, none⟩ := by
          rcases hE.own.2 with ⟨e, e0⟩ | ⟨g, cap, cur, e, _⟩
          · omega
          · obtain ⟨rfl, rfl⟩ : ua = some ⟨g, 0, none⟩ ∧ uc = cap := by simpa using e
            exact ⟨g, (hE.own.cellAt m (by omega)).trans (nV_at r m hlt), rfl⟩
        obtain ⟨hcm, rfl⟩ := ec0
        obtain ⟨g, o, lv, uv, rfl, y0, y1, y2, y3, hls, hus⟩ := HALL.out r[m] hir
        have hlen := HG.out.len r[m] hir
        have hwr : Below w.heap.size w wr := HB1.out.trans (hE.b.mono hz1w)
        have KS := hide (rsoonest_any HG.out r[m] hir (earS P (r.take m)) hbd hpl _ W1.heap.size P.length wr (HV.out.below hwr) hE.sp.at)
        have x0 := (hwr.cell (World.block_lt_of_cell? w _ y0)).trans y0
        have hii : ((r[m] : Nat) : Int) < (P.length : Int) := by omega
        have HE := hide hE
        have hplc : plc P r[m] (soon P r[m] (earS P (r.take m))) = (soon P r[m] (earS P (r.take m)), soon P r[m] (earS P (r.take m)) + (tk P r[m]).len) := rfl
        rw [hplc] at hst
        clear y0 y1 y2 y3 hls hus hbd hpl hplc hE hwr
        generalize soon P r[m] (earS P (r.take m)) = sv at *
        generalize earS P (r.take m) = s at *
        generalize (tk P r[m]).len = tl at *
        generalize r[m] = i at *
        have hwrp := wrap64_id (x := sv + tl) (by omega) (by omega)
        go_wp2_with (go_at_call 30; refine KS.out.mono ?_; rintro e X ⟨rfl, hx⟩; have hEx := HE.out.step hx; have hcx := (hEx.sp.at i hir).1; have hcy := (hEx.sp.at i hir).2; have hfx := hEx.sp.froz (i * 2); have hfy := hEx.sp.froz (i * 2 + 1); have x0' := (hx.cell (World.block_lt_of_cell? wr _ x0)).trans x0; have HEX := hide hEx; clear hEx hx)
        have hSE := HEX.out.set hq1b i hir sv (sv + tl)
        go_roundw
        case rel => exact ⟨m + 1, by omega, by go_num, by rw [hst]; exact hSE⟩
        case measure => simp [intOf]; omega
      · obtain rfl : m = r.length := by omega
        rw [List.take_length] at hE
        have HE := hide hE
        clear hE
        go_wp2_with fail
        go_ret2
        exact ⟨_, rfl, ⟨fun _ => ⟨_, rfl, hz1w, by unfold eS; rw [hr]; exact HE.out.sp⟩, fun h => absurd rfl h⟩, fun _ => HFT.out, HB1.out.trans (HE.out.b.mono hz1w)⟩
  · have hkb : ((chkP P : Int) == 0) = false := beq_eq_false_iff_ne.2 hk
    have HK := hide hk
    generalize chkP P = c at *
    go_enter Tryd.func9, Tryd.ntmps9
    go_wp2_with (go_at_call 20; refine KC.out.mono ?_; rintro e W1 ⟨rfl, b1⟩; have HB1 := hide b1)
    go_ret2
    exact ⟨_, rfl, ⟨fun h => absurd h HK.out, fun _ => rfl⟩, fun h => absurd h HK.out, HB1.out⟩
set_option maxHeartbeats 4000000 in
theorem rend_any (P : List Tk) (v : Value) (w : World) (hv : TsAt w v P) :
    Calls Tryd.prog 11 #[v] w fun e w' => e = .returned (.tuple #[.int .i64 (eNv P), .int .i64 (chkP P)]) ∧ (chkP P = 0 → Fit P) ∧ Below w.heap.size w w' := by
  have KE := hide (rearly_any P v w hv)
  obtain ⟨ad, cap, rfl, _⟩ := hv
  by_cases hk : chkP P = 0
  · have en : eNv P = endS P.length (eS P) := by unfold eNv; rw [if_pos hk]; rfl
    have h60 := (chk_good hk).1.n60
    rw [hk] at KE ⊢
    rw [en]
    go_enter Tryd.func11, Tryd.ntmps11
    go_wp2_with (go_at_call 9; refine KE.out.mono ?_; rintro e W1 ⟨u, rfl, hs, hf, b1⟩; obtain ⟨q, rfl, hq, hsp⟩ := (by first | exact hs.1 rfl | exact hs.1 trivial : ∃ q, u = .slice (some ⟨q, 0, none⟩) P.length P.length ∧ w.heap.size ≤ q ∧ SpR q P.length (eS P) W1); have HF := hide hf; have HB1 := hide b1; have HS := hide hsp; clear hs hf b1 hsp)
    generalize hes : eS P = s at *
    go_loopw [6, 7] (fun b j wr => ∃ m : Nat, m ≤ P.length ∧ j = .int .i64 m ∧ b = .int .i64 (endS m s) ∧ Below W1.heap.size W1 wr) (fun _ j _ => P.length - (intOf j).toNat)
    case atStart => exact ⟨0, by omega, rfl, rfl, Below.refl _ _⟩
    case round =>
      obtain ⟨m, hm, rfl, rfl, hB⟩ := hrel
      by_cases hlt : m < P.length
      · have hmi : (m : Int) < (P.length : Int) := by omega
        have y1 := ((HS.out.step hB).at m hlt).2
        have hst := endS_succ m s
        have HB := hide hB
        clear hB
        generalize endS m s = b at *
        generalize (s m).2 = z at *
        go_wp2_with fail
        go_roundw
        case rel => exact ⟨m + 1, by omega, by go_num, by rw [hst, max_if], HB.out⟩
        case measure => simp [intOf]; omega
      · obtain rfl : m = P.length := by omega
        have HB := hide hB
        clear hB
        go_wp2_with fail
        go_ret2
        exact ⟨by rw [hes]; rfl, fun _ => (by first | exact HF.out rfl | exact HF.out trivial | exact HF.out), HB1.out.trans (HB.out.mono HB1.out.size)⟩
  · have en : eNv P = 0 := by unfold eNv; rw [if_neg hk]
    rw [en]
    have HK := hide hk
    generalize chkP P = c at *
    go_enter Tryd.func11, Tryd.ntmps11
    go_wp2_with (go_at_call 9; refine KE.out.mono ?_; rintro e W1 ⟨u, rfl, hs, hf, b1⟩; obtain rfl := hs.2 HK.out; have HB1 := hide b1; clear hs hf b1)
    go_loopw [6, 7] (fun b j wr => j = .int .i64 0 ∧ b = .int .i64 0 ∧ wr = W1) (fun _ _ _ => 0)
    case atStart => exact ⟨rfl, rfl, rfl⟩
    case round =>
      obtain ⟨rfl, rfl, rfl⟩ := hrel
      go_wp2_with fail
      go_ret2
      exact ⟨rfl, fun h => absurd h HK.out, HB1.out⟩
end Go.Proofs.YtjmjabdokckdlaaDoor
