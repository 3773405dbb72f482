/- PlanEnough, walked. -/
import Derived.Test.YtjmjabdokckdlaaDoorPlnL
import Derived.Test.YtjmjabdokckdlaaDoorPlnI
namespace Go.Proofs.YtjmjabdokckdlaaDoor
open Go.RowKit Go.Shelf
set_option linter.unusedVariables false
set_option linter.unusedSimpArgs false

theorem plevel_any (P : List Tk) (H : List Int) (tv hv : Value) (w : World) (hd : Hd w) (hT : TsAt w tv P) (hH : NsAt w hv H) :
    Calls Tryd.prog 23 #[tv, hv] w fun e w' => ∃ u, e = .returned (.tuple #[u, .int .i64 (lvE P H)]) ∧ SpV w w' P.length (lvS P H) (lvE P H) u ∧ (lvE P H = 0 → Fit P ∧ hasNeg H = false ∧ NoClash P H P.length) ∧ Below w.heap.size w w' := by
  have KC := hide (Level_any P H tv hv w hT hH)
  have KT := hide (fun c X (h : Below w.heap.size w X) => tell_eP c X (hd.later h))
  obtain ⟨ad, cap, rfl, _⟩ := hT
  obtain ⟨ha, hc, rfl, _⟩ := hH
  clear hd
  go_enter Tryd.func23, Tryd.ntmps23
  go_wp2_with (first
    | (go_at_call 37; refine KC.out.mono ?_; rintro e W1 ⟨u, rfl, hs, hf, b1⟩; have HB1 := hide b1)
    | (go_at_call 28; refine (KT.out _ _ HB1.out).mono ?_; rintro e W2 ⟨rfl, b2⟩))
  go_ret2
  exact ⟨u, rfl, hs.step b2, hf, HB1.out.trans (b2.mono HB1.out.size)⟩
/-- what the law asks of a levelled plan -/
structure Enf (P : List Tk) (H : List Int) (s : Sp) (st : Nat → Bool) : Prop where
  fit : Fits P s
  bd : ∀ j, 0 ≤ (s j).1 ∧ (s j).1 ≤ (s j).2 ∧ (s j).2 ≤ 4000000 * P.length
  all : ∀ i, i < P.length → st i = true
  use : ∀ r t, usd P s st r t P.length ≤ amt H r
  early : ∀ i, i < P.length → (eS P i).1 ≤ (s i).1
theorem enf_of {P : List Tk} {H : List Int} (hF : Fit P) (hH : hasNeg H = false) (hU : NoClash P H P.length) : ∃ st, Enf P H (lvS P H) st := by
  have hH0 : ∀ x ∈ H, 0 ≤ x := fun x hx => by
    have := List.any_eq_false.1 (show H.any (fun n => decide (n < 0)) = false from hH) x hx
    simpa using this
  obtain ⟨hL, hc, _⟩ := lvN_lev hF H hH0 (lS P (eN P)) hU P.length (Nat.le_refl _)
  obtain ⟨hf, hu⟩ := lvN_fits hF H hH0 (lS P (eN P)) hU
  refine ⟨(lvN P H (lS P (eN P)) P.length).2, hf, hL.bd, cntN_all _ _ hc, hu, fun i hi => ?_⟩
  exact earS_least hF.g hF.t (fun j => (lvS P H j).1) (fun j hj => ⟨(hf j hj).2.1, (hf j hj).2.2⟩) i hi
set_option maxRecDepth 100000 in
set_option maxHeartbeats 8000000 in
theorem enough_yes (P : List Tk) (H : List Int) (tv hv : Value) (w : World) (hd : Hd w) (hT : TsAt w tv P) (hH : NsAt w hv H) (hk : lvE P H = 0) (h2 : ¬ 200 < H.length) :
    Calls Tryd.prog 7 #[tv, hv] w fun e w' => e = .returned (.bool true) ∧ Below w.heap.size w w' := by
  have hck : chkP P = 0 := by
    unfold lvE at hk
    by_cases h : chkP P = 0
    · exact h
    · rw [if_neg h] at hk; exact hk
  have hG := (chk_good hck).1
  have h60 := hG.n60
  have h1i : ¬ (200 : Int) < (P.length : Int) := by omega
  have h2i : ¬ (200 : Int) < (H.length : Int) := by omega
  have KL := hide (plevel_any P H tv hv w hd hT hH)
  have KE := hide (fun W (hb : Below w.heap.size w W) => pearly_any P tv W (hd.later hb) (hT.below hb))
  have KF := hide (fun (st : Nat → Bool) (hE : Enf P H (lvS P H) st) q W (hb : Below w.heap.size w W) (hs : SpR q P.length (lvS P H) W) => fits_any hG (lvS P H) hE.fit (fun t ht => by have := hE.bd t; omega) tv q P.length W (hT.below hb) hs.at)
  have HT := hide hT
  have HH := hide hH
  have HG := hide hG
  obtain ⟨ad, cap, rfl, hall⟩ := hT
  obtain ⟨ha, hc, rfl, hhs⟩ := hH
  have HALL := hide hall
  have HHS := hide hhs
  rw [hk] at KL
  simp only [hck] at KE
  clear hd hall hhs hG
  generalize hlv : lvS P H = s at *
  go_enter Tryd.func7, Tryd.ntmps7
  go_wp2_with (first
    | (go_at_call 23; refine KL.out.mono ?_; rintro e W1 ⟨u, rfl, hs, hf, b1⟩; obtain ⟨q, rfl, hq1, hsp⟩ := (by first | exact hs.1 rfl | exact hs.1 trivial : ∃ q, u = .slice (some ⟨q, 0, none⟩) P.length P.length ∧ w.heap.size ≤ q ∧ SpR q P.length s W1); obtain ⟨hFit, hneg, hcl⟩ := (by first | exact hf rfl | exact hf trivial : Fit P ∧ hasNeg H = false ∧ NoClash P H P.length); obtain ⟨st, hE⟩ := enf_of hFit hneg hcl; rw [hlv] at hE; have HE := hide hE; have HB1 := hide b1; have HS1 := hide hsp; clear hs hf b1 hsp hE hcl)
    | (go_at_call 8; refine (KE.out _ HB1.out).mono ?_; rintro e W2 ⟨u2, rfl, hs, hf, b2⟩; obtain ⟨qe, rfl, hqe, hspe⟩ := hs.1 rfl; have HB2 := hide (HB1.out.trans (b2.mono HB1.out.size)); have HS2 := hide (HS1.out.step b2); have HP2 := hide hspe; clear hs hf b2 hspe)
    | (go_at_call 25; refine (KF.out st HE.out q _ HB2.out HS2.out).mono ?_; rintro e W3 ⟨rfl, b3⟩; have HB3 := hide (HB2.out.trans (b3.mono HB2.out.size)); have HS3 := hide (HS2.out.step b3); have HP3 := hide (HP2.out.step b3); clear b3))
  clear KL KE KF HB1 HB2 HS1 HS2 HP2
  have hq3 := HS3.out.lt
  have hqe3 := HP3.out.lt
  go_loopw [9] (fun j wr => ∃ i : Nat, i ≤ P.length ∧ j = .int .i64 i ∧ Below W3.heap.size W3 wr) (fun j _ => P.length - (intOf j).toNat)
  case atStart => exact ⟨0, by omega, rfl, Below.refl _ _⟩
  case round =>
    obtain ⟨i, hi, rfl, hB⟩ := hrel
    by_cases hil : i < P.length
    · have hii : (i : Int) < (P.length : Int) := by omega
      have s0 := ((HS3.out.step hB).at i hil).1
      have e0 := ((HP3.out.step hB).at i hil).1
      have hle := HE.out.early i hil
      have hbi := HE.out.bd i
      have d1 : decide ((s i).1 < (eS P i).1) = false := decide_eq_false (by omega)
      have HB := hide hB
      have HSI := hide (fun W (hb : Below W3.heap.size W3 W) => ((HS3.out.step hb).at i hil).1)
      clear hB hle
      generalize hsi : (s i).1 = t at *
      generalize (eS P i).1 = te at *
      go_wp2_with fail
      go_quiet (fail)
      go_wp2_with fail
      go_loopw [10] (fun j wr => ∃ r : Nat, r ≤ H.length ∧ j = .int .i64 r ∧ Below W3.heap.size W3 wr) (fun j _ => H.length - (intOf j).toNat)
      case atStart => exact ⟨0, by omega, rfl, by repeat (first | exact HB.out | apply bdr)⟩
      case round =>
        obtain ⟨r, hr, rfl, hB⟩ := hrel
        by_cases hrl : r < H.length
        · have hri : (r : Int) < (H.length : Int) := by omega
          have HB := hide hB
          clear hB s0 e0
          go_wp2_with fail
          go_loopw [11, 12] (fun nv j wr => ∃ k : Nat, k ≤ P.length ∧ j = .int .i64 k ∧ nv = .int .i64 (usd P s st r t k) ∧ Below W3.heap.size W3 wr) (fun _ j _ => P.length - (intOf j).toNat)
          case atStart => exact ⟨0, by omega, rfl, rfl, HB.out⟩
          case round =>
            clear HB
            obtain ⟨k, hk, rfl, rfl, hB⟩ := hrel
            by_cases hkl : k < P.length
            · have hki : (k : Int) < (P.length : Int) := by omega
              have k0 := ((HS3.out.step hB).at k hkl).1
              have k1 := ((HS3.out.step hB).at k hkl).2
              have s0 := HSI.out wr hB
              have hbk := HE.out.bd k
              have hsu : usd P s st r t (k + 1) = usd P s st r t k + if st k = true ∧ (s k).1 ≤ t ∧ t < (s k).2 then amt (tk P k).uses r else 0 := rfl
              have hub := usd_bd HG.out s st r t k (by omega)
              have ham := amt_bd HG.out k hkl r
              rw [HE.out.all k hkl] at hsu
              have hbw : Below w.heap.size w wr := HB3.out.trans (hB.mono HB3.out.size)
              obtain ⟨tg, to, lv, uv, rfl, _, _, _, y3, _, hus⟩ := HALL.out k hkl
              obtain ⟨ua, uc, rfl, hul⟩ := hus
              have x3 := (hbw.cell (World.block_lt_of_cell? w _ y3)).trans y3
              have hua : amt (tk P k).uses r = (tk P k).uses.getD r 0 := rfl
              have HB := hide hB
              have hul' : r < (tk P k).uses.length → ∃ g o, ua = some ⟨g, o, none⟩ ∧ wr.cell? ⟨g, o + r, none⟩ = some (.int .i64 (amt (tk P k).uses r)) := fun h => by
                obtain ⟨g, o, e, hc⟩ := hul r h
                exact ⟨g, o, e, (hbw.cell (World.block_lt_of_cell? w _ hc)).trans hc⟩
              have HUL := hide hul'
              have hzero : ¬ r < (tk P k).uses.length → amt (tk P k).uses r = 0 := fun h => by
                rw [hua, List.getD_eq_getElem?_getD, List.getElem?_eq_none (by omega)]; rfl
              clear y3 hul hbw hB hul' hua
              generalize hf : (s k).1 = f at *
              generalize (s k).2 = e at *
              generalize usd P s st r t k = n at *
              generalize amt (tk P k).uses r = am at *
              generalize (tk P k).uses.length = ul at *
              by_cases g1 : f ≤ t
              · have d1 : decide (f ≤ t) = true := decide_eq_true g1
                by_cases g2 : t < e
                · have d2 : decide (t < e) = true := decide_eq_true g2
                  rw [if_pos ⟨rfl, g1, g2⟩] at hsu
                  by_cases g3 : r < ul
                  · obtain ⟨g, o, rfl, hc⟩ := HUL.out g3
                    have g3i : (r : Int) < (ul : Int) := by omega
                    have d3 : decide ((r : Int) < (ul : Int)) = true := decide_eq_true g3i
                    have hwr := wrap64_id (x := n + am) (by omega) (by omega)
                    go_wp2_with fail
                    go_quiet (fail)
                    go_wp2_with fail
                    go_roundw
                    case rel => exact ⟨k + 1, by omega, by go_num, by rw [hsu], by repeat (first | exact HB.out | apply bdr)⟩
                    case measure => simp [intOf]; omega
                  · have d3 : decide ((r : Int) < (ul : Int)) = false := decide_eq_false (by omega)
                    rw [hzero g3, Int.add_zero] at hsu
                    go_wp2_with fail
                    go_quiet (fail)
                    go_wp2_with fail
                    go_roundw
                    case rel => exact ⟨k + 1, by omega, by go_num, by rw [hsu], by repeat (first | exact HB.out | apply bdr)⟩
                    case measure => simp [intOf]; omega
                · have d2 : decide (t < e) = false := decide_eq_false g2
                  rw [if_neg (fun h => g2 h.2.2), Int.add_zero] at hsu
                  go_wp2_with fail
                  go_quiet (fail)
                  go_wp2_with fail
                  go_roundw
                  case rel => exact ⟨k + 1, by omega, by go_num, by rw [hsu], by repeat (first | exact HB.out | apply bdr)⟩
                  case measure => simp [intOf]; omega
              · have d1 : decide (f ≤ t) = false := decide_eq_false g1
                rw [if_neg (fun h => g1 h.2.1), Int.add_zero] at hsu
                go_wp2_with fail
                go_quiet (fail)
                go_wp2_with fail
                go_roundw
                case rel => exact ⟨k + 1, by omega, by go_num, by rw [hsu], by repeat (first | exact HB.out | apply bdr)⟩
                case measure => simp [intOf]; omega
            · obtain rfl : k = P.length := by omega
              have hu := HE.out.use r t
              have hbw : Below w.heap.size w wr := HB3.out.trans (hB.mono HB3.out.size)
              obtain ⟨g, o, rfl, y0⟩ := HHS.out r hrl
              have z0 := (hbw.cell (World.block_lt_of_cell? w _ y0)).trans y0
              rw [show H.getD r 0 = amt H r from rfl] at z0
              have HB := hide hB
              clear y0 hB hbw
              generalize usd P s st r t P.length = n at *
              generalize amt H r = am at *
              have hna : ¬ am < n := by omega
              go_wp2_with fail
              go_roundw
              case rel => exact ⟨r + 1, by omega, by go_num, HB.out⟩
              case measure => simp [intOf]; omega
        · obtain rfl : r = H.length := by omega
          have HB := hide hB
          clear hB
          go_wp2_with fail
          go_roundw
          case rel => exact ⟨i + 1, by omega, by go_num, HB.out⟩
          case measure => simp [intOf]; omega
    · obtain rfl : i = P.length := by omega
      have HB := hide hB
      clear hB
      go_wp2_with fail
      go_ret
      exact ⟨rfl, HB3.out.trans (HB.out.mono HB3.out.size)⟩
theorem enough_walk (P : List Tk) (H : List Int) (tv hv : Value) (w : World) (hd : Hd w) (hT : TsAt w tv P) (hH : NsAt w hv H) :
    Calls Tryd.prog 7 #[tv, hv] w fun e w' => e = .returned (.bool true) ∧ Below w.heap.size w w' := by
  by_cases h1 : 200 < P.length
  · have h1i : (200 : Int) < (P.length : Int) := by omega
    obtain ⟨ad, cap, rfl, _⟩ := hT
    obtain ⟨ha, hc, rfl, _⟩ := hH
    clear hd
    go_enter Tryd.func7, Tryd.ntmps7
    go_wp2_with fail
    go_ret
    exact ⟨rfl, Below.refl _ _⟩
  · have h1i : ¬ (200 : Int) < (P.length : Int) := by omega
    by_cases h2 : 200 < H.length
    · have h2i : (200 : Int) < (H.length : Int) := by omega
      obtain ⟨ad, cap, rfl, _⟩ := hT
      obtain ⟨ha, hc, rfl, _⟩ := hH
      clear hd
      go_enter Tryd.func7, Tryd.ntmps7
      go_wp2_with fail
      go_ret
      exact ⟨rfl, Below.refl _ _⟩
    · have h2i : ¬ (200 : Int) < (H.length : Int) := by omega
      by_cases hk : lvE P H = 0
      · exact enough_yes P H tv hv w hd hT hH hk h2
      · have KL := hide (plevel_any P H tv hv w hd hT hH)
        obtain ⟨ad, cap, rfl, _⟩ := hT
        obtain ⟨ha, hc, rfl, _⟩ := hH
        have hkb : ((lvE P H : Int) == 0) = false := beq_eq_false_iff_ne.2 hk
        have HKK := hide hk
        clear hd
        generalize lvE P H = c at *
        go_enter Tryd.func7, Tryd.ntmps7
        go_wp2_with (go_at_call 23; refine KL.out.mono ?_; rintro e W1 ⟨u, rfl, hs, hf, b1⟩; obtain rfl := hs.2 HKK.out; have HB1 := hide b1; clear hs hf b1)
        go_ret
        exact ⟨rfl, HB1.out⟩
end Go.Proofs.YtjmjabdokckdlaaDoor
