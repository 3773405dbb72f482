/- PlanPath, walked: the loops. (Written by gen/plns.py.) -/
import Derived.Test.YtldcjmnboagnkaaDoorPlnS0
namespace Go.Proofs.YtldcjmnboagnkaaDoor
open Go.RowKit Go.Shelf
set_option linter.unusedVariables false
set_option linter.unusedSimpArgs false

set_option maxRecDepth 100000 in
set_option maxHeartbeats 8000000 in
theorem path_yes (P : List Tk) (v : Value) (w : World) (hd : Hd w) (hv : TsAt w v P) (hk : chkP P = 0) (hn : 0 < P.length) :
    Calls Tryd.prog 6 #[v] w fun e w' => e = .returned (.bool true) ∧ Below w.heap.size w w' := by
  have KP := hide (ppath_any P v w hd hv)
  have KC := hide (fun W (hb : Below w.heap.size w W) => pcheck_any P v W (hd.later hb) (hv.below hb))
  have KE := hide (fun W (hb : Below w.heap.size w W) => pearly_any P v W (hd.later hb) (hv.below hb))
  have KN := hide (fun W (hb : Below w.heap.size w W) => pend_any P v W (hd.later hb) (hv.below hb))
  have KR := hide (fun W (hb : Below w.heap.size w W) => pcrit_any P v W (hd.later hb) (hv.below hb))
  have en : eNv P = eN P := by unfold eNv; rw [if_pos hk]
  have hG := (chk_good hk).1
  have h60 := hG.n60
  have h2i : ¬ (200 : Int) < (P.length : Int) := by omega
  have hni : ¬ (P.length : Int) = 0 := by omega
  have hnb : ((P.length : Int) == 0) = false := beq_eq_false_iff_ne.2 (by omega)
  have hv' := hv
  obtain ⟨ad, c, rfl, hall⟩ := hv
  have HALL := hide hall
  have HG := hide hG
  clear hd hall hv' hG
  rw [hk] at KP
  simp only [hk] at KC KE KR
  simp only [hk, en] at KN
  go_enter Tryd.func6, Tryd.ntmps6
  go_wp2_with (first
    | (go_at_call 17; refine KP.out.mono ?_; rintro e W1 ⟨u, rfl, hs, b1⟩; obtain ⟨ra, rc, L, f, rfl, hLp, hrow, hPt⟩ := paV_R (by first | exact hs rfl | exact hs trivial : PaV _ _ _ _) hn; have HR1 := hide hrow; have HPT := hide hPt; have HB1 := hide b1; clear hs b1 hrow hPt)
    | (go_at_call 19; refine (KC.out _ HB1.out).mono ?_; rintro e W2 ⟨rfl, b2⟩; have HB2 := hide (HB1.out.trans (b2.mono HB1.out.size)); have HR2 := hide (HR1.out.step b2); clear b2)
    | (go_at_call 8; refine (KE.out _ HB2.out).mono ?_; rintro e W3 ⟨u3, rfl, hs, hf, b3⟩; obtain ⟨q, rfl, hq3, hsp3⟩ := hs.1 rfl; have HF : Hid (Fit P) := (by first | exact hf rfl | exact hf trivial); have HB3 := hide (HB2.out.trans (b3.mono HB2.out.size)); have HR3 := hide (HR2.out.step b3); have HS3 := hide hsp3; clear hs hf b3 hsp3 hq3)
    | (go_at_call 10; refine (KN.out _ HB3.out).mono ?_; rintro e W4 ⟨rfl, b4⟩; have HB4 := hide (HB3.out.trans (b4.mono HB3.out.size)); have HR4 := hide (HR3.out.step b4); have HS4 := hide (HS3.out.step b4); clear b4)
    | (go_at_call 15; refine (KR.out _ HB4.out).mono ?_; rintro e W5 ⟨u5, rfl, hs, b5⟩; obtain ⟨ca, cc, cl, cf, rfl, hcl, hcrow, hcm⟩ := crV_R (by first | exact hs rfl | exact hs trivial : CrV _ _ _ _); have HC5 := hide hcrow; have HCM := hide hcm; have HB5 := hide (HB4.out.trans (b5.mono HB4.out.size)); have HR5 := hide (HR4.out.step b5); have HS5 := hide (HS4.out.step b5); have hPF := HPT.out HF.out; have HPF := hide hPF; have hLi : ¬ (L : Int) = 0 := (by omega); have hLb : ((L : Int) == 0) = false := beq_eq_false_iff_ne.2 (by omega); obtain ⟨rg, hra, hr0⟩ := HR5.out 0 hLp; have hall0 := (hPF.all 0 hLp).1; obtain ⟨tg, to, lv, uv, hta, _, y1, _⟩ := HALL.out _ hall0; have hti : ((f 0 : Nat) : Int) < (P.length : Int) := (by omega); have hz1 := (HB5.out.cell (World.block_lt_of_cell? w _ y1)).trans y1; subst hra; subst hta; clear hs b5 hcrow hcm y1 hPF))
  have hcb := hcl
  have HALL' : Hid (∀ j, j < P.length → ∃ lv uv, w.cell? ⟨tg, to + j * 4, none⟩ = some (.int .i64 (tk P j).len) ∧ w.cell? ⟨tg, to + j * 4 + 2, none⟩ = some lv ∧ LsAt w lv (tk P j).links) := fun j hj => by
    obtain ⟨g, o, lv, uv, e, h1, _, h3, _, hl, _⟩ := HALL.out j hj
    obtain ⟨rfl, rfl⟩ : tg = g ∧ to = o := by simpa using e
    exact ⟨lv, uv, h1, h3, hl⟩
  have HAT0 : Hid ((tk P (f 0)).nb = (eS P (f 0)).1) := HPF.out.first.symm
  clear HB1 HB2 HB3 HB4 HR1 HR2 HR3 HR4 HS3 HS4 KP KC KE KN KR hr0 hz1 HALL HPT
  go_loopw [11, 12] (fun av j wr => ∃ (m : Nat) (x : Int), m ≤ L ∧ j = .int .i64 m ∧ av = .int .i64 x ∧ (m < L → x = (eS P (f m)).1) ∧ Below W5.heap.size W5 wr) (fun _ j _ => L - (intOf j).toNat)
  case atStart => exact ⟨0, _, by omega, rfl, rfl, fun _ => HAT0.out, Below.refl _ _⟩
  case round =>
    obtain ⟨m, x, hm, rfl, rfl, hx, hB⟩ := hrel
    have hLn := HPF.out.le
    by_cases hlt : m < L
    · have hmi : (m : Int) < (L : Int) := by omega
      obtain rfl := hx hlt
      have hall := HPF.out.all m hlt
      obtain ⟨g1, e1, cr⟩ := (HR5.out.step hB) m hlt
      obtain rfl : rg = g1 := by simpa using e1
      have htn := hall.1
      have hti2 : ((f m : Nat) : Int) < (P.length : Int) := by omega
      have hs0 := ((HS5.out.step hB).at (f m) htn).1
      obtain ⟨jc, hjc, ejc⟩ := HCM.out _ hall.2
      have hseq := HPF.out.seq m
      have hbd := (HF.out.spbd (f m) htn)
      have HSQ := hide hseq
      have HB := hide hB
      clear hx hall hB hseq e1
      generalize hft : f m = t at *
      generalize hea : (eS P t).1 = a at *
      have hii : ((t : Int) == (t : Int)) = true := by simp
      have haa : (a == a) = true := by simp
      go_wp2_with fail
      go_loopw [14, 15] (fun fv j wr => ∃ (k : Nat) (fb : Bool), k ≤ cl ∧ j = .int .i64 k ∧ fv = .bool fb ∧ ((∃ i, i < k ∧ cf i = t) → fb = true) ∧ Below W5.heap.size W5 wr) (fun _ j _ => cl - (intOf j).toNat)
      case atStart => exact ⟨0, false, by omega, rfl, rfl, fun ⟨i, hi, _⟩ => absurd hi (Nat.not_lt_zero _), HB.out⟩
      case round =>
        clear HB cr hs0
        obtain ⟨k, fb, hk, rfl, rfl, hfb, hB⟩ := hrel
        by_cases hkl : k < cl
        · have hki : (k : Int) < (cl : Int) := by omega
          obtain ⟨cg, ec, cc'⟩ := (HC5.out.step hB) k hkl
          subst ec
          have HB := hide hB
          have HFB := hide hfb
          clear hB hfb
          cases fb with
          | true =>
            go_wp2_with fail
            go_roundw
            case rel => exact ⟨k + 1, true, by omega, by go_num, rfl, fun _ => rfl, HB.out⟩
            case measure => simp [intOf]; omega
          | false =>
            have hno : ∀ i, i < k → cf i ≠ t := fun i hi e => by have := HFB.out ⟨i, hi, e⟩; cases this
            by_cases hc : cf k = t
            · have hcb' : (((cf k : Nat) : Int) == (t : Int)) = true := beq_iff_eq.2 (by omega)
              generalize cf k = y at *
              go_wp2_with fail
              go_roundw
              case rel => exact ⟨k + 1, true, by omega, by go_num, by first | rfl | simp [hc], fun _ => rfl, HB.out⟩
              case measure => simp [intOf]; omega
            · have hcb' : (((cf k : Nat) : Int) == (t : Int)) = false := beq_eq_false_iff_ne.2 (by omega)
              have hno' : ∀ i, i < k + 1 → cf i ≠ t := fun i hi => by
                by_cases e : i = k
                · subst e; exact hc
                · exact hno i (by omega)
              generalize hy : cf k = y at *
              go_wp2_with fail
              go_roundw
              case rel => exact ⟨k + 1, false, by omega, by go_num, by first | rfl | simp [hc], fun ⟨i, hi, e⟩ => absurd e (hno' i hi), HB.out⟩
              case measure => simp [intOf]; omega
        · obtain rfl : k = cl := by omega
          obtain rfl : fb = true := hfb ⟨jc, hjc, ejc⟩
          have HB := hide hB
          clear hB hfb
          by_cases hnx : m + 1 < L
          · have hnxi : (m : Int) + 1 < (L : Int) := by omega
            obtain ⟨g2, e2, cr2⟩ := (HR5.out.step HB.out) (m + 1) hnx
            obtain rfl : rg = g2 := by simpa using e2
            obtain ⟨x0, hx0m, hx0t, hx0e⟩ := HSQ.out hnx
            have hnn := (HPF.out.all (m + 1) hnx).1
            have hnni : ((f (m + 1) : Nat) : Int) < (P.length : Int) := by omega
            have hsn := ((HS5.out.step HB.out).at (f (m + 1)) hnn).1
            have hbdn := HF.out.spbd (f (m + 1)) hnn
            obtain ⟨lv, uv, z0, z2, hls⟩ := HALL'.out (f (m + 1)) hnn
            obtain ⟨la, lc, rfl, hlx⟩ := hls
            have hcnt := (HG.out.cnt (f (m + 1)) hnn).1
            have hlen2 := HG.out.len (f (m + 1)) hnn
            have hlink := HG.out.link (f (m + 1)) hnn
            have hbw := HB5.out.trans (HB.out.mono HB5.out.size)
            have yz2 := (hbw.cell (World.block_lt_of_cell? w _ z2)).trans z2
            obtain ⟨_, _, t0, _, _⟩ := HALL'.out t htn
            have hlent := HG.out.len t htn
            have hgpe : ∀ x : Lk, x.t = (t : Int) → gp P (f (m + 1)) x = x.gap (tk P (f (m + 1))).len (tk P t).len := fun x hx => by unfold gp; rw [hx, Int.toNat_natCast]
            have HLX := hide hlx
            have HLK := hide hlink
            have HZ := hide (And.intro z0 t0)
            have hm1 : f (m + 1) = f (m + 1) := rfl
            clear z0 z2 t0 hlx hlink hbw e2 hm1
            have HX0 := hide (And.intro hx0m (And.intro hx0t hx0e))
            clear hx0m hx0t hx0e
            generalize hf2 : f (m + 1) = t2 at *
            generalize hL2 : (tk P t2).links = L2 at *
            generalize hln : (tk P t2).len = ln at *
            generalize hlt' : (tk P t).len = lt' at *
            generalize hb2 : (eS P t2).1 = b2 at *
            go_wp2_with fail
            go_loopw [17, 18, 143] (fun yv fv jv wr => ∃ (j : Nat) (y : Int) (fb : Bool), j ≤ L2.length ∧ jv = .int .i64 j ∧ yv = .int .i64 y ∧ fv = .bool fb ∧ (fb = true → a + y = b2) ∧ ((∃ i, i < j ∧ (lk L2 i).t = (t : Int) ∧ a + gp P t2 (lk L2 i) = b2) → fb = true) ∧ Below W5.heap.size W5 wr) (fun _ _ jv _ => L2.length - (intOf jv).toNat)
            case atStart => exact ⟨0, 0, false, by omega, rfl, rfl, rfl, fun h => (by cases h), fun ⟨i, hi, _⟩ => absurd hi (Nat.not_lt_zero _), HB.out⟩
            case round =>
              clear HB cr2 hsn yz2
              obtain ⟨j, y, fb, hj, rfl, rfl, rfl, hy, hfb, hB⟩ := hrel
              by_cases hjl : j < L2.length
              · have hji : (j : Int) < (L2.length : Int) := by omega
                obtain ⟨lg, lo, rfl, u0, u1, u2⟩ := HLX.out j hjl
                have hbw := HB5.out.trans (hB.mono HB5.out.size)
                have v0 := (hbw.cell (World.block_lt_of_cell? w _ u0)).trans u0
                have v1 := (hbw.cell (World.block_lt_of_cell? w _ u1)).trans u1
                have v2 := (hbw.cell (World.block_lt_of_cell? w _ u2)).trans u2
                have vt := (hbw.cell (World.block_lt_of_cell? w _ HZ.out.2)).trans HZ.out.2
                have vn := (hbw.cell (World.block_lt_of_cell? w _ HZ.out.1)).trans HZ.out.1
                have hsn := ((HS5.out.step hB).at t2 hnn).1
                rw [hb2] at hsn
                have hqz : q < wr.heap.size := World.block_lt_of_cell? wr _ hsn
                have htz : tg < wr.heap.size := World.block_lt_of_cell? wr _ vt
                have hxk := HLK.out _ (lk_mem L2 j hjl)
                have GP : (lk L2 j).t = (t : Int) → gp P t2 (lk L2 j) = (lk L2 j).gap ln lt' := hgpe _
                have HBn := hide (hB.alloc (by have := hB.size; omega) (.cells #[.int .i64 (lk L2 j).t, .int .i64 (lk L2 j).k, .int .i64 (lk L2 j).g] 47))
                have HY := hide hy
                have HFB := hide hfb
                clear u0 u1 u2 hbw hB hy hfb
                generalize hlk : lk L2 j = xx at *
                obtain ⟨xt, xk, xg⟩ := xx
                dsimp only at hxk v0 v1 v2 GP HBn
                obtain ⟨k1, k2, k3, k4, k5, k6, k7⟩ := hxk
                have e1 := wrap64_id (x := xg + lt') (by omega) (by omega)
                have e2 := wrap64_id (x := xg - ln) (by omega) (by omega)
                have e3 := wrap64_id (x := xg + lt' - ln) (by omega) (by omega)
                have e4 := wrap64_id (x := a + (xg + lt')) (by omega) (by omega)
                have e5 := wrap64_id (x := a + xg) (by omega) (by omega)
                have e6 := wrap64_id (x := a + (xg + lt' - ln)) (by omega) (by omega)
                have e7 := wrap64_id (x := a + (xg - ln)) (by omega) (by omega)
                rcases (show xk = 1 ∨ xk = 2 ∨ xk = 3 ∨ xk = 4 by omega) with rfl | rfl | rfl | rfl
                · have gk : (⟨(xt : Int), 1, xg⟩ : Lk).gap ln lt' = xg + lt' := by unfold Lk.gap; simp
                  by_cases ht : xt = (t : Int)
                  · have htb : (xt == (t : Int)) = true := beq_iff_eq.2 ht
                    have HBm := HBn.out
                    rw [ht] at HBm
                    replace HBm := hide HBm
                    by_cases hm2 : a + (xg + lt') = b2
                    · have hmb : (a + (xg + lt') == b2) = true := beq_iff_eq.2 hm2
                      go_wp2_with fail
                      go_roundw
                      case rel => exact ⟨j + 1, _, true, by omega, by go_num, rfl, rfl, fun _ => by omega, fun _ => rfl, HBm.out⟩
                      case measure => simp [intOf]; omega
                    · have hmb : (a + (xg + lt') == b2) = false := beq_eq_false_iff_ne.2 hm2
                      go_wp2_with fail
                      go_roundw
                      case rel => exact ⟨j + 1, y, fb, by omega, by go_num, rfl, rfl, HY.out, fun ⟨i, hi, h1, h2⟩ => (by
                        by_cases e : i = j
                        · subst e; rw [hlk] at h2; rw [GP ht, gk] at h2; exact absurd h2 hm2
                        · exact HFB.out ⟨i, by omega, h1, h2⟩), HBm.out⟩
                      case measure => simp [intOf]; omega
                  · have htb : (xt == (t : Int)) = false := beq_eq_false_iff_ne.2 ht
                    go_wp2_with fail
                    go_roundw
                    case rel => exact ⟨j + 1, y, fb, by omega, by go_num, rfl, rfl, HY.out, fun ⟨i, hi, h1, h2⟩ => (by
                      by_cases e : i = j
                      · subst e; rw [hlk] at h1; exact absurd h1 ht
                      · exact HFB.out ⟨i, by omega, h1, h2⟩), HBn.out⟩
                    case measure => simp [intOf]; omega
                · have gk : (⟨(xt : Int), 2, xg⟩ : Lk).gap ln lt' = xg := by unfold Lk.gap; simp
                  by_cases ht : xt = (t : Int)
                  · have htb : (xt == (t : Int)) = true := beq_iff_eq.2 ht
                    have HBm := HBn.out
                    rw [ht] at HBm
                    replace HBm := hide HBm
                    by_cases hm2 : a + (xg) = b2
                    · have hmb : (a + (xg) == b2) = true := beq_iff_eq.2 hm2
                      go_wp2_with fail
                      go_roundw
                      case rel => exact ⟨j + 1, _, true, by omega, by go_num, rfl, rfl, fun _ => by omega, fun _ => rfl, HBm.out⟩
                      case measure => simp [intOf]; omega
                    · have hmb : (a + (xg) == b2) = false := beq_eq_false_iff_ne.2 hm2
                      go_wp2_with fail
                      go_roundw
                      case rel => exact ⟨j + 1, y, fb, by omega, by go_num, rfl, rfl, HY.out, fun ⟨i, hi, h1, h2⟩ => (by
                        by_cases e : i = j
                        · subst e; rw [hlk] at h2; rw [GP ht, gk] at h2; exact absurd h2 hm2
                        · exact HFB.out ⟨i, by omega, h1, h2⟩), HBm.out⟩
                      case measure => simp [intOf]; omega
                  · have htb : (xt == (t : Int)) = false := beq_eq_false_iff_ne.2 ht
                    go_wp2_with fail
                    go_roundw
                    case rel => exact ⟨j + 1, y, fb, by omega, by go_num, rfl, rfl, HY.out, fun ⟨i, hi, h1, h2⟩ => (by
                      by_cases e : i = j
                      · subst e; rw [hlk] at h1; exact absurd h1 ht
                      · exact HFB.out ⟨i, by omega, h1, h2⟩), HBn.out⟩
                    case measure => simp [intOf]; omega
                · have gk : (⟨(xt : Int), 3, xg⟩ : Lk).gap ln lt' = xg + lt' - ln := by unfold Lk.gap; simp
                  by_cases ht : xt = (t : Int)
                  · have htb : (xt == (t : Int)) = true := beq_iff_eq.2 ht
                    have HBm := HBn.out
                    rw [ht] at HBm
                    replace HBm := hide HBm
                    by_cases hm2 : a + (xg + lt' - ln) = b2
                    · have hmb : (a + (xg + lt' - ln) == b2) = true := beq_iff_eq.2 hm2
                      go_wp2_with fail
                      go_roundw
                      case rel => exact ⟨j + 1, _, true, by omega, by go_num, rfl, rfl, fun _ => by omega, fun _ => rfl, HBm.out⟩
                      case measure => simp [intOf]; omega
                    · have hmb : (a + (xg + lt' - ln) == b2) = false := beq_eq_false_iff_ne.2 hm2
                      go_wp2_with fail
                      go_roundw
                      case rel => exact ⟨j + 1, y, fb, by omega, by go_num, rfl, rfl, HY.out, fun ⟨i, hi, h1, h2⟩ => (by
                        by_cases e : i = j
                        · subst e; rw [hlk] at h2; rw [GP ht, gk] at h2; exact absurd h2 hm2
                        · exact HFB.out ⟨i, by omega, h1, h2⟩), HBm.out⟩
                      case measure => simp [intOf]; omega
                  · have htb : (xt == (t : Int)) = false := beq_eq_false_iff_ne.2 ht
                    go_wp2_with fail
                    go_roundw
                    case rel => exact ⟨j + 1, y, fb, by omega, by go_num, rfl, rfl, HY.out, fun ⟨i, hi, h1, h2⟩ => (by
                      by_cases e : i = j
                      · subst e; rw [hlk] at h1; exact absurd h1 ht
                      · exact HFB.out ⟨i, by omega, h1, h2⟩), HBn.out⟩
                    case measure => simp [intOf]; omega
                · have gk : (⟨(xt : Int), 4, xg⟩ : Lk).gap ln lt' = xg - ln := by unfold Lk.gap; simp
                  by_cases ht : xt = (t : Int)
                  · have htb : (xt == (t : Int)) = true := beq_iff_eq.2 ht
                    have HBm := HBn.out
                    rw [ht] at HBm
                    replace HBm := hide HBm
                    by_cases hm2 : a + (xg - ln) = b2
                    · have hmb : (a + (xg - ln) == b2) = true := beq_iff_eq.2 hm2
                      go_wp2_with fail
                      go_roundw
                      case rel => exact ⟨j + 1, _, true, by omega, by go_num, rfl, rfl, fun _ => by omega, fun _ => rfl, HBm.out⟩
                      case measure => simp [intOf]; omega
                    · have hmb : (a + (xg - ln) == b2) = false := beq_eq_false_iff_ne.2 hm2
                      go_wp2_with fail
                      go_roundw
                      case rel => exact ⟨j + 1, y, fb, by omega, by go_num, rfl, rfl, HY.out, fun ⟨i, hi, h1, h2⟩ => (by
                        by_cases e : i = j
                        · subst e; rw [hlk] at h2; rw [GP ht, gk] at h2; exact absurd h2 hm2
                        · exact HFB.out ⟨i, by omega, h1, h2⟩), HBm.out⟩
                      case measure => simp [intOf]; omega
                  · have htb : (xt == (t : Int)) = false := beq_eq_false_iff_ne.2 ht
                    go_wp2_with fail
                    go_roundw
                    case rel => exact ⟨j + 1, y, fb, by omega, by go_num, rfl, rfl, HY.out, fun ⟨i, hi, h1, h2⟩ => (by
                      by_cases e : i = j
                      · subst e; rw [hlk] at h1; exact absurd h1 ht
                      · exact HFB.out ⟨i, by omega, h1, h2⟩), HBn.out⟩
                    case measure => simp [intOf]; omega
              · obtain rfl : j = L2.length := by omega
                obtain ⟨i0, hi0, rfl⟩ := List.getElem_of_mem HX0.out.1
                have hfin := hfb ⟨i0, hi0, by rw [lk_at _ _ hi0]; exact HX0.out.2.1, by rw [lk_at _ _ hi0]; exact HX0.out.2.2⟩
                subst hfin
                have hyb := hy rfl
                have hwy := wrap64_id (x := a + y) (by omega) (by omega)
                have HB := hide hB
                clear hB hy hfb
                go_wp2_with fail
                go_roundw
                case rel => exact ⟨m + 1, a + y, by omega, by go_num, by first | rfl | (rw [hyb]) | (congr 1; omega), fun _ => by rw [hf2, hb2]; exact hyb, HB.out⟩
                case measure => simp [intOf]; omega
          · have hnxi : ¬ (m : Int) + 1 < (L : Int) := by omega
            go_wp2_with fail
            go_roundw
            case rel => exact ⟨m + 1, a, by omega, by go_num, rfl, fun h => absurd h hnx, HB.out⟩
            case measure => simp [intOf]; omega
    · obtain rfl : m = L := by omega
      obtain ⟨l', rfl⟩ : ∃ l', m = l' + 1 := ⟨m - 1, by omega⟩
      have hlast := HPF.out.last
      have el : l' + 1 - 1 = l' := by omega
      rw [el] at hlast
      obtain ⟨g1, e1, cr⟩ := (HR5.out.step hB) l' (by omega)
      obtain rfl : rg = g1 := by simpa using e1
      have htn := (HPF.out.all l' (by omega)).1
      have hti2 : ((f l' : Nat) : Int) < (P.length : Int) := by omega
      have hs1 := ((HS5.out.step hB).at (f l') htn).2
      rw [hlast] at hs1
      have hw1 : wrap64 (((l' + 1 : Nat) : Int) - 1) = (l' : Int) := by rw [wrap64_id] <;> omega
      have hw2 : ((l' + 1 : Nat) : Int) - 1 = (l' : Int) := by omega
      have hli : (l' : Int) < ((l' + 1 : Nat) : Int) := by omega
      have hee : (eN P == eN P) = true := by simp
      have HB := hide hB
      clear hB hx
      generalize eN P = N at *
      generalize f l' = t at *
      go_wp2_with fail
      go_ret
      exact ⟨by first | rfl | simp, HB5.out.trans (HB.out.mono HB5.out.size)⟩
set_option maxRecDepth 100000 in
theorem path_walk (P : List Tk) (v : Value) (w : World) (hd : Hd w) (hv : TsAt w v P) :
    Calls Tryd.prog 6 #[v] w fun e w' => e = .returned (.bool true) ∧ Below w.heap.size w w' := by
  by_cases h2 : 200 < P.length
  · have h2i : (200 : Int) < (P.length : Int) := by omega
    obtain ⟨ad, c, rfl, _⟩ := hv
    go_enter Tryd.func6, Tryd.ntmps6
    go_wp2_with fail
    go_ret
    exact ⟨rfl, Below.refl _ _⟩
  · by_cases hk : chkP P = 0
    · cases P with
      | nil => exact path_nil v w hd hv hk
      | cons x P => exact path_yes _ v w hd hv hk (by simp)
    · exact path_no P v w hd hv h2 hk
end Go.Proofs.YtldcjmnboagnkaaDoor
