/- the reference of plans: PlanCheck. -/
import Derived.Test.YtjmjabdokckdlaaDoorRpB
namespace Go.Proofs.YtjmjabdokckdlaaDoor
open Go.RowKit
set_option linter.unusedVariables false
set_option linter.unusedSimpArgs false

theorem chk_bad {P : List Tk} {m : Nat} (h60 : ¬ 60 < P.length) (hlt : m < P.length) (h0 : eTkN P m = 0) {k : Int} (hk : eTk P m = k) (hn : k ≠ 0) : chkP P = k := by
  unfold chkP
  rw [if_neg h60, eTkN_bad P m h0 (by rw [hk]; exact hn) _ hlt, hk, if_neg hn]
theorem okL_lo {n : Int} (h : n < 0) : okL n ≠ true := by unfold okL; rw [decide_eq_false (by omega)]; simp
theorem okL_hi {n : Int} (h : 1000000 < n) : okL n ≠ true := by unfold okL; rw [decide_eq_false (by omega)]; simp
theorem okL_is {n : Int} (h1 : ¬ n < 0) (h2 : ¬ 1000000 < n) : okL n = true := by unfold okL; exact decide_eq_true (by omega)
set_option maxRecDepth 100000 in
set_option maxHeartbeats 16000000 in
theorem rcheck_any (P : List Tk) (v : Value) (w : World) (hv : TsAt w v P) :
    Calls Tryd.prog 20 #[v] w fun e w' => e = .returned (.int .i64 (chkP P)) ∧ Below w.heap.size w w' := by
  have HV := hide hv
  obtain ⟨ad, cap, rfl, hall⟩ := hv
  have HALL := hide hall
  clear hall
  by_cases h60 : 60 < P.length
  · have hV : chkP P = 6 := by unfold chkP; rw [if_pos h60]
    rw [hV]
    have h60i : (60 : Int) < (P.length : Int) := by omega
    go_enter Tryd.func20, Tryd.ntmps20
    go_wp2_with fail
    go_ret
    exact ⟨rfl, Below.refl _ _⟩
  have h60i : ¬ (60 : Int) < (P.length : Int) := by omega
  obtain ⟨V, hVV⟩ : ∃ V, chkP P = V := ⟨_, rfl⟩
  rw [hVV]
  have HVV := hide hVV
  clear hVV
  go_enter Tryd.func20, Tryd.ntmps20
  go_wp2_with fail
  go_loopw [3] (fun j wr => ∃ m : Nat, m ≤ P.length ∧ j = .int .i64 m ∧ eTkN P m = 0 ∧ Below w.heap.size w wr) (fun j _ => P.length - (intOf j).toNat)
  case atStart => exact ⟨0, by omega, rfl, rfl, Below.refl _ _⟩
  case round =>
    obtain ⟨m, hm, rfl, h0, hB⟩ := hrel
    by_cases hlt : m < P.length
    · have hmi : (m : Int) < (P.length : Int) := by omega
      have hst : eTkN P (m + 1) = eTk P m := by rw [eTkN, if_pos h0]
      have hbad : ∀ k : Int, eTk P m = k → k ≠ 0 → chkP P = k := fun k h hn => chk_bad h60 hlt h0 h hn
      have hek : eTk P m = if okL (tk P m).len = true ∧ okL (tk P m).nb = true ∧ (tk P m).links.length ≤ 60 ∧ (tk P m).uses.length ≤ 8 then (if eLks P.length m (tk P m).links = 0 then eUs (tk P m).uses else eLks P.length m (tk P m).links) else 1 := rfl
      obtain ⟨g, o, lv, uv, rfl, y0, y1, y2, y3, hls, hus⟩ := HALL.out m hlt
      obtain ⟨la, lc, rfl, hlx⟩ := hls
      obtain ⟨ua, uc, rfl, hux⟩ := hus
      have x0 := (hB.cell (World.block_lt_of_cell? w _ y0)).trans y0
      have x1 := (hB.cell (World.block_lt_of_cell? w _ y1)).trans y1
      have x2 := (hB.cell (World.block_lt_of_cell? w _ y2)).trans y2
      have x3 := (hB.cell (World.block_lt_of_cell? w _ y3)).trans y3
      have hBn := hB.alloc hB.size (.cells #[.int .i64 (tk P m).len, .int .i64 (tk P m).nb, .slice la (tk P m).links.length lc, .slice ua (tk P m).uses.length uc] 45)
      have hTB : TkB wr.heap.size (tk P m).len (tk P m).nb (.slice la (tk P m).links.length lc) (.slice ua (tk P m).uses.length uc) (wr.alloc (.cells #[.int .i64 (tk P m).len, .int .i64 (tk P m).nb, .slice la (tk P m).links.length lc, .slice ua (tk P m).uses.length uc] 45)) := TkB.new _ _ _ _ _
      have HBn := hide hBn
      have HTB := hide hTB
      have HL := hide hlx
      have HU := hide hux
      have HST := hide hst
      have HBAD := hide hbad
      have HEK := hide hek
      have H0 := hide h0
      clear y0 y1 y2 y3 hlx hux hB hBn hTB hst hbad hek h0
      generalize hL : (tk P m).links = L at *
      generalize hU : (tk P m).uses = U at *
      generalize (tk P m).len = tl at *
      generalize (tk P m).nb = tn at *
      by_cases c1 : tl < 0
      · have hfin := HBAD.out _ (HEK.out.trans (if_neg fun h => okL_lo c1 h.1)) (by decide)
        go_wp2_with fail
        go_ret
        exact ⟨by rw [← HVV.out, hfin]; rfl, HBn.out⟩
      by_cases c2 : 1000000 < tl
      · have hfin := HBAD.out _ (HEK.out.trans (if_neg fun h => okL_hi c2 h.1)) (by decide)
        go_wp2_with fail
        go_ret
        exact ⟨by rw [← HVV.out, hfin]; rfl, HBn.out⟩
      by_cases c3 : tn < 0
      · have hfin := HBAD.out _ (HEK.out.trans (if_neg fun h => okL_lo c3 h.2.1)) (by decide)
        go_wp2_with fail
        go_ret
        exact ⟨by rw [← HVV.out, hfin]; rfl, HBn.out⟩
      by_cases c4 : 1000000 < tn
      · have hfin := HBAD.out _ (HEK.out.trans (if_neg fun h => okL_hi c4 h.2.1)) (by decide)
        go_wp2_with fail
        go_ret
        exact ⟨by rw [← HVV.out, hfin]; rfl, HBn.out⟩
      by_cases c5 : 60 < L.length
      · have hfin := HBAD.out _ (HEK.out.trans (if_neg fun h => by have := h.2.2.1; omega)) (by decide)
        have c5i : (60 : Int) < (L.length : Int) := by omega
        go_wp2_with fail
        go_ret
        exact ⟨by rw [← HVV.out, hfin]; rfl, HBn.out⟩
      have c5i : ¬ (60 : Int) < (L.length : Int) := by omega
      by_cases c6 : 8 < U.length
      · have hfin := HBAD.out _ (HEK.out.trans (if_neg fun h => by have := h.2.2.2; omega)) (by decide)
        have c6i : (8 : Int) < (U.length : Int) := by omega
        go_wp2_with fail
        go_ret
        exact ⟨by rw [← HVV.out, hfin]; rfl, HBn.out⟩
      have c6i : ¬ (8 : Int) < (U.length : Int) := by omega
      have hE1 := HEK.out.trans (if_pos ⟨okL_is c1 c2, okL_is c3 c4, by omega, by omega⟩)
      have HE1 := hide hE1
      clear hE1
      go_wp2_with fail
      clear x0 x1 x2 x3
      generalize hzB : wr.heap.size = B at *
      generalize wr.alloc (.cells #[.int .i64 tl, .int .i64 tn, .slice la L.length lc, .slice ua U.length uc] 45) = W5 at *
      go_loopw [55] (fun j wr => ∃ k : Nat, k ≤ L.length ∧ j = .int .i64 k ∧ eLks P.length m (L.take k) = 0 ∧ Below W5.heap.size W5 wr) (fun j _ => L.length - (intOf j).toNat)
      case atStart => exact ⟨0, by omega, rfl, rfl, Below.refl _ _⟩
      case round =>
        obtain ⟨k, hk, rfl, hks, hB5⟩ := hrel
        by_cases hkl : k < L.length
        · have hki : (k : Int) < (L.length : Int) := by omega
          obtain ⟨g1, o1, rfl, z0, z1, z2⟩ := HL.out k hkl
          have hbw : Below w.heap.size w wr := HBn.out.trans (hB5.mono HBn.out.size)
          have x0 := (hbw.cell (World.block_lt_of_cell? w _ z0)).trans z0
          have x1 := (hbw.cell (World.block_lt_of_cell? w _ z1)).trans z1
          have x2 := (hbw.cell (World.block_lt_of_cell? w _ z2)).trans z2
          have hstep := eLks_step (n := P.length) (i := (m : Int)) hkl hks
          have hE2 : eLk P.length m (lk L k) ≠ 0 → eTk P m = eLk P.length m (lk L k) := fun h => by
            have h2 := hstep.2 h
            rw [HE1.out, h2, if_neg h]
          have hEL : eLk P.length m (lk L k) = if (lk L k).t < 0 ∨ (P.length : Int) ≤ (lk L k).t ∨ (lk L k).k < 1 ∨ 4 < (lk L k).k then 1 else if (lk L k).g < -1000000 ∨ 1000000 < (lk L k).g then 1 else if (lk L k).t = (m : Int) then 14 else 0 := rfl
          have hs1 := hstep.1
          have HB5 := hide (hB5.alloc hB5.size (.cells #[.int .i64 (lk L k).t, .int .i64 (lk L k).k, .int .i64 (lk L k).g] 47))
          have HBW := hide (hbw.alloc hbw.size (.cells #[.int .i64 (lk L k).t, .int .i64 (lk L k).k, .int .i64 (lk L k).g] 47))
          have HE2 := hide hE2
          have HEL := hide hEL
          have HS1 := hide hs1
          clear z0 z1 z2 hbw hB5 hstep hE2 hEL hs1
          generalize lk L k = x at *
          obtain ⟨xt, xk, xg⟩ := x
          dsimp only at HEL
          have one : eLk P.length m ⟨xt, xk, xg⟩ = 1 → chkP P = 1 := fun h => HBAD.out _ ((HE2.out (by rw [h]; decide)).trans h) (by decide)
          by_cases d1 : xt < 0
          · have hfin := one (HEL.out.trans (if_pos (.inl d1)))
            go_wp2_with fail
            go_ret
            exact ⟨by rw [← HVV.out, hfin]; rfl, HBW.out⟩
          by_cases d2 : (P.length : Int) ≤ xt
          · have hfin := one (HEL.out.trans (if_pos (.inr (.inl d2))))
            go_wp2_with fail
            go_ret
            exact ⟨by rw [← HVV.out, hfin]; rfl, HBW.out⟩
          by_cases d3 : xk < 1
          · have hfin := one (HEL.out.trans (if_pos (.inr (.inr (.inl d3)))))
            go_wp2_with fail
            go_ret
            exact ⟨by rw [← HVV.out, hfin]; rfl, HBW.out⟩
          by_cases d4 : 4 < xk
          · have hfin := one (HEL.out.trans (if_pos (.inr (.inr (.inr d4)))))
            go_wp2_with fail
            go_ret
            exact ⟨by rw [← HVV.out, hfin]; rfl, HBW.out⟩
          have n1 : ¬ (xt < 0 ∨ (P.length : Int) ≤ xt ∨ xk < 1 ∨ 4 < xk) := by omega
          by_cases d5 : xg < -1000000
          · have hfin := one (HEL.out.trans ((if_neg n1).trans (if_pos (.inl d5))))
            go_wp2_with fail
            go_ret
            exact ⟨by rw [← HVV.out, hfin]; rfl, HBW.out⟩
          by_cases d6 : 1000000 < xg
          · have hfin := one (HEL.out.trans ((if_neg n1).trans (if_pos (.inr d6))))
            go_wp2_with fail
            go_ret
            exact ⟨by rw [← HVV.out, hfin]; rfl, HBW.out⟩
          have n2 : ¬ (xg < -1000000 ∨ 1000000 < xg) := by omega
          by_cases d7 : xt = (m : Int)
          · have he : eLk P.length m ⟨xt, xk, xg⟩ = 14 := HEL.out.trans ((if_neg n1).trans ((if_neg n2).trans (if_pos d7)))
            have hfin : chkP P = 14 := HBAD.out _ ((HE2.out (by rw [he]; decide)).trans he) (by decide)
            subst d7
            go_wp2_with fail
            go_ret
            exact ⟨by rw [← HVV.out, hfin]; rfl, HBW.out⟩
          · have he : eLk P.length m ⟨xt, xk, xg⟩ = 0 := HEL.out.trans ((if_neg n1).trans ((if_neg n2).trans (if_neg d7)))
            have hks1 := HS1.out.trans he
            clear n1 n2
            go_wp2_with fail
            go_roundw
            case rel => exact ⟨k + 1, by omega, by go_num, hks1, HB5.out⟩
            case measure => simp [intOf]; omega
        · obtain rfl : k = L.length := by omega
          rw [List.take_length] at hks
          have hE3 := HE1.out
          rw [hks, if_pos rfl] at hE3
          have t3 := (HTB.out.step hB5).c3
          have HB5 := hide hB5
          have HE3 := hide hE3
          clear hB5 hE3 hks
          go_wp2_with fail
          go_loopw [97] (fun j wr => ∃ k : Nat, k ≤ U.length ∧ j = .int .i64 k ∧ eUs (U.take k) = 0 ∧ Below W5.heap.size W5 wr) (fun j _ => U.length - (intOf j).toNat)
          case atStart => exact ⟨0, by omega, rfl, rfl, HB5.out⟩
          case round =>
            clear t3
            obtain ⟨k, hk, rfl, hks, hB5⟩ := hrel
            by_cases hkl : k < U.length
            · have hki : (k : Int) < (U.length : Int) := by omega
              obtain ⟨g1, o1, rfl, z0⟩ := HU.out k hkl
              have hbw : Below w.heap.size w wr := HBn.out.trans (hB5.mono HBn.out.size)
              have x0 := (hbw.cell (World.block_lt_of_cell? w _ z0)).trans z0
              have hstep := eUs_step hkl hks
              have HSTP := hide hstep
              have HB6 := hide hB5
              have HBW := hide hbw
              clear z0 hbw hB5 hstep
              generalize U.getD k 0 = x at *
              have one : okL x = false → chkP P = 1 := fun h => HBAD.out _ (HE3.out.trans (HSTP.out.2 h)) (by decide)
              by_cases d1 : x < 0
              · have hfin := one (by have := okL_lo d1; simpa using this)
                go_wp2_with fail
                go_ret
                exact ⟨by rw [← HVV.out, hfin]; rfl, HBW.out⟩
              by_cases d2 : 1000000 < x
              · have hfin := one (by have := okL_hi d2; simpa using this)
                go_wp2_with fail
                go_ret
                exact ⟨by rw [← HVV.out, hfin]; rfl, HBW.out⟩
              · have hks1 := HSTP.out.1 (okL_is d1 d2)
                go_wp2_with fail
                go_roundw
                case rel => exact ⟨k + 1, by omega, by go_num, hks1, HB6.out⟩
                case measure => simp [intOf]; omega
            · obtain rfl : k = U.length := by omega
              rw [List.take_length] at hks
              have hnx := HST.out.trans (HE3.out.trans hks)
              have HB6 := hide (HBn.out.trans (hB5.mono HBn.out.size))
              clear hB5
              go_wp2_with fail
              go_roundw
              case rel => exact ⟨m + 1, by omega, by go_num, hnx, HB6.out⟩
              case measure => simp [intOf]; omega
    · obtain rfl : m = P.length := by omega
      have hG := good_of (by omega) h0
      have KX := hide (rorder_any hG _ wr (HV.out.below hB))
      have hV : chkP P = if (ord P).length < P.length then 14 else 0 := by unfold chkP; rw [if_neg h60, if_pos h0]
      have HB := hide hB
      clear hB
      generalize ord P = r at *
      by_cases hr : r.length < P.length
      · rw [if_pos hr] at hV
        have hri : (r.length : Int) < (P.length : Int) := by omega
        go_wp2_with (go_at_call 29; refine KX.out.mono ?_; rintro e X ⟨u, rfl, ho, ht, hx⟩; obtain ⟨ra, rc, rfl⟩ := (own_len ho).2)
        go_ret
        exact ⟨by rw [← HVV.out, hV]; rfl, HB.out.trans (hx.mono HB.out.size)⟩
      · rw [if_neg hr] at hV
        have hri : ¬ (r.length : Int) < (P.length : Int) := by omega
        go_wp2_with (go_at_call 29; refine KX.out.mono ?_; rintro e X ⟨u, rfl, ho, ht, hx⟩; obtain ⟨ra, rc, rfl⟩ := (own_len ho).2)
        go_ret
        exact ⟨by rw [← HVV.out, hV]; rfl, HB.out.trans (hx.mono HB.out.size)⟩
end Go.Proofs.YtjmjabdokckdlaaDoor
