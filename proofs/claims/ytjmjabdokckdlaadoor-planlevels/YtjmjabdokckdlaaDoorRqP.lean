/- the reference of plans, levelled: Level. -/
import Derived.Test.YtjmjabdokckdlaaDoorRqO
namespace Go.Proofs.YtjmjabdokckdlaaDoor
open Go.RowKit Go.Shelf
set_option linter.unusedVariables false
set_option linter.unusedSimpArgs false

/-- what stands while the reference places tasks -/
structure RvS (w : World) (base q : Nat) (P : List Tk) (H : List Int) (l : Sp) (dv : Value) (d : List Nat) (X : World) : Prop where
  own : OwnN X base dv d
  nd : d.Nodup
  lt : ∀ k ∈ d, k < P.length
  st : (lvN P H l d.length).2 = inR d
  sp : SpR q P.length (lvN P H l d.length).1 X
  b : RowKit.Below w.heap.size w X
  hz : base ≤ X.heap.size
theorem RvS.step {w : World} {base q : Nat} {P : List Tk} {H : List Int} {l : Sp} {dv : Value} {d : List Nat} {X X' : World} (h : RvS w base q P H l dv d X) (hb : RowKit.Below X.heap.size X X') : RvS w base q P H l dv d X' :=
  ⟨own_bel h.own hb, h.nd, h.lt, h.st, h.sp.step hb, h.b.trans (hb.mono h.b.size), Nat.le_trans h.hz hb.size⟩
theorem nx_step (P : List Tk) (d : List Nat) (l : Sp) (m : Nat) (ok : Bool) (hok : ok = (!decide (m ∈ d) && hav (inR d) (tk P m).links)) : nxN P (inR d) l (m + 1) = if ok = true ∧ (nxN P (inR d) l m < 0 ∨ (l m).1 < (l (nxN P (inR d) l m).toNat).1) then (m : Int) else nxN P (inR d) l m := by
  subst hok
  have e : nxN P (inR d) l (m + 1) = if inR d m = false ∧ hav (inR d) (tk P m).links = true ∧ (nxN P (inR d) l m < 0 ∨ (l m).1 < (l (nxN P (inR d) l m).toNat).1) then (m : Int) else nxN P (inR d) l m := rfl
  rw [e]
  have h1 : inR d m = decide (m ∈ d) := rfl
  rw [h1]
  by_cases c : m ∈ d
  · simp [c]
  · simp [c]
set_option maxRecDepth 100000 in
set_option maxHeartbeats 16000000 in
theorem rlevel_yes (P : List Tk) (H : List Int) (tv hv : Value) (w : World) (hT : TsAt w tv P) (hH : NsAt w hv H) (hk : chkP P = 0) (h8 : ¬ 8 < H.length) (hn : hasNeg H = false) (hcl : NoClash P H P.length) :
    Calls Tryd.prog 24 #[tv, hv] w fun e w' => ∃ u, e = .returned (.tuple #[u, .int .i64 0]) ∧ SsAt w' u P.length (lvS P H) ∧ RowKit.Below w.heap.size w w' := by
  have KN := hide (rend_any P tv w hT)
  have KL := hide (fun W (hb : RowKit.Below w.heap.size w W) => rlate_any P (eN P) tv W (hT.below hb))
  have HT := hide hT
  have HH := hide hH
  have hg := (chk_good hk).1
  have h60 := hg.n60
  have HG := hide hg
  have hH0 : ∀ x ∈ H, 0 ≤ x := fun x hx => by
    have := List.any_eq_false.1 (show H.any (fun n => decide (n < 0)) = false from hn) x hx
    simpa using this
  have KLE := hide (fun hF : Fit P => latE_eN hF hk)
  have LV := hide (fun (hF : Fit P) k hk => lvN_lev hF H hH0 (lS P (eN P)) hcl k hk)
  have HCL := hide hcl
  have hlvS : lvS P H = (lvN P H (lS P (eN P)) P.length).1 := rfl
  have HLS := hide hlvS
  have KP := hide (fun (s : Sp) (d : List Nat) (k : Nat) (hL : Lev P H s (inR d) k) (hk : k ≤ 60) (hn : d.Nodup) (hd : ∀ k ∈ d, k < P.length) (hdl : d.length ≤ 60) (i : Nat) (hi : i < P.length) (hh : hav (inR d) (tk P i).links = true) q c dv base W (hb : RowKit.Below w.heap.size w W) (hs : SpAt q P.length s W) (hdv : OwnN W base dv d) => rplace_any hg H (by omega) s d k hL hk hn hd hdl i hi hh (hcl i hi) tv hv q c dv base W (hT.below hb) (hH.below hb) hs hdv)
  have en : eNv P = eN P := by unfold eNv; rw [if_pos hk]
  obtain ⟨ad, cap, rfl, hall⟩ := hT
  obtain ⟨ha, hc, rfl, hhs⟩ := hH
  have HALL := hide hall
  have HHS := hide hhs
  have h8i : ¬ (8 : Int) < (H.length : Int) := by omega
  rw [hk, en] at KN
  obtain ⟨is, his, hzs0, hzs1, hzs2⟩ := info_parts span_info
  obtain ⟨i0, hi0, hz0, hz01, hz2⟩ := info_parts int_info
  clear hall hhs hg hH0 hcl hlvS en
  generalize hln : lS P (eN P) = l at *
  generalize eN P = N at *
  go_enter Tryd.func24, Tryd.ntmps24
  go_wp2_with (go_at_call 11; refine KN.out.mono ?_; rintro e W1 ⟨rfl, hf, b1⟩; have HB1 := hide b1; have HF : Hid (Fit P) := (by first | exact hf rfl | exact hf trivial | exact hf); clear hf b1)
  go_loopw [8, 9] (fun bv j wr => ∃ m : Nat, m ≤ H.length ∧ j = .int .i64 m ∧ bv = .bool false ∧ RowKit.Below w.heap.size w wr) (fun _ j _ => H.length - (intOf j).toNat)
  case atStart => exact ⟨0, by omega, rfl, rfl, HB1.out⟩
  case round =>
    clear HB1
    obtain ⟨m, hm, rfl, rfl, hB⟩ := hrel
    by_cases hlt : m < H.length
    · have hmi : (m : Int) < (H.length : Int) := by omega
      obtain ⟨g, o, rfl, y0⟩ := HHS.out m hlt
      have x0 := (hB.cell (World.block_lt_of_cell? w _ y0)).trans y0
      have hx0 : 0 ≤ H.getD m 0 := by
        have h1 : H.getD m 0 = H[m] := by rw [List.getD_eq_getElem?_getD, List.getElem?_eq_getElem hlt]; rfl
        rw [h1]
        have := List.any_eq_false.1 (show H.any (fun n => decide (n < 0)) = false from hn) H[m] (List.getElem_mem hlt)
        simpa using this
      have HB := hide hB
      clear hB y0
      generalize H.getD m 0 = x at *
      have hx1 : ¬ x < 0 := by omega
      go_wp2_with fail
      go_roundw
      case rel => exact ⟨m + 1, by omega, by go_num, by first | rfl | simp [hx1], HB.out⟩
      case measure => simp [intOf]; omega
    · obtain rfl : m = H.length := by omega
      have HB := hide hB
      clear hB
      go_wp2_with fail
      go_loopw [10] (fun j wr => ∃ m : Nat, m ≤ P.length ∧ j = .int .i64 m ∧ RowKit.Below w.heap.size w wr) (fun j _ => P.length - (intOf j).toNat)
      case atStart => exact ⟨0, by omega, rfl, HB.out⟩
      case round =>
        clear HB
        obtain ⟨m, hm, rfl, hB⟩ := hrel
        by_cases hlt : m < P.length
        · have hmi : (m : Int) < (P.length : Int) := by omega
          have HB := hide hB
          clear hB
          go_wp2_with fail
          go_loopw [11] (fun j wr => ∃ r : Nat, r ≤ (tk P m).uses.length ∧ j = .int .i64 r ∧ RowKit.Below w.heap.size w wr) (fun j _ => (tk P m).uses.length - (intOf j).toNat)
          case atStart => exact ⟨0, by omega, rfl, HB.out⟩
          case round =>
            clear HB
            obtain ⟨r, hr, rfl, hB⟩ := hrel
            obtain ⟨g, o, lv, uv, rfl, y0, y1, y2, y3, hls, hus⟩ := HALL.out m hlt
            obtain ⟨ua, uc, rfl, hul⟩ := hus
            have x3 := (hB.cell (World.block_lt_of_cell? w _ y3)).trans y3
            have hcnt := (HG.out.cnt m hlt).2
            by_cases hrl : r < (tk P m).uses.length
            · have hri : (r : Int) < ((tk P m).uses.length : Int) := by omega
              have hno := HCL.out m hlt r hrl
              obtain ⟨ug, uo, rfl, z0⟩ := hul r hrl
              have u0 := (hB.cell (World.block_lt_of_cell? w _ z0)).trans z0
              by_cases hrH : r < H.length
              · have hrHi : (r : Int) < (H.length : Int) := by omega
                have hrHn : ¬ (H.length : Int) ≤ (r : Int) := by omega
                have dd1 : decide ((H.length : Int) ≤ (r : Int)) = false := decide_eq_false hrHn
                have dd2 : decide ((r : Int) < (H.length : Int)) = true := decide_eq_true hrHi
                have dn1 : decide (H.length ≤ r) = false := decide_eq_false (by omega)
                have dn2 : decide (r < H.length) = true := decide_eq_true hrH
                obtain ⟨hg', ho', rfl, v0⟩ := HHS.out r hrH
                have k0 := (hB.cell (World.block_lt_of_cell? w _ v0)).trans v0
                have hno2 : (tk P m).uses.getD r 0 ≤ H.getD r 0 := hno
                have HB := hide hB
                clear y0 y1 y2 y3 z0 v0 hul hls hno hB
                generalize (tk P m).uses.getD r 0 = u at *
                generalize H.getD r 0 = hh at *
                generalize (tk P m).uses.length = un at *
                have dd3 : decide (hh < u) = false := decide_eq_false (by omega)
                go_wp2_with fail
                go_quiet (fail)
                go_wp2_with fail
                go_roundw
                case rel => exact ⟨r + 1, by omega, by go_num, by repeat (first | exact HB.out | apply bdr)⟩
                case measure => simp [intOf]; omega
              · have hrHn : (H.length : Int) ≤ (r : Int) := by omega
                have hrHi : ¬ (r : Int) < (H.length : Int) := by omega
                have dd1 : decide ((H.length : Int) ≤ (r : Int)) = true := decide_eq_true hrHn
                have dd2 : decide ((r : Int) < (H.length : Int)) = false := decide_eq_false hrHi
                have dn1 : decide (H.length ≤ r) = true := decide_eq_true (by omega)
                have dn2 : decide (r < H.length) = false := decide_eq_false hrH
                rw [amt_hout (by omega)] at hno
                have HB := hide hB
                clear y0 y1 y2 y3 z0 hul hls hB
                generalize (tk P m).uses.getD r 0 = u at *
                generalize (tk P m).uses.length = un at *
                have dd3 : decide (0 < u) = false := decide_eq_false (by omega)
                go_wp2_with fail
                go_quiet (fail)
                go_wp2_with fail
                go_roundw
                case rel => exact ⟨r + 1, by omega, by go_num, by repeat (first | exact HB.out | apply bdr)⟩
                case measure => simp [intOf]; omega
            · obtain rfl : r = (tk P m).uses.length := by omega
              have HB := hide hB
              clear y0 y1 y2 y3 hul hls hB
              go_wp2_with fail
              go_roundw
              case rel => exact ⟨m + 1, by omega, by go_num, HB.out⟩
              case measure => simp [intOf]; omega
        · obtain rfl : m = P.length := by omega
          have HB := hide hB
          clear hB
          go_wp2_with (first
            | (go_at_call 14; refine (KL.out _ HB.out).mono ?_; rintro e W2 ⟨u2, rfl, hs, b2⟩; obtain ⟨la, lc, rfl, hls⟩ := hs.1 (KLE.out HF.out); have HB2 := hide (HB.out.trans (b2.mono HB.out.size)); have HL2 : Hid (∀ t, t < P.length → ∃ q, la = some ⟨q, 0, none⟩ ∧ W2.cell? ⟨q, t * 2, none⟩ = some (.int .i64 (l t).1) ∧ W2.cell? ⟨q, t * 2 + 1, none⟩ = some (.int .i64 (l t).2)) := hls; clear hs b2 hls)
            | (refine wpList_make_full _ rfl (.tmp 108) (.tmp 108) 23 rfl W2.heap.size 37 is (.agg #[.int .i64 0, .int .i64 0]) 2 Tryd.underlying23 his hzs0 hzs1 .i64 .i64 _ _ P.length rfl rfl rfl rfl (by rw [hzs2]; omega) (by unfold maxLen; omega) (Nat.le_refl _) ?_; intro W3 hown hgrow; have hs0 := made_sp hown; have hb3 : RowKit.Below W2.heap.size W2 W3 := RowKit.Below.grown (RowKit.Below.refl _ W2) hgrow (Nat.le_refl _) (fun k hk => by cases hk); have H3 := hide (And.intro hs0 hb3); clear hown hgrow hs0 hb3))
          have hb2z := HB2.out.size
          have hq3 := H3.out.1.lt
          have HV0 : Hid (RvS W2 W3.heap.size W2.heap.size P H l (.slice none 0 0) [] W3) := ⟨own_nil _ _, List.nodup_nil, (fun k hk => by cases hk), (by funext u; simp [lvN, inR]), H3.out.1, H3.out.2, Nat.le_refl _⟩
          clear KL KLE KN HB
          generalize hbase : W3.heap.size = base at *
          generalize hqq : W2.heap.size = q at *
          have hqb : q < base := hq3
          go_loopw [15] (fun dv wr => ∃ d : List Nat, RvS W2 base q P H l dv d wr) (fun dv _ => P.length - lenV dv)
          case atStart => exact ⟨[], HV0.out⟩
          case round =>
            clear HV0
            obtain ⟨d, hR⟩ := hrel
            have hdl := nat_nodup P.length d hR.nd hR.lt
            obtain ⟨da, dc, rfl⟩ := (own_len hR.own).2
            by_cases hlt : d.length < P.length
            · have hmi : (d.length : Int) < (P.length : Int) := by omega
              obtain ⟨hL, hcnt, hnn⟩ := LV.out HF.out d.length (by omega)
              have hn0 := hnn hlt
              have hnk : lvN P H l (d.length + 1) = (upS (lvN P H l d.length).1 (nxN P (lvN P H l d.length).2 l P.length).toNat (plc P (nxN P (lvN P H l d.length).2 l P.length).toNat (putB P H (lvN P H l d.length).1 (lvN P H l d.length).2 (nxN P (lvN P H l d.length).2 l P.length).toNat)), stU (lvN P H l d.length).2 (nxN P (lvN P H l d.length).2 l P.length).toNat) := rfl
              rw [hR.st] at hL hn0 hnk
              obtain ⟨hi, hst, hhav⟩ := nxN_can hn0
              have KM := hide (fun (i : Nat) W (hb : RowKit.Below wr.heap.size wr W) => membN_any d (by omega) i base _ W (hR.step hb).own)
              have HR := hide hR
              have HL := hide hL
              have HNK := hide hnk
              clear hR hL hcnt hnn hnk
              generalize hNX : nxN P (inR d) l P.length = nx at *
              generalize hss : (lvN P H l d.length).1 = s at *
              have HSS := hide hss
              clear hss
              obtain ⟨ii, rfl⟩ : ∃ ii : Nat, nx = (ii : Int) := ⟨nx.toNat, by omega⟩
              rw [Int.toNat_natCast] at hi hst hhav
              have hiii : (ii : Int) < (P.length : Int) := by omega
              generalize wr = W4 at *
              go_wp2_with fail
              go_loopw [16, 17] (fun nv j wx => ∃ m : Nat, m ≤ P.length ∧ j = .int .i64 m ∧ nv = .int .i64 (nxN P (inR d) l m) ∧ RowKit.Below W4.heap.size W4 wx) (fun _ j _ => P.length - (intOf j).toNat)
              case atStart => exact ⟨0, by omega, rfl, rfl, RowKit.Below.refl _ _⟩
              case round =>
                obtain ⟨m, hm, rfl, rfl, hB⟩ := hrel
                have hBw : RowKit.Below w.heap.size w wr := HB2.out.trans ((HR.out.b.trans (hB.mono HR.out.b.size)).mono (by rw [hqq]; exact hb2z))
                by_cases hml : m < P.length
                · have hmj : (m : Int) < (P.length : Int) := by omega
                  obtain ⟨g, o, lv, uv, rfl, y0, y1, y2, y3, hls, hus⟩ := HALL.out m hml
                  obtain ⟨pa, pc, rfl, hlx⟩ := hls
                  have hy2 := (hBw.cell (World.block_lt_of_cell? w _ y2)).trans y2
                  have hcn := (HG.out.cnt m hml).1
                  have HLK := hide (HG.out.link m hml)
                  have HLX := hide hlx
                  have HTK := hide (hav_take (inR d) (tk P m).links)
                  have hstp := nx_step P d l m
                  have hnb := nxN_bd P (inR d) l m
                  have KMm := hide (KM.out m wr hB)
                  have HB := hide hB
                  have HBW := hide hBw
                  have HSTP := hide hstp
                  clear y0 y1 y2 y3 hus hlx hB hBw hstp
                  generalize (tk P m).links = L at *
                  go_wp2_with (go_at_call 38; refine KMm.out.mono ?_; rintro e X ⟨rfl, rfl⟩)
                  generalize X = W5 at *
                  go_loopw [18, 131] (fun ov j wx => ∃ k : Nat, k ≤ L.length ∧ j = .int .i64 k ∧ ov = .bool (!decide (m ∈ d) && hav (inR d) (L.take k)) ∧ RowKit.Below W5.heap.size W5 wx) (fun _ j _ => L.length - (intOf j).toNat)
                  case atStart => exact ⟨0, by omega, rfl, by simp [hav], RowKit.Below.refl _ _⟩
                  case round =>
                    obtain ⟨k, hk, rfl, rfl, hBx⟩ := hrel
                    by_cases hkl : k < L.length
                    · have hki : (k : Int) < (L.length : Int) := by omega
                      obtain ⟨g1, o1, rfl, z0, z1, z2⟩ := HLX.out k hkl
                      have hx := HLK.out _ (lk_mem L k hkl)
                      have hbw := HBW.out.trans (hBx.mono HBW.out.size)
                      have x0 := (hbw.cell (World.block_lt_of_cell? w _ z0)).trans z0
                      have x1 := (hbw.cell (World.block_lt_of_cell? w _ z1)).trans z1
                      have x2 := (hbw.cell (World.block_lt_of_cell? w _ z2)).trans z2
                      have hst2 := HTK.out k hkl
                      generalize lk L k = x at *
                      obtain ⟨xt, xk, xg⟩ := x
                      dsimp only at hx x0 x1 x2 hst2
                      obtain ⟨t, rfl⟩ : ∃ t : Nat, xt = (t : Int) := ⟨xt.toNat, by omega⟩
                      rw [Int.toNat_natCast] at hst2
                      have hir : inR d t = decide (t ∈ d) := rfl
                      rw [hir] at hst2
                      have hBn := hBx.alloc hBx.size (.cells #[.int .i64 (t : Int), .int .i64 xk, .int .i64 xg] 47)
                      have KX := hide (KM.out t _ (HB.out.trans (hBn.mono HB.out.size)))
                      have HBn := hide hBn
                      clear z0 z1 z2 hbw hBx hBn hir
                      cases hok : (!decide (m ∈ d) && hav (inR d) (L.take k)) with
                      | true =>
                        generalize decide (t ∈ d) = b at *
                        have hnew : (!decide (m ∈ d) && hav (inR d) (L.take (k + 1))) = b := by rw [hst2, ← Bool.and_assoc, hok, Bool.true_and]
                        go_wp2_with (go_at_call 38; refine KX.out.mono ?_; rintro e X ⟨rfl, rfl⟩)
                        go_roundw
                        case rel => exact ⟨k + 1, by omega, by go_num, by rw [hnew], HBn.out⟩
                        case measure => simp [intOf]; omega
                      | false =>
                        have hnew : (!decide (m ∈ d) && hav (inR d) (L.take (k + 1))) = false := by rw [hst2, ← Bool.and_assoc, hok, Bool.false_and]
                        go_wp2_with fail
                        go_roundw
                        case rel => exact ⟨k + 1, by omega, by go_num, by rw [hnew], HBn.out⟩
                        case measure => simp [intOf]; omega
                    · obtain rfl : k = L.length := by omega
                      rw [List.take_length] at *
                      have hB6 := HB.out.trans (hBx.mono HB.out.size)
                      have hsx := HSTP.out _ rfl
                      have hl2 : RowKit.Below W2.heap.size W2 wr := HR.out.b.trans (hB6.mono HR.out.b.size)
                      obtain ⟨ql, e1, v0, _⟩ := HL2.out m hml
                      subst e1
                      have c0 := (hl2.cell (World.block_lt_of_cell? W2 _ v0)).trans v0
                      have HB6 := hide hB6
                      generalize (!decide (m ∈ d) && hav (inR d) L) = ok at *
                      generalize nxN P (inR d) l m = nm at *
                      clear v0 hBx hB6
                      cases ok with
                      | false =>
                        rw [if_neg (by simp)] at hsx
                        clear c0 hl2
                        go_wp2_with fail
                        go_quiet (fail)
                        go_wp2_with fail
                        go_roundw
                        case rel => exact ⟨m + 1, by omega, by go_num, by rw [hsx], by repeat (first | exact HB6.out | apply bdr)⟩
                        case measure => simp [intOf]; omega
                      | true =>
                        by_cases hneg : nm < 0
                        · rw [if_pos ⟨rfl, .inl hneg⟩] at hsx
                          have d1 : decide (nm < 0) = true := decide_eq_true hneg
                          clear c0 hl2
                          go_wp2_with fail
                          go_quiet (fail)
                          go_wp2_with fail
                          go_roundw
                          case rel => exact ⟨m + 1, by omega, by go_num, by rw [hsx], by repeat (first | exact HB6.out | apply bdr)⟩
                          case measure => simp [intOf]; omega
                        · obtain ⟨c, rfl⟩ : ∃ c : Nat, nm = (c : Int) := ⟨nm.toNat, by omega⟩
                          have hcl : c < P.length := by omega
                          have hci : (c : Int) < (P.length : Int) := by omega
                          obtain ⟨ql', e2, v1, _⟩ := HL2.out c hcl
                          obtain rfl : ql = ql' := by simpa using e2
                          have c1 := (hl2.cell (World.block_lt_of_cell? W2 _ v1)).trans v1
                          rw [Int.toNat_natCast] at hsx
                          have d1 : decide ((c : Int) < 0) = false := decide_eq_false hneg
                          clear v1 hl2 e2
                          generalize (l m).1 = lm at *
                          generalize (l c).1 = lo at *
                          by_cases hd : lm < lo
                          · rw [if_pos ⟨rfl, .inr hd⟩] at hsx
                            have d2 : decide (lm < lo) = true := decide_eq_true hd
                            go_wp2_with fail
                            go_quiet (fail)
                            go_wp2_with fail
                            go_roundw
                            case rel => exact ⟨m + 1, by omega, by go_num, by rw [hsx], by repeat (first | exact HB6.out | apply bdr)⟩
                            case measure => simp [intOf]; omega
                          · rw [if_neg (fun h => h.2.elim hneg hd)] at hsx
                            have d2 : decide (lm < lo) = false := decide_eq_false hd
                            go_wp2_with fail
                            go_quiet (fail)
                            go_wp2_with fail
                            go_roundw
                            case rel => exact ⟨m + 1, by omega, by go_num, by rw [hsx], by repeat (first | exact HB6.out | apply bdr)⟩
                            case measure => simp [intOf]; omega
                · obtain rfl : m = P.length := by omega
                  rw [hNX]
                  have hRw := HR.out.step hB
                  have hspw : SpR q P.length s wr := by have h := hRw.sp; rw [HSS.out] at h; exact h
                  have KPx := hide (KP.out s d d.length HL.out (by omega) hRw.nd hRw.lt (by omega) ii hi hhav q P.length _ base wr hBw hspw.at hRw.own)
                  obtain ⟨g, o, lv, uv, rfl, y0, _, _, _, _, _⟩ := HALL.out ii hi
                  have hpb : HNK.out = HNK.out := rfl
                  have hni : ii ∉ d := of_decide_eq_false (show decide (ii ∈ d) = false from hst)
                  have HRW := hide (And.intro hRw hspw)
                  have hnk := HNK.out
                  rw [Int.toNat_natCast] at hnk
                  have hplc : plc P ii (putB P H s (inR d) ii) = (putB P H s (inR d) ii, putB P H s (inR d) ii + (tk P ii).len) := rfl
                  rw [hplc] at hnk
                  have HNK2 := hide hnk
                  clear hRw hspw hB hBw y0 hpb hnk hplc
                  generalize putB P H s (inR d) ii = pb at *
                  generalize (tk P ii).len = tl at *
                  go_wp2_with (first
                    | (go_at_call 39; refine KPx.out.mono ?_; rintro e X ⟨rfl, hx⟩; have hRX := HRW.out.1.step hx; have hsX := HRW.out.2.step hx; have hcx := (hsX.at ii hi).1; have hcy := (hsX.at ii hi).2; have hfx := hsX.froz (ii * 2); have hfy := hsX.froz (ii * 2 + 1); have hownS := own_set (own_set hRX.own ⟨q, ii * 2, none⟩ hqb (.int .i64 pb)) ⟨q, ii * 2 + 1, none⟩ hqb (.int .i64 (pb + tl)); have hcn := cell_one_new ((X.setCell ⟨q, ii * 2, none⟩ (.int .i64 pb)).setCell ⟨q, ii * 2 + 1, none⟩ (.int .i64 (pb + tl))) (.int .i64 (ii : Int)) 3; rw [show ((X.setCell ⟨q, ii * 2, none⟩ (.int .i64 pb)).setCell ⟨q, ii * 2 + 1, none⟩ (.int .i64 (pb + tl))).heap.size = X.heap.size by simp] at hcn; have HRX := hide (And.intro hRX hsX); have HOS := hide (And.intro hownS hcn); have hzz := hRX.hz; clear hRX hsX hownS hcn hx)
                    | (at_builtin; refine wpList_append_own _ rfl _ _ 31 rfl base 3 i0 (.int .i64 0) 1 8 Tryd.underlying31 hi0 hz0 hz01 hz2 rfl (by decide) _ _ _ rfl (HOS.out.1.alloc _) ⟨X.heap.size, 0, none⟩ 1 1 [.int .i64 ii] rfl rfl HOS.out.2 (ints_oneCell .i64 [(ii : Int)]) (by unfold maxLen; omega) (by omega) (by simp; omega) ?_; intro v' w1 hown1 hgrow1 hnil1))
                  have hr1 := HOS.out.1.alloc (.cells #[.int .i64 (ii : Int)] 3)
                  have hnw : OwnN w1 base v' (d ++ [ii]) := by unfold OwnN; rw [nV_snoc, List.length_append]; exact hown1
                  have hspn := HRX.out.2.set ii hi pb (pb + tl)
                  have hBs : RowKit.Below q W2 ((X.setCell ⟨q, ii * 2, none⟩ (.int .i64 pb)).setCell ⟨q, ii * 2 + 1, none⟩ (.int .i64 (pb + tl))) := by
                    have h := (HRX.out.1.b.setCell (p := ⟨q, ii * 2, none⟩) (by rw [hqq]; exact Nat.le_refl _) (.int .i64 pb)).setCell (p := ⟨q, ii * 2 + 1, none⟩) (by rw [hqq]; exact Nat.le_refl _) (.int .i64 (pb + tl))
                    rw [hqq] at h; exact h
                  have hlv := (own_len hnw).1
                  refine ⟨⟨d ++ [ii], ⟨hnw, ?_, ?_, ?_, ?_, ?_, ?_⟩⟩, ?_⟩
                  · rw [List.nodup_append]
                    exact ⟨HRX.out.1.nd, by simp, fun a ha b hb => by rw [List.mem_singleton.1 hb]; rintro rfl; exact hni ha⟩
                  · intro k hk
                    rcases List.mem_append.1 hk with h | h
                    · exact HRX.out.1.lt k h
                    · rw [List.mem_singleton.1 h]; exact hi
                  · rw [List.length_append, List.length_singleton, HNK2.out, inR_snoc]
                  · rw [List.length_append, List.length_singleton, HNK2.out]
                    have h2 := hspn.step ((RowKit.Below.refl _ _).alloc (Nat.le_refl _) (.cells #[.int .i64 (ii : Int)] 3))
                    exact h2.grown hgrow1 (fun j hj => by have := (hr1.lt j hj).1; omega)
                  · have h2 := (hBs.alloc (by simp; have := HRX.out.1.b.size; omega) (.cells #[.int .i64 (ii : Int)] 3)).grown hgrow1 (by simp; have := HRX.out.1.b.size; omega) (fun j hj => by have := (hr1.lt j hj).1; omega)
                    rw [hqq]; exact h2
                  · have := hgrow1.size; simp at this; omega
                  · show P.length - lenV v' < P.length - d.length
                    rw [hlv, List.length_append, List.length_singleton]; omega
            · have he : d.length = P.length := by omega
              have hmi : ¬ (d.length : Int) < (P.length : Int) := by omega
              have hsp := hR.sp
              rw [he] at hsp
              have HSP := hide hsp
              have HBF := hide (HB2.out.trans (hR.b.mono (by rw [hqq]; exact hb2z)))
              clear hR hsp
              go_wp2_with fail
              go_ret2
              exact ⟨_, rfl, by rw [HLS.out]; exact HSP.out.ss, HBF.out⟩
end Go.Proofs.YtjmjabdokckdlaaDoor
