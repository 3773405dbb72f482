/- package text: the reference's partCheck. -/
import Derived.Test.YtponocolfjkapaaDoorMTextBackUpto24
import Derived.Deep.Cut
namespace Go.Proofs.YtponocolfjkapaaDoor
open Go.RowKit Go.Shelf
set_option linter.unusedVariables false
set_option linter.unusedSimpArgs false

/-- what part says of a part -/
def PartR (t : PPt) : Prop := ∀ (v : Value) (B : Nat) (d n : Int) (w : World), PtM t v w → Boxed w B 3 (.int .i64 n) → 0 ≤ d → d ≤ 9 → 0 ≤ n → n ≤ 2000 →
  Calls Tryd.prog 18 #[v, .int .i64 d, .pointer (some ⟨B, 0, none⟩)] w fun e w' => e = .returned (.int .i64 (chk t d n).1) ∧ Boxed w' B 3 (.int .i64 (chk t d n).2) ∧ KB B w w'
/-- what the walk keeps: the counter, the part's box, the part -/
structure GR (w : World) (B : Nat) (nm : ByteArray) (ls : List PLn) (ks : List PPt) (A A2 : Option Addr) (c c2 : Nat) (m : Int) (W : World) : Prop where
  b : Boxed W B 3 (.int .i64 m)
  p : W.heap[w.heap.size]? = some (.cells #[.string nm, .slice A ls.length c, .slice A2 ks.length c2] 25 (0, 0))
  l : LS A ls W
  k : KsM ks A2 0 W
  e : KB B w W
  lt : B < w.heap.size
theorem GR.cells {w : World} {B : Nat} {nm : ByteArray} {ls : List PLn} {ks : List PPt} {A A2 : Option Addr} {c c2 : Nat} {m : Int} {W : World} (h : GR w B nm ls ks A A2 c c2 m W) :
    W.cell? ⟨w.heap.size, 0, none⟩ = some (.string nm) ∧ W.cell? ⟨w.heap.size, 1, none⟩ = some (.slice A ls.length c) ∧ W.cell? ⟨w.heap.size, 2, none⟩ = some (.slice A2 ks.length c2) :=
  ⟨cell_of_row _ _ _ _ _ (0, 0) h.p, cell_of_row _ _ _ _ _ (0, 0) h.p, cell_of_row _ _ _ _ _ (0, 0) h.p⟩
theorem GR.later {w : World} {B : Nat} {nm : ByteArray} {ls : List PLn} {ks : List PPt} {A A2 : Option Addr} {c c2 : Nat} {m : Int} {W W' : World} (h : GR w B nm ls ks A A2 c c2 m W) (hb : Below W.heap.size W W') : GR w B nm ls ks A A2 c c2 m W' :=
  ⟨(hb.block _ h.b.lt).trans h.b, (hb.block _ (Array.getElem?_eq_some_iff.1 h.p).1).trans h.p, h.l.later hb, KsM.later hb _ _ _ h.k, h.e.trans (KB.of_below hb), h.lt⟩
theorem GR.next {w : World} {B : Nat} {nm : ByteArray} {ls : List PLn} {ks : List PPt} {A A2 : Option Addr} {c c2 : Nat} {m m' : Int} {W W' : World} (h : GR w B nm ls ks A A2 c c2 m W) (hb : KB B W W') (hm : Boxed W' B 3 (.int .i64 m')) : GR w B nm ls ks A A2 c c2 m' W' :=
  ⟨hm, (hb.block _ (Array.getElem?_eq_some_iff.1 h.p).1 (by have := h.lt; omega)).trans h.p, h.l.kb hb h.b, KsM.kb hb h.b _ _ _ h.k, h.e.trans hb, h.lt⟩
theorem GR.new {w : World} {B : Nat} {nm : ByteArray} {ls : List PLn} {ks : List PPt} {A A2 : Option Addr} {n : Int} (c c2 : Nat) (hb : Boxed w B 3 (.int .i64 n)) (hl : LS A ls w) (hk : KsM ks A2 0 w) :
    GR w B nm ls ks A A2 c c2 n (w.alloc (.cells #[.string nm, .slice A ls.length c, .slice A2 ks.length c2] 25)) := by
  have h : Below w.heap.size w (w.alloc (.cells #[.string nm, .slice A ls.length c, .slice A2 ks.length c2] 25)) := (Below.refl _ w).alloc (Nat.le_refl _) _
  exact ⟨(h.block _ hb.lt).trans hb, World.alloc_heap_new w _, hl.later h, KsM.later h _ _ _ hk, KB.of_below h, hb.lt⟩
/-- within a line's round -/
structure RW (w : World) (B : Nat) (nm : ByteArray) (ls : List PLn) (ks : List PPt) (A A2 : Option Addr) (c c2 : Nat) (m : Int) (Bl : Nat) (y : PLn) (Av : Option Addr) (cv : Nat) (W : World) : Prop where
  g : GR w B nm ls ks A A2 c c2 m W
  b : LnBox W Bl y Av cv
  p : PS Av y.ps W
theorem RW.later {w : World} {B : Nat} {nm : ByteArray} {ls : List PLn} {ks : List PPt} {A A2 : Option Addr} {c c2 : Nat} {m : Int} {Bl : Nat} {y : PLn} {Av : Option Addr} {cv : Nat} {W W' : World} (h : RW w B nm ls ks A A2 c c2 m Bl y Av cv W) (hb : Below W.heap.size W W') : RW w B nm ls ks A A2 c c2 m Bl y Av cv W' :=
  ⟨h.g.later hb, h.b.later hb, h.p.later hb⟩
/-- within a param's round -/
structure QW (w : World) (B : Nat) (nm : ByteArray) (ls : List PLn) (ks : List PPt) (A A2 : Option Addr) (c c2 : Nat) (m : Int) (Bl : Nat) (y : PLn) (Av : Option Addr) (cv : Nat) (Bp : Nat) (z : PPm) (Az : Option Addr) (cz : Nat) (W : World) : Prop where
  r : RW w B nm ls ks A A2 c c2 m Bl y Av cv W
  b : PmBox W Bp z Az cz
  s : SL Az z.vs W
set_option maxRecDepth 100000 in
set_option maxHeartbeats 8000000 in
theorem rpart_step (nm : ByteArray) (ls : List PLn) (ks : List PPt) (IH : ∀ k (h : k < ks.length), PartR ks[k]) : PartR (.mk nm ls ks) := by
  intro v B d n w hp hb d1 d2 n1 n2
  unfold PtM at hp
  obtain ⟨z1, z2, z3, A, c, A2, c2, rfl, hls, hks⟩ := hp
  obtain ⟨m, hm⟩ : ∃ m : Int, m = n + ls.length + 2 := ⟨_, rfl⟩
  have HE : Hid ((chk (.mk nm ls ks) d n).1 = if 8 < d then 6 else if 2000 < m then 6 else if nmS nm = false then 8 else if eF (eL2 ls) ls.length = 0 then (chks ks (d + 1) m).1 else (eF (eL2 ls) ls.length)) := by
    show _ = _
    unfold chk
    rw [← hm]
    repeat' split
    all_goals rfl
  have HE2 : Hid ((chk (.mk nm ls ks) d n).2 = if 8 < d then m else if 2000 < m then m else if nmS nm = false then m else if eF (eL2 ls) ls.length = 0 then (chks ks (d + 1) m).2 else m) := by
    show _ = _
    unfold chk
    rw [← hm]
    repeat' split
    all_goals rfl
  have HW := hide (GR.new (nm := nm) c c2 hb hls hks)
  have KN := hide (fun W => partName_any nm W z1)
  have HI := hide IH
  clear IH hls hks hb
  generalize (chk (.mk nm ls ks) d n).1 = V at *
  generalize (chk (.mk nm ls ks) d n).2 = N at *
  go_enter Tryd.func18, Tryd.ntmps18
  go_upto_region 1 with fail
  have hw := HW.out
  obtain ⟨W0, hW0⟩ : ∃ W0, (w.alloc (.cells #[.string nm, .slice A ls.length c, .slice A2 ks.length c2] 25)) = W0 := ⟨_, rfl⟩
  rw [hW0] at hw ⊢
  clear hW0 HW
  obtain ⟨c0, c1, c2'⟩ := hw.cells
  have k0 := hw.b.cell
  have k1 := hw.b.frozen
  go_region
  rw [show n + 2 + (ls.length : Int) = m by omega]
  have m1 : 0 ≤ m := by omega
  have hkb : KB B W0 (W0.setCell ⟨B, 0, none⟩ (.int .i64 m)).drew := by
    have h := (KB.refl B W0).set (.int .i64 m)
    exact ⟨h.os, h.tape, h.output, h.size, h.block⟩
  have hw1 := hw.next hkb (show Boxed (W0.setCell ⟨B, 0, none⟩ (.int .i64 m)).drew B 3 (.int .i64 m) from hw.b.set _)
  obtain ⟨W1, hW1⟩ : ∃ W1, (W0.setCell ⟨B, 0, none⟩ (.int .i64 m)).drew = W1 := ⟨_, rfl⟩
  rw [hW1] at hw1 ⊢
  clear hW1 hkb hw c0 c1 c2' k0 k1 W0 hm
  obtain ⟨c0, c1, c2'⟩ := hw1.cells
  have k0 := hw1.b.cell
  have HW := hide hw1
  clear hw1
  by_cases e1 : 8 < d
  · have hR := HE.out
    have hN := HE2.out
    rw [if_pos e1] at hR
    rw [if_pos e1] at hN
    subst hR hN
    go_wp2
    go_ret
    exact ⟨rfl, HW.out.b, HW.out.e⟩
  · by_cases e2 : 2000 < m
    · have hR := HE.out
      have hN := HE2.out
      rw [if_neg e1, if_pos e2] at hR
      rw [if_neg e1, if_pos e2] at hN
      subst hR hN
      go_wp2
      go_ret
      exact ⟨rfl, HW.out.b, HW.out.e⟩
    · cases hn : nmS nm
      · have hR := HE.out
        have hN := HE2.out
        rw [if_neg e1, if_neg e2, if_pos hn] at hR
        rw [if_neg e1, if_neg e2, if_pos hn] at hN
        subst hR hN
        rw [hn] at KN
        clear hn
        go_wp2_with (go_at_call 28; refine (KN.out _).mono ?_; rintro e w' ⟨rfl, rfl⟩)
        go_ret
        exact ⟨rfl, HW.out.b, HW.out.e⟩
      · have hR := HE.out
        have hN := HE2.out
        rw [if_neg e1, if_neg e2, if_neg (by rw [hn]; simp)] at hR
        rw [if_neg e1, if_neg e2, if_neg (by rw [hn]; simp)] at hN
        rw [hn] at KN
        have HR := hide (And.intro hR hN)
        clear hn HE HE2 hR hN
        go_wp2_with (go_at_call 28; refine (KN.out _).mono ?_; rintro e w' ⟨rfl, rfl⟩)
        go_loopw [41] (fun i wr => ∃ k : Nat, k ≤ ls.length ∧ i = .int .i64 k ∧ eF (eL2 ls) k = 0 ∧ GR w B nm ls ks A A2 c c2 m wr) (fun i _ => ls.length - (intOf i).toNat)
        case atStart => exact ⟨0, by omega, rfl, rfl, HW.out⟩
        case round =>
          clear c0 c1 c2' k0 HW
          obtain ⟨k, hk, rfl, hall, hw⟩ := hrel
          by_cases hlt : k < ls.length
          · have hi : (k : Int) < ls.length := by omega
            obtain ⟨ad, Av, cv, hA, p0, p1, p2, hs, hok⟩ := hw.l k hlt
            subst hA
            have HK : Hid (eL2 ls k = eL ls[k]) := by
              show _ = _
              unfold eL2
              rw [List.getElem?_eq_getElem hlt]
            have HBAD : Hid (eL ls[k] ≠ 0 → V = eL ls[k] ∧ N = m) := fun he => by
              have hn : eF (eL2 ls) ls.length = eL ls[k] := by rw [eF_at hlt hall (by rw [HK.out]; exact he), HK.out]
              obtain ⟨hR, hN⟩ := HR.out
              rw [if_neg (by rw [hn]; exact he), hn] at hR
              rw [if_neg (by rw [hn]; exact he)] at hN
              exact ⟨hR, hN⟩
            have HGO : Hid (eL ls[k] = 0 → eF (eL2 ls) (k + 1) = 0) := fun he => by
              unfold eF
              rw [if_pos hall, HK.out, he]
            generalize ls[k] = y at *
            have hb1 : Below wr.heap.size wr (wr.alloc (.cells #[.string y.n, .slice Av y.ps.length cv, .string y.v] 56)) := (Below.refl _ wr).alloc (Nat.le_refl _) _
            have HRW := hide (RW.mk (hw.later hb1) (World.alloc_heap_new wr _ : LnBox _ wr.heap.size y Av cv) (hs.later hb1))
            clear hall hw hs hb1 HK
            have KN2 := hide (fun W => partName_any y.n W hok.n)
            have KC2 := hide (fun W => controls_any y.v W hok.v)
            have H1 : Hid ((y.n.toList == [66, 69, 71, 73, 78]) = isB y.n) := rfl
            have H2 : Hid ((y.n.toList == [69, 78, 68]) = isN2 y.n) := rfl
            have HEL : Hid (eL y = if nmS y.n = false then 8 else if isB y.n = true then 8 else if isN2 y.n = true then 8 else if eF (eP2 y.ps) y.ps.length = 0 then (if ctS y.v = true then 5 else 0) else eF (eP2 y.ps) y.ps.length) := rfl
            have HOK := hide hok
            have hyl := hok.l
            clear hok
            generalize eL y = EL at *
            obtain ⟨l0, l1, l2⟩ := HRW.out.b.cells
            cases hn2 : nmS y.n
            · have hE := HEL.out
              rw [if_pos hn2] at hE
              subst hE
              obtain ⟨rfl, rfl⟩ := HBAD.out (by decide)
              rw [hn2] at KN2
              clear hn2 HEL HGO HBAD HR
              go_wp2_with (go_at_call 28; refine (KN2.out _).mono ?_; rintro e w' ⟨rfl, rfl⟩)
              go_ret
              exact ⟨rfl, HRW.out.g.b, HRW.out.g.e⟩
            · rw [hn2] at KN2
              have hE := HEL.out
              rw [if_neg (by rw [hn2]; simp)] at hE
              cases h1 : isB y.n
              · rw [if_neg (by rw [h1]; simp)] at hE
                have q1 := H1.out
                rw [h1] at q1
                cases h2 : isN2 y.n
                · rw [if_neg (by rw [h2]; simp)] at hE
                  have q2 := H2.out
                  rw [h2] at q2
                  have HE3 := hide hE
                  clear hE HEL hn2 h1 h2
                  go_wp2_with (go_at_call 28; refine (KN2.out _).mono ?_; rintro e w' ⟨rfl, rfl⟩)
                  generalize wr.heap.size = Bl at *
                  go_loopw [62] (fun i wq => ∃ j : Nat, j ≤ y.ps.length ∧ i = .int .i64 j ∧ eF (eP2 y.ps) j = 0 ∧ RW w B nm ls ks (some ad) A2 c c2 m Bl y Av cv wq) (fun i _ => y.ps.length - (intOf i).toNat)
                  case atStart => exact ⟨0, by omega, rfl, rfl, HRW.out⟩
                  case round =>
                    clear l0 l1 l2 HRW
                    obtain ⟨j, hj, rfl, hall2, hq⟩ := hrel
                    by_cases hlt2 : j < y.ps.length
                    · have hi2 : (j : Int) < y.ps.length := by omega
                      obtain ⟨ad2, Az, cz, hA2, r0, r1, hs2⟩ := hq.p j hlt2
                      subst hA2
                      have HK2 : Hid (eP2 y.ps j = eP y.ps[j]) := by
                        show _ = _
                        unfold eP2
                        rw [List.getElem?_eq_getElem hlt2]
                      have HBAD2 : Hid (eP y.ps[j] ≠ 0 → V = eP y.ps[j] ∧ N = m) := fun he => by
                        have hn := eF_at hlt2 hall2 (by rw [HK2.out]; exact he)
                        rw [HK2.out] at hn
                        have hE := HE3.out
                        rw [if_neg (by rw [hn]; exact he), hn] at hE
                        have h5 := HBAD.out (by rw [hE]; exact he)
                        rw [hE] at h5
                        exact h5
                      have HGO2 : Hid (eP y.ps[j] = 0 → eF (eP2 y.ps) (j + 1) = 0) := fun he => by
                        unfold eF
                        rw [if_pos hall2, HK2.out, he]
                      have hokp := HOK.out.p j hlt2
                      generalize y.ps[j] = z at *
                      have hb2 : Below wr.heap.size wr (wr.alloc (.cells #[.string z.n, .slice Az z.vs.length cz] 58)) := (Below.refl _ wr).alloc (Nat.le_refl _) _
                      have HQ := hide (QW.mk (hq.later hb2) (World.alloc_heap_new wr _ : PmBox _ wr.heap.size z Az cz) (hs2.later hb2))
                      clear hall2 hq hs2 hb2 HK2
                      have KN3 := hide (fun W => partName_any z.n W hokp.n)
                      have hzl := hokp.l
                      have KH := hide (fun k (hk : k < z.vs.length) W => has_one z.vs[k] 34 W (hokp.v k hk))
                      have KC3 := hide (fun k (hk : k < z.vs.length) W => controls_any z.vs[k] W (hokp.v k hk))
                      have HEP : Hid (eP z = if nmS z.n = false then 8 else if z.vs.length = 0 then 13 else if Crn.allB (fun k => vB (z.vs.getD k ByteArray.empty)) z.vs.length = true then 0 else 5) := rfl
                      have HV : Hid (∀ k (hk : k < z.vs.length), vB (z.vs.getD k ByteArray.empty) = (!ctS z.vs[k] && !hasB z.vs[k] 34)) := fun k hk => by
                        rw [List.getD_eq_getElem?_getD, List.getElem?_eq_getElem hk]; rfl
                      clear hokp
                      generalize eP z = EZ at *
                      obtain ⟨l0, l1⟩ := HQ.out.b.cells
                      cases hn3 : nmS z.n
                      · have hE := HEP.out
                        rw [if_pos hn3] at hE
                        subst hE
                        obtain ⟨rfl, rfl⟩ := HBAD2.out (by decide)
                        rw [hn3] at KN3
                        clear hn3 HEP HGO2 HBAD2 HBAD HR HE3 HGO
                        go_wp2_with (go_at_call 28; refine (KN3.out _).mono ?_; rintro e w' ⟨rfl, rfl⟩)
                        go_ret
                        exact ⟨rfl, HQ.out.r.g.b, HQ.out.r.g.e⟩
                      · rw [hn3] at KN3
                        have hE := HEP.out
                        rw [if_neg (by rw [hn3]; simp)] at hE
                        rcases Nat.eq_zero_or_pos z.vs.length with h0 | h0
                        · rw [if_pos h0] at hE
                          subst hE
                          obtain ⟨rfl, rfl⟩ := HBAD2.out (by decide)
                          have hi0 : ((z.vs.length : Int) == 0) = true := by rw [h0]; rfl
                          clear h0 hn3 HEP HGO2 HBAD2 HBAD HR HE3 HGO
                          go_wp2_with (go_at_call 28; refine (KN3.out _).mono ?_; rintro e w' ⟨rfl, rfl⟩)
                          go_ret
                          exact ⟨rfl, HQ.out.r.g.b, HQ.out.r.g.e⟩
                        · rw [if_neg (by omega)] at hE
                          have HEZ := hide hE
                          have hi0 : ((z.vs.length : Int) == 0) = false := by rw [beq_eq_false_iff_ne]; omega
                          clear hn3 HEP hE
                          obtain ⟨ad3, hA3, _⟩ := HQ.out.s 0 h0
                          subst hA3
                          go_wp2_with (go_at_call 28; refine (KN3.out _).mono ?_; rintro e w' ⟨rfl, rfl⟩)
                          generalize wr.heap.size = Bp at *
                          go_loopw [77] (fun i wv => ∃ q : Nat, q ≤ z.vs.length ∧ i = .int .i64 q ∧ Crn.allB (fun k => vB (z.vs.getD k ByteArray.empty)) q = true ∧ QW w B nm ls ks (some ad) A2 c c2 m Bl y (some ad2) cv Bp z (some ad3) cz wv) (fun i _ => z.vs.length - (intOf i).toNat)
                          case atStart => exact ⟨0, by omega, rfl, rfl, HQ.out⟩
                          case round =>
                            clear l0 l1 HQ
                            obtain ⟨q, hq1, rfl, hall3, hqq⟩ := hrel
                            by_cases hlt3 : q < z.vs.length
                            · have hi3 : (q : Int) < z.vs.length := by omega
                              obtain ⟨ad4, hA4, hcv⟩ := hqq.s q hlt3
                              cases hA4
                              have hst : Crn.allB (fun k => vB (z.vs.getD k ByteArray.empty)) (q + 1) = (Crn.allB (fun k => vB (z.vs.getD k ByteArray.empty)) q && vB (z.vs.getD q ByteArray.empty)) := rfl
                              rw [hall3, Bool.true_and, HV.out q hlt3] at hst
                              have HBAD3 : Hid ((!ctS z.vs[q] && !hasB z.vs[q] 34) = false → V = 5 ∧ N = m) := fun hv => by
                                rw [← HV.out q hlt3] at hv
                                have hE := HEZ.out
                                rw [if_neg (by rw [Crn.allB_no hv _ hlt3]; simp)] at hE
                                subst hE
                                exact HBAD2.out (by decide)
                              have HST := hide hst
                              have HQ2 := hide hqq
                              have KH2 := hide (KH.out q hlt3)
                              have KC4 := hide (KC3.out q hlt3)
                              clear hst hall3 hqq
                              generalize z.vs[q] = v at *
                              cases hh : hasB v 34
                              · rw [hh] at KH2
                                cases hc : ctS v
                                · rw [hc] at KC4
                                  have hn := HST.out
                                  rw [hh, hc] at hn
                                  have HN := hide hn
                                  clear hn HST HBAD3 hh hc
                                  go_wp2_with (first | (go_at_call 26; refine (KH2.out _).mono ?_; rintro e w' ⟨rfl, rfl⟩) | (go_at_call 29; refine (KC4.out _).mono ?_; rintro e w' ⟨rfl, rfl⟩))
                                  go_roundw
                                  case rel => exact ⟨q + 1, by omega, by go_num, HN.out, HQ2.out⟩
                                  case measure => simp [intOf]; omega
                                · rw [hc] at KC4
                                  obtain ⟨rfl, rfl⟩ := HBAD3.out (by rw [hc]; rfl)
                                  clear HST HBAD3 hh hc HBAD2 HBAD HR HE3 HGO HGO2 HEZ
                                  go_wp2_with (first | (go_at_call 26; refine (KH2.out _).mono ?_; rintro e w' ⟨rfl, rfl⟩) | (go_at_call 29; refine (KC4.out _).mono ?_; rintro e w' ⟨rfl, rfl⟩))
                                  go_ret
                                  exact ⟨rfl, HQ2.out.r.g.b, HQ2.out.r.g.e⟩
                              · rw [hh] at KH2
                                obtain ⟨rfl, rfl⟩ := HBAD3.out (by rw [hh]; simp)
                                clear HST HBAD3 hh HBAD2 HBAD HR HE3 HGO HGO2 HEZ
                                go_wp2_with (first | (go_at_call 26; refine (KH2.out _).mono ?_; rintro e w' ⟨rfl, rfl⟩) | (go_at_call 29; refine (KC4.out _).mono ?_; rintro e w' ⟨rfl, rfl⟩))
                                go_ret
                                exact ⟨rfl, HQ2.out.r.g.b, HQ2.out.r.g.e⟩
                            · obtain rfl : q = z.vs.length := by omega
                              have hi3 : ¬ (z.vs.length : Int) < z.vs.length := by omega
                              have hE := HEZ.out
                              rw [if_pos hall3] at hE
                              have hn := HGO2.out hE
                              have HN := hide hn
                              have HQ2 := hide hqq
                              clear hall3 hqq hE hn HGO2 HBAD2 HEZ
                              go_wp2
                              go_roundw
                              case rel => exact ⟨j + 1, by omega, by go_num, HN.out, HQ2.out.r⟩
                              case measure => simp [intOf]; omega
                    · obtain rfl : j = y.ps.length := by omega
                      have hi2 : ¬ (y.ps.length : Int) < y.ps.length := by omega
                      obtain ⟨l0, l1, l2⟩ := hq.b.cells
                      have hE := HE3.out
                      rw [if_pos hall2] at hE
                      have HQ2 := hide hq
                      clear hall2 hq HE3
                      cases hv : ctS y.v
                      · rw [hv, if_neg (by simp)] at hE
                        have hn := HGO.out hE
                        have HN := hide hn
                        rw [hv] at KC2
                        clear hv hE hn HGO HBAD
                        go_wp2_with (go_at_call 29; refine (KC2.out _).mono ?_; rintro e w' ⟨rfl, rfl⟩)
                        go_roundw
                        case rel => exact ⟨k + 1, by omega, by go_num, HN.out, HQ2.out.g⟩
                        case measure => simp [intOf]; omega
                      · rw [hv, if_pos rfl] at hE
                        subst hE
                        obtain ⟨rfl, rfl⟩ := HBAD.out (by decide)
                        rw [hv] at KC2
                        clear hv HGO HBAD HR
                        go_wp2_with (go_at_call 29; refine (KC2.out _).mono ?_; rintro e w' ⟨rfl, rfl⟩)
                        go_ret
                        exact ⟨rfl, HQ2.out.g.b, HQ2.out.g.e⟩
                · rw [if_pos h2] at hE
                  subst hE
                  obtain ⟨rfl, rfl⟩ := HBAD.out (by decide)
                  have q2 := H2.out
                  rw [h2] at q2
                  clear hn2 h1 h2 HEL HGO HBAD HR
                  go_wp2_with (go_at_call 28; refine (KN2.out _).mono ?_; rintro e w' ⟨rfl, rfl⟩)
                  go_ret
                  exact ⟨rfl, HRW.out.g.b, HRW.out.g.e⟩
              · rw [if_pos h1] at hE
                subst hE
                obtain ⟨rfl, rfl⟩ := HBAD.out (by decide)
                have q1 := H1.out
                rw [h1] at q1
                clear hn2 h1 HEL HGO HBAD HR
                go_wp2_with (go_at_call 28; refine (KN2.out _).mono ?_; rintro e w' ⟨rfl, rfl⟩)
                go_ret
                exact ⟨rfl, HRW.out.g.b, HRW.out.g.e⟩
          · obtain rfl : k = ls.length := by omega
            have hi : ¬ (ls.length : Int) < ls.length := by omega
            obtain ⟨hR, hN⟩ := HR.out
            rw [if_pos hall] at hR hN
            have HR2 := hide (And.intro hR hN)
            obtain ⟨c0, c1, c2'⟩ := hw.cells
            have HW2 := hide hw
            clear hall hw HR hR hN
            go_wp2_with fail
            go_loopw [96] (fun i wx => ∃ (k : Nat) (mk : Int), k ≤ ks.length ∧ i = .int .i64 k ∧ chks (ks.take k) (d + 1) m = (0, mk) ∧ 0 ≤ mk ∧ mk ≤ 2000 ∧ GR w B nm ls ks A A2 c c2 mk wx) (fun i _ => ks.length - (intOf i).toNat)
            case atStart => exact ⟨0, m, by omega, rfl, by unfold chks; rfl, m1, e2, HW2.out⟩
            case round =>
              clear c0 c1 c2' HW2
              obtain ⟨k, mk, hk2, rfl, hall, mk1, mk2, hw⟩ := hrel
              by_cases hlt2 : k < ks.length
              · have hi2 : (k : Int) < ks.length := by omega
                obtain ⟨ad, a, b, cc, hA, p0, p1, p2, hp⟩ := hw.k.at k hlt2
                rw [Nat.zero_add] at p0 p1 p2
                subst hA
                have hst := chks_step ks (d + 1) m mk k hlt2 hall
                have hsp := chks_stop ks (d + 1) m mk k hlt2 hall
                have hbd := chk_bd ks[k] (d + 1) mk mk1
                have HP := hide (HI.out k hlt2)
                have hp2 := hp
                obtain ⟨nm', ls', ks', ek⟩ : ∃ nm' ls' ks', ks[k] = PPt.mk nm' ls' ks' := by
                  cases ks[k] with
                  | mk a b c => exact ⟨a, b, c, rfl⟩
                rw [ek] at hp2
                unfold PtM at hp2
                obtain ⟨_, _, _, A', c', A2', c2', e', _, _⟩ := hp2
                simp only [Value.agg.injEq, Array.mk.injEq, List.cons.injEq, and_true] at e'
                obtain ⟨rfl, rfl, rfl⟩ := e'
                clear ek
                have hb1 : Below wr.heap.size wr (wr.alloc (.cells #[.string nm', .slice A' ls'.length c', .slice A2' ks'.length c2'] 25)) := (Below.refl _ wr).alloc (Nat.le_refl _) _
                have hw1 := hw.later hb1
                have KP2 := hide (HP.out _ B (d + 1) mk _ (PtM.later hb1 _ _ hp) hw1.b (by omega) (by omega) mk1 mk2)
                have HW3 := hide hw1
                have HST := hide (And.intro hst (And.intro hsp hbd))
                clear hst hsp hbd HP hp hw hw1 hb1 hall
                generalize chk ks[k] (d + 1) mk = q at *
                by_cases he : q.1 = 0
                · rw [he] at KP2
                  have hN1 : chks (ks.take (k + 1)) (d + 1) m = (0, q.2) := by rw [HST.out.1, ← he]
                  have hB1 := HST.out.2.2 he
                  have HN := hide (And.intro hN1 hB1)
                  clear hN1 hB1 he HST
                  go_wp2_with fail
                  refine KP2.out.mono ?_
                  rintro e W2 ⟨rfl, hb2, hk3⟩
                  have HW4 := hide (HW3.out.next hk3 hb2)
                  clear hb2 hk3
                  go_wp2
                  go_roundw
                  case rel => exact ⟨k + 1, q.2, by omega, by go_num, HN.out.1, HN.out.2.1, HN.out.2.2, HW4.out⟩
                  case measure => simp [intOf]; omega
                · obtain ⟨hR, hN⟩ := HR2.out
                  rw [HST.out.2.1 he] at hR hN
                  subst hR hN
                  clear HST HR2
                  go_wp2_with fail
                  refine KP2.out.mono ?_
                  rintro e W2 ⟨rfl, hb2, hk3⟩
                  have HW4 := hide (HW3.out.next hk3 hb2)
                  clear hb2 hk3
                  go_wp2
                  go_ret
                  exact ⟨rfl, HW4.out.b, HW4.out.e⟩
              · obtain rfl : k = ks.length := by omega
                have hi2 : ¬ (ks.length : Int) < ks.length := by omega
                obtain ⟨hR, hN⟩ := HR2.out
                rw [chks_all ks (d + 1) m mk hall] at hR hN
                rw [show ((0 : Int), mk).1 = 0 from rfl] at hR
                subst hR hN
                have HW3 := hide hw
                clear hw hall HR2
                go_wp2
                go_ret
                exact ⟨rfl, HW3.out.b, HW3.out.e⟩
mutual
theorem rpart_any : ∀ t, PartR t
  | .mk nm ls ks => rpart_step nm ls ks (rparts_any ks)
theorem rparts_any : ∀ (ks : List PPt) (k : Nat) (h : k < ks.length), PartR ks[k]
  | [], k, h => absurd h (Nat.not_lt_zero _)
  | x :: ks, 0, h => rpart_any x
  | x :: ks, k + 1, h => rparts_any ks k (by simpa using h)
end
end Go.Proofs.YtponocolfjkapaaDoor
