/- the reference of plans, levelled: place. -/
import Derived.Test.YtjmjabdokckdlaaDoorRqN
namespace Go.Proofs.YtjmjabdokckdlaaDoor
open Go.RowKit Go.Shelf
set_option linter.unusedVariables false
set_option linter.unusedSimpArgs false

/-- the best of some candidates; -1: none -/
def BstL (f : Int) (E : Int → Prop) (C : List Int) (bb : Int) : Prop := (bb = -1 ∧ ∀ c ∈ C, f ≤ c → ¬ E c) ∨ (0 ≤ bb ∧ bb ∈ C ∧ f ≤ bb ∧ E bb ∧ ∀ c ∈ C, f ≤ c → E c → bb ≤ c)
theorem BstL.take {f : Int} {E : Int → Prop} {C : List Int} {bb x : Int} (h : BstL f E C bb) (hf : 0 ≤ f) (h1 : f ≤ x) (h2 : bb < 0 ∨ x < bb) (h3 : E x) : BstL f E (C ++ [x]) x := by
  refine .inr ⟨by omega, by simp, h1, h3, fun c hc hfc hE => ?_⟩
  rcases List.mem_append.1 hc with g | g
  · rcases h with ⟨_, h⟩ | ⟨_, _, _, _, h⟩
    · exact absurd hE (h c g hfc)
    · have := h c g hfc hE; omega
  · rw [List.mem_singleton.1 g]; exact Int.le_refl _
theorem BstL.skip {f : Int} {E : Int → Prop} {C : List Int} {bb x : Int} (h : BstL f E C bb) (hn : f ≤ x → E x → ¬ bb < 0 ∧ bb ≤ x) : BstL f E (C ++ [x]) bb := by
  rcases h with ⟨h0, h⟩ | ⟨h0, h1, h2, h3, h⟩
  · refine .inl ⟨h0, fun c hc hfc hE => ?_⟩
    rcases List.mem_append.1 hc with g | g
    · exact h c g hfc hE
    · rw [List.mem_singleton.1 g] at hfc hE
      have := hn hfc hE; omega
  · refine .inr ⟨h0, List.mem_append_left _ h1, h2, h3, fun c hc hfc hE => ?_⟩
    rcases List.mem_append.1 hc with g | g
    · exact h c g hfc hE
    · rw [List.mem_singleton.1 g] at hfc hE ⊢
      exact (hn hfc hE).2
def cndL (s : Sp) (f : Int) (d : List Nat) : List Int := f :: d.map (fun k => (s k).2)
theorem cndL_len (s : Sp) (f : Int) (d : List Nat) : (cndL s f d).length = d.length + 1 := by unfold cndL; simp
/-- the best of all is the place -/
theorem bst_put {P : List Tk} (hG : Good P) {H : List Int} {s : Sp} {d : List Nat} {k : Nat} (hL : Lev P H s (inR d) k) (hn : d.Nodup) (hd : ∀ k ∈ d, k < P.length) (i : Nat) (hi : i < P.length) (hU : ∀ r, r < (tk P i).uses.length → (tk P i).uses.getD r 0 ≤ amt H r) (bb : Int) (h : BstL (soon P i s) (EnP P H s d i) (cndL s (soon P i s) d) bb) : bb = putB P H s (inR d) i := by
  have hE := fun x => enP_hrs hG hL hn hd i hi hU x
  obtain ⟨hf, hge, _, hr⟩ := hL.found hG i hi hU
  have hpm := begS_mem.1 (List.mem_of_find?_eq_some hf)
  have hpc : putB P H s (inR d) i ∈ cndL s (soon P i s) d := by
    unfold cndL
    rcases hpm with e | ⟨j, _, hj, _, e⟩
    · rw [e]; simp
    · rw [e]; exact List.mem_cons_of_mem _ (List.mem_map.2 ⟨j, of_decide_eq_true hj, rfl⟩)
  rcases h with ⟨_, h⟩ | ⟨_, h1, h2, h3, h⟩
  · exact absurd ((hE _).2 hr) (h _ hpc hge)
  · have a := h _ hpc hge ((hE _).2 hr)
    have b := putB_least hG hL i hi hU bb (begS_mem.2 (by
      unfold cndL at h1
      rcases List.mem_cons.1 h1 with e | e
      · exact .inl e
      · obtain ⟨j, hj, e⟩ := List.mem_map.1 e
        by_cases c : bb = soon P i s
        · exact .inl c
        · exact .inr ⟨j, hd j hj, by unfold inR; exact decide_eq_true hj, by omega, e.symm⟩)) ((hE bb).1 h3)
    omega
set_option maxRecDepth 100000 in
set_option maxHeartbeats 16000000 in
theorem rplace_any {P : List Tk} (hG : Good P) (H : List Int) (hH : H.length ≤ 8) (s : Sp) (d : List Nat) (k : Nat) (hL : Lev P H s (inR d) k) (hk : k ≤ 60) (hn : d.Nodup) (hd : ∀ k ∈ d, k < P.length) (hdl : d.length ≤ 60) (i : Nat) (hi : i < P.length) (hh : hav (inR d) (tk P i).links = true) (hU : ∀ r, r < (tk P i).uses.length → (tk P i).uses.getD r 0 ≤ amt H r) (tv hv : Value) (q c : Nat) (dv : Value) (base : Nat) (w : World) (hT : TsAt w tv P) (hHv : NsAt w hv H) (hs : SpAt q P.length s w) (hdv : OwnN w base dv d) :
    Calls Tryd.prog 39 #[tv, hv, .slice (some ⟨q, 0, none⟩) P.length c, dv, .int .i64 (i : Int)] w fun e w' => e = .returned (.agg #[.int .i64 (putB P H s (inR d) i), .int .i64 (putB P H s (inR d) i + (tk P i).len)]) ∧ RowKit.Below w.heap.size w w' := by
  have hsb : SpBd P.length s := fun t ht => by have := hL.bd t; omega
  have hpl : ∀ x ∈ (tk P i).links, (s x.t.toNat).2 = (s x.t.toNat).1 + (tk P x.t.toNat).len := fun x hx => by
    have h1 : inR d x.t.toNat = true := List.all_eq_true.1 hh x hx
    exact (hL.fit _ (hd _ (of_decide_eq_true h1)) h1).1
  have KS := hide (fun W (hb : RowKit.Below w.heap.size w W) => rsoonest_any hG i hi s hsb hpl tv q c W (hT.below hb) (hs.below hb))
  have KY := hide (fun (x : Int) (hx : -4000000000000 ≤ x ∧ x ≤ 4000000000000) (hE : EnP P H s d i x) W (hb : RowKit.Below w.heap.size w W) => (enough_any hG H hH s hsb d hd hdl i hi x hx tv hv q c dv base W (hT.below hb) (hHv.below hb) (hs.below hb) (own_bel hdv hb)).mono fun e w' ⟨b, h1, h2, h3⟩ => (⟨by rw [h1, h2.2 hE], h3⟩ : e = Ending.returned (.bool true) ∧ RowKit.Below W.heap.size W w'))
  have KN := hide (fun (x : Int) (hx : -4000000000000 ≤ x ∧ x ≤ 4000000000000) (hE : ¬ EnP P H s d i x) W (hb : RowKit.Below w.heap.size w W) => (enough_any hG H hH s hsb d hd hdl i hi x hx tv hv q c dv base W (hT.below hb) (hHv.below hb) (hs.below hb) (own_bel hdv hb)).mono fun e w' ⟨b, h1, h2, h3⟩ => (⟨by
      cases b with
      | true => exact absurd (h2.1 rfl) hE
      | false => exact h1, h3⟩ : e = Ending.returned (.bool false) ∧ RowKit.Below W.heap.size W w'))
  have HBST := hide (fun bb h => bst_put hG hL hn hd i hi hU bb h)
  have hfb := hL.soonB hG i hi
  have HLB := hide hL.bd
  obtain ⟨ad, cap, rfl, hall⟩ := hT
  obtain ⟨g, o, lv, uv, rfl, y0, _, _, _, _, _⟩ := hall i hi
  obtain ⟨ha, hc, rfl, _⟩ := hHv
  have HS := hide hs
  have HDV := hide hdv
  obtain ⟨da, dc, rfl⟩ := (own_len hdv).2
  have hii : (i : Int) < (P.length : Int) := by omega
  have hlen := hG.len i hi
  have HY0 := hide y0
  have hpb := hL.found hG i hi hU
  have hpr := hpb.2.2.1
  have hpg := hpb.2.1
  have hR0 : SpR w.heap.size 1 (fun _ => (0, 0)) (w.alloc (.cells #[.int .i64 0, .int .i64 0] 37)) := ⟨_, World.alloc_heap_new w _, fun t ht => by
    obtain rfl : t = 0 := by omega
    exact ⟨rfl, rfl⟩⟩
  have hB0 : RowKit.Below w.heap.size w (w.alloc (.cells #[.int .i64 0, .int .i64 0] 37)) := (RowKit.Below.refl _ w).alloc (Nat.le_refl _) _
  have HR0 := hide (And.intro hR0 hB0)
  clear hall hs hdv y0 hpb hR0 hB0 hL hG hsb hpl hh hU
  generalize hfs : soon P i s = f at *
  generalize hput : putB P H s (inR d) i = pb at *
  generalize hEE : EnP P H s d i = EE at *
  generalize htl : (tk P i).len = tl at *
  go_enter Tryd.func39, Tryd.ntmps39
  go_wp2_with (go_at_call 30; refine (KS.out _ HR0.out.2).mono ?_; rintro e X ⟨rfl, hx⟩; have HX := hide (And.intro (HR0.out.1.step hx) (HR0.out.2.trans (hx.mono HR0.out.2.size))); clear hx)
  clear KS HR0
  go_loopw [12, 13] (fun bv j wr => ∃ (m : Nat) (bb : Int), m ≤ d.length + 1 ∧ j = .int .i64 ((m : Int) - 1) ∧ bv = .int .i64 bb ∧ BstL f EE ((cndL s f d).take m) bb ∧ RowKit.Below X.heap.size X wr) (fun _ j _ => d.length + 1 - (intOf j + 1).toNat)
  case atStart => exact ⟨0, -1, by omega, rfl, rfl, .inl ⟨rfl, fun c hc => by simp at hc⟩, RowKit.Below.refl _ _⟩
  case round =>
    obtain ⟨m, bb, hm, rfl, rfl, hb, hB⟩ := hrel
    have hcl := cndL_len s f d
    have hBw : RowKit.Below w.heap.size w wr := HX.out.2.trans (hB.mono HX.out.2.size)
    by_cases hlt : m < d.length + 1
    · have hml : m < (cndL s f d).length := by omega
      have hnx : (cndL s f d).take (m + 1) = (cndL s f d).take m ++ [(cndL s f d)[m]] := List.take_succ_eq_append_getElem hml
      have HB := hide hB
      have HBW := hide hBw
      have HBS := hide hb
      clear hB hBw hb
      rcases m with _ | m
      · have e0 : (cndL s f d)[0] = f := rfl
        rw [e0] at hnx
        have HNX := hide hnx
        obtain rfl : bb = -1 := by
          rcases HBS.out with h | ⟨_, h, _⟩
          · exact h.1
          · simp at h
        have hdl0 : (-1 : Int) < (d.length : Int) := by omega
        clear hnx e0 hml hcl hlt hm
        by_cases hE : EE f
        · have KX := hide (KY.out f (by omega) hE wr HBW.out)
          have hnb := HBS.out.take (x := f) hfb.1 (Int.le_refl _) (.inl (by omega)) hE
          rw [← HNX.out] at hnb
          have HNB := hide hnb
          clear hnb hE
          go_wp2_with (go_at_call 54; refine KX.out.mono ?_; rintro e X' ⟨rfl, hx⟩)
          go_roundw
          case rel => exact ⟨1, f, by omega, by first | go_num | simp, rfl, HNB.out, HB.out.trans (hx.mono HB.out.size)⟩
          case measure => simp [intOf] <;> omega
        · have KX := hide (KN.out f (by omega) hE wr HBW.out)
          have hnb := HBS.out.skip (x := f) (fun _ h => absurd h hE)
          rw [← HNX.out] at hnb
          have HNB := hide hnb
          clear hnb hE
          go_wp2_with (go_at_call 54; refine KX.out.mono ?_; rintro e X' ⟨rfl, hx⟩)
          go_roundw
          case rel => exact ⟨1, -1, by omega, by first | go_num | simp, rfl, HNB.out, HB.out.trans (hx.mono HB.out.size)⟩
          case measure => simp [intOf] <;> omega
      · have hmd : m < d.length := by omega
        have e1 : (cndL s f d)[m + 1] = (s d[m]).2 := by
          have h : (cndL s f d)[m + 1]? = some (s d[m]).2 := by unfold cndL; rw [List.getElem?_cons_succ, List.getElem?_map, List.getElem?_eq_getElem hmd]; rfl
          exact Option.some.inj ((List.getElem?_eq_getElem hml).symm.trans h)
        rw [e1] at hnx
        have hkm := hd d[m] (List.getElem_mem hmd)
        have ejj : ((m + 1 : Nat) : Int) - 1 = (m : Int) := by omega
        have enj : (m : Int) + 1 = ((m + 1 + 1 : Nat) : Int) - 1 := by omega
        rw [ejj]
        obtain ⟨c0, hcm, rfl⟩ : ∃ c0, wr.cell? ⟨c0, m, none⟩ = some (.int .i64 ((d[m] : Nat) : Int)) ∧ da = some ⟨c0, 0, none⟩ := by
          have ho := own_bel HDV.out HBW.out
          rcases ho.2 with ⟨e, e0⟩ | ⟨g, cap, cur, e, _⟩
          · omega
          · obtain ⟨rfl, rfl⟩ : da = some ⟨g, 0, none⟩ ∧ dc = cap := by simpa using e
            exact ⟨g, (ho.cellAt m (by omega)).trans (nV_at d m hmd), rfl⟩
        have s1 := ((HS.out.below HBW.out) d[m] hkm).2
        have hsx := HLB.out d[m]
        have HNX := hide hnx
        have hmi : (m : Int) < (d.length : Int) := by omega
        clear hnx hml hcl e1
        generalize d[m] = kk at *
        have hki : ((kk : Nat) : Int) < (P.length : Int) := by omega
        generalize (s kk).2 = x at *
        generalize (s kk).1 = x' at *
        have hnum : ∀ y : Int, y = (m : Int) + 1 → Value.int .i64 y = Value.int .i64 (((m + 1 + 1 : Nat) : Int) - 1) := fun y hy => by rw [hy, enj]
        have HNUM := hide hnum
        have HENJ := hide enj
        clear hnum enj ejj
        by_cases hfx : f ≤ x
        · by_cases hb0 : bb < 0
          · by_cases hE : EE x
            · have KX := hide (KY.out x (by omega) hE wr HBW.out)
              have hnb := HBS.out.take hfb.1 hfx (.inl hb0) hE
              rw [← HNX.out] at hnb
              have HNB := hide hnb
              clear hnb hE
              go_wp2_with (go_at_call 54; refine KX.out.mono ?_; rintro e X' ⟨rfl, hx⟩)
              go_roundw
              case rel => exact ⟨m + 1 + 1, x, by omega, HNUM.out _ rfl, rfl, HNB.out, HB.out.trans (hx.mono HB.out.size)⟩
              case measure => simp [intOf] <;> omega
            · have KX := hide (KN.out x (by omega) hE wr HBW.out)
              have hnb := HBS.out.skip (fun _ h => absurd h hE)
              rw [← HNX.out] at hnb
              have HNB := hide hnb
              clear hnb hE
              go_wp2_with (go_at_call 54; refine KX.out.mono ?_; rintro e X' ⟨rfl, hx⟩)
              go_roundw
              case rel => exact ⟨m + 1 + 1, bb, by omega, HNUM.out _ rfl, rfl, HNB.out, HB.out.trans (hx.mono HB.out.size)⟩
              case measure => simp [intOf] <;> omega
          · by_cases hxb : x < bb
            · by_cases hE : EE x
              · have KX := hide (KY.out x (by omega) hE wr HBW.out)
                have hnb := HBS.out.take hfb.1 hfx (.inr hxb) hE
                rw [← HNX.out] at hnb
                have HNB := hide hnb
                clear hnb hE
                go_wp2_with (go_at_call 54; refine KX.out.mono ?_; rintro e X' ⟨rfl, hx⟩)
                go_roundw
                case rel => exact ⟨m + 1 + 1, x, by omega, HNUM.out _ rfl, rfl, HNB.out, HB.out.trans (hx.mono HB.out.size)⟩
                case measure => simp [intOf] <;> omega
              · have KX := hide (KN.out x (by omega) hE wr HBW.out)
                have hnb := HBS.out.skip (fun _ h => absurd h hE)
                rw [← HNX.out] at hnb
                have HNB := hide hnb
                clear hnb hE
                go_wp2_with (go_at_call 54; refine KX.out.mono ?_; rintro e X' ⟨rfl, hx⟩)
                go_roundw
                case rel => exact ⟨m + 1 + 1, bb, by omega, HNUM.out _ rfl, rfl, HNB.out, HB.out.trans (hx.mono HB.out.size)⟩
                case measure => simp [intOf] <;> omega
            · have hnb := HBS.out.skip (x := x) (fun _ _ => ⟨hb0, by omega⟩)
              rw [← HNX.out] at hnb
              have HNB := hide hnb
              clear hnb
              go_wp2_with fail
              go_roundw
              case rel => exact ⟨m + 1 + 1, bb, by omega, HNUM.out _ rfl, rfl, HNB.out, HB.out⟩
              case measure => simp [intOf] <;> omega
        · have hnb := HBS.out.skip (x := x) (fun h _ => absurd h hfx)
          rw [← HNX.out] at hnb
          have HNB := hide hnb
          clear hnb
          go_wp2_with fail
          go_roundw
          case rel => exact ⟨m + 1 + 1, bb, by omega, HNUM.out _ rfl, rfl, HNB.out, HB.out⟩
          case measure => simp [intOf] <;> omega
    · obtain rfl : m = d.length + 1 := by omega
      rw [← hcl, List.take_length] at hb
      have hbb := HBST.out bb hb
      subst hbb
      have hR := HX.out.1.step hB
      have hcx : wr.cell? ⟨w.heap.size, 0, none⟩ = some (.int .i64 0) := by simpa using (hR.at 0 (by omega)).1
      have hcy : wr.cell? ⟨w.heap.size, 1, none⟩ = some (.int .i64 0) := by simpa using (hR.at 0 (by omega)).2
      have hset := (hR.set 0 (by omega) bb (bb + tl)).at 0 (by omega)
      simp only [upS_same, Nat.zero_mul, Nat.zero_add] at hset
      have HSET := hide hset
      clear hset
      have hfx := hR.froz 0
      have hfy := hR.froz 1
      have x0 := (hBw.cell (World.block_lt_of_cell? w _ HY0.out)).trans HY0.out
      have hmi : ¬ ((d.length : Int) + 1 - 1) < (d.length : Int) := by omega
      have hwu := wrap64_id (x := bb + tl) (by omega) (by omega)
      have HBW := hide hBw
      have hz : w.heap.size ≤ w.heap.size := Nat.le_refl _
      have hwz : w.heap.size < wr.heap.size := hR.lt
      clear hB hBw hb hR hcl
      rw [show ((d.length + 1 : Nat) : Int) - 1 = (d.length : Int) by omega]
      go_wp2_with fail
      have hBF := (HBW.out.setCell (p := ⟨w.heap.size, 0, none⟩) hz (.int .i64 bb)).setCell (p := ⟨w.heap.size, 1, none⟩) hz (.int .i64 (bb + tl))
      refine bodyPost_ret (v := .agg #[.int .i64 bb, .int .i64 (bb + tl)]) ?_ rfl ⟨rfl, hBF⟩
      have hs0 := HSET.out.1
      have hs1 := HSET.out.2
      simp [results, Tryd.results39, go_sem, hs0, hs1]
end Go.Proofs.YtjmjabdokckdlaaDoor
