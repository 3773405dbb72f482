/- the reference of plans: Path. (Written by gen/rpg.py.) -/
import Derived.Test.YtjmjabdokckdlaaDoorRpD
import Derived.Test.YtjmjabdokckdlaaDoorPlnQ
namespace Go.Proofs.YtjmjabdokckdlaaDoor
open Go.RowKit Go.Shelf
set_option linter.unusedVariables false
set_option linter.unusedSimpArgs false

theorem Tgt.uniq {P : List Tk} {a b b' : Nat} (h : Tgt P a b) (h' : Tgt P a b') : b = b' := by
  obtain ⟨k, h1, rfl, h3, h4⟩ := h
  obtain ⟨k', g1, rfl, g3, g4⟩ := h'
  rcases Nat.lt_trichotomy k k' with e | e | e
  · exact absurd h3 (g4 k e)
  · rw [e]
  · exact absurd g3 (h4 k' e)
theorem Gop.props {P : List Tk} {l : List Nat} (h : Gop P l) : l[0]? = some (laI (eS P) P.length) ∧ ∀ i a b, l[i]? = some a → l[i + 1]? = some b → Tgt P a b ∧ (eS P a).1 ≠ (tk P a).nb := by
  induction h with
  | one => exact ⟨rfl, fun i a b _ h => by simp at h⟩
  | step p a b _ hn ht ih =>
    obtain ⟨h0, hs⟩ := ih
    refine ⟨?_, fun i x y hx hy => ?_⟩
    · rw [List.getElem?_append_left (by simp)]; exact h0
    · by_cases hi : i + 1 < (p ++ [a]).length
      · rw [List.getElem?_append_left (by omega)] at hx
        rw [List.getElem?_append_left hi] at hy
        exact hs i x y hx hy
      · have hlen : (p ++ [a]).length = p.length + 1 := by simp
        have hi2 : i + 1 < (p ++ [a] ++ [b]).length := (List.getElem?_eq_some_iff.1 hy).1
        have hl2 : (p ++ [a] ++ [b]).length = p.length + 2 := by simp
        have ei : i = p.length := by omega
        subst ei
        rw [List.getElem?_append_left (by omega), List.getElem?_append_right (by omega)] at hx
        rw [List.getElem?_append_right (by omega)] at hy
        have h1 : a = x := by simpa using hx
        have h2 : b = y := by simpa [hlen] using hy
        subst h1; subst h2
        exact ⟨ht, hn⟩
theorem Gop.same {P : List Tk} {l l' : List Nat} (h : Gop P l) (h' : Gop P l') : ∀ (i a b : Nat), l[i]? = some a → l'[i]? = some b → a = b
  | 0, a, b, ha, hb => by rw [h.props.1] at ha; rw [h'.props.1] at hb; cases ha; cases hb; rfl
  | i + 1, a, b, ha, hb => by
    have hi : i < l.length := by have := (List.getElem?_eq_some_iff.1 ha).1; omega
    have hi' : i < l'.length := by have := (List.getElem?_eq_some_iff.1 hb).1; omega
    have e := h.same h' i l[i] l'[i] (List.getElem?_eq_getElem hi) (List.getElem?_eq_getElem hi')
    have t1 := (h.props.2 i _ a (List.getElem?_eq_getElem hi) ha).1
    have t2 := (h'.props.2 i _ b (List.getElem?_eq_getElem hi') hb).1
    rw [e] at t1
    exact t1.uniq t2
theorem Gop.le {P : List Tk} {p p' : List Nat} {a a' : Nat} (h : Gop P (p ++ [a])) (h' : Gop P (p' ++ [a'])) (hn : (eS P a).1 = (tk P a).nb) : (p' ++ [a']).length ≤ (p ++ [a]).length := by
  rcases Nat.lt_or_ge (p ++ [a]).length (p' ++ [a']).length with g | g
  · have h1 : (p ++ [a])[p.length]? = some a := by simp
    have hl : (p ++ [a]).length = p.length + 1 := by simp
    have i1 : p.length < (p' ++ [a']).length := by omega
    have i2 : p.length + 1 < (p' ++ [a']).length := by omega
    have e := h.same h' _ a _ h1 (List.getElem?_eq_getElem i1)
    have := (h'.props.2 p.length _ _ (List.getElem?_eq_getElem i1) (List.getElem?_eq_getElem i2)).2
    rw [← e] at this
    exact absurd hn this
  · exact g
/-- there is one such row -/
theorem Gop.uniq {P : List Tk} {p p' : List Nat} {a a' : Nat} (h : Gop P (p ++ [a])) (h' : Gop P (p' ++ [a'])) (hn : (eS P a).1 = (tk P a).nb) (hn' : (eS P a').1 = (tk P a').nb) : p ++ [a] = p' ++ [a'] := by
  have l1 := h.le h' hn
  have l2 := h'.le h hn'
  refine List.ext_getElem (by omega) fun i h1 h2 => h.same h' i _ _ (List.getElem?_eq_getElem h1) (List.getElem?_eq_getElem h2)
/-- what the walk keeps -/
structure RtS (X0 : World) (P : List Tk) (v : Value) (X : World) (p : List Nat) (a : Nat) : Prop where
  own : OwnN X X0.heap.size v (p ++ [a]).reverse
  g : Gop P (p ++ [a])
  l : a < P.length
  n : (p ++ [a]).length + (ord P).idxOf a ≤ P.length
  b : RowKit.Below X0.heap.size X0 X
/-- what stands about a link -/
structure RlS (w : World) (q n : Nat) (s : Sp) (z1 : Nat) (t : Nat) (k g : Int) (z2 : Nat) (a b : Int) (X : World) : Prop where
  l0 : X.cell? ⟨z1, 0, none⟩ = some (.int .i64 (t : Int))
  l1 : X.cell? ⟨z1, 1, none⟩ = some (.int .i64 k)
  l2 : X.cell? ⟨z1, 2, none⟩ = some (.int .i64 g)
  m0 : X.cell? ⟨z2, 0, none⟩ = some (.int .i64 a)
  m1 : X.cell? ⟨z2, 1, none⟩ = some (.int .i64 b)
  sp : SpR q n s X
  b : RowKit.Below w.heap.size w X
theorem RlS.step {w : World} {q n : Nat} {s : Sp} {z1 t : Nat} {k g : Int} {z2 : Nat} {a b : Int} {X X' : World} (h : RlS w q n s z1 t k g z2 a b X) (hb : RowKit.Below X.heap.size X X') : RlS w q n s z1 t k g z2 a b X' :=
  have e {p : Addr} {v : Value} (e : X.cell? p = some v) : X'.cell? p = some v := (hb.cell (World.block_lt_of_cell? X _ e)).trans e
  ⟨e h.l0, e h.l1, e h.l2, e h.m0, e h.m1, h.sp.step hb, h.b.trans (hb.mono h.b.size)⟩
theorem own_cells {X : World} {base : Nat} {v : Value} {r : List Nat} (h : OwnN X base v r) (hn : 0 < r.length) : ∃ q c, v = .slice (some ⟨q, 0, none⟩) r.length c ∧ ∀ j u, (nV r)[j]? = some u → X.cell? ((⟨q, 0, none⟩ : Addr).add j) = some u := by
  have h2 := h
  rcases h2.2 with ⟨_, e⟩ | ⟨g, cap, cur, rfl, _⟩
  · omega
  · refine ⟨g, cap, rfl, fun j u hu => ?_⟩
    have hj : j < r.length := by have := (List.getElem?_eq_some_iff.1 hu).1; rw [nV_len] at this; exact this
    have e : (⟨g, 0, none⟩ : Addr).add j = ⟨g, j, none⟩ := by by_cases h : j = 0 <;> simp [Addr.add, h]
    rw [e]
    exact (h.cellAt j (by omega)).trans hu
set_option maxRecDepth 100000 in
set_option maxHeartbeats 16000000 in
theorem rpath_any (P : List Tk) (v : Value) (w : World) (hv : TsAt w v P) :
    Calls Tryd.prog 18 #[v] w fun e w' => ∃ u, e = .returned (.tuple #[u, .int .i64 (chkP P)]) ∧ (chkP P = 0 → PaV w w' P u) ∧ (chkP P ≠ 0 → u = .slice none 0 0) ∧ RowKit.Below w.heap.size w w' := by
  have KE := hide (rearly_any P v w hv)
  obtain ⟨ad, cap, rfl, hall⟩ := hv
  have HALL := hide hall
  clear hall
  obtain ⟨i0, hi, hz0, hz1, hz2⟩ := info_parts int_info
  by_cases hk : chkP P = 0
  · have hg := (chk_good hk).1
    have h60 := hg.n60
    rw [hk] at KE ⊢
    have HG := hide hg
    by_cases hn : P.length = 0
    · obtain rfl : P = [] := List.eq_nil_of_length_eq_zero hn
      simp only [List.length_nil] at *
      go_enter Tryd.func18, Tryd.ntmps18
      go_wp2_with (go_at_call 9; refine KE.out.mono ?_; rintro e W1 ⟨u, rfl, hs, hf, b1⟩; have HB1 := hide b1; clear hs hf b1)
      go_ret2
      exact ⟨.slice none 0 0, rfl, fun _ => ⟨fun _ => rfl, fun h => absurd h (by simp)⟩, fun h => absurd rfl h, HB1.out⟩
    · have hni : ¬ (P.length : Int) = 0 := by omega
      have hnb : ((P.length : Int) == 0) = false := beq_eq_false_iff_ne.2 hni
      clear hg
      go_enter Tryd.func18, Tryd.ntmps18
      go_wp2_with (go_at_call 9; refine KE.out.mono ?_; rintro e W1 ⟨u, rfl, hs, hf, b1⟩; obtain ⟨q, rfl, hq, hsp⟩ := (by first | exact hs.1 rfl | exact hs.1 trivial : ∃ q, u = .slice (some ⟨q, 0, none⟩) P.length P.length ∧ w.heap.size ≤ q ∧ SpR q P.length (eS P) W1); have HF : Hid (Fit P) := (by first | exact hf rfl | exact hf trivial | exact hf); have HB1 := hide b1; have HS1 := hide hsp; clear hs hf b1 hsp)
      go_loopw [6, 7] (fun b j wr => ∃ m : Nat, m ≤ P.length ∧ j = .int .i64 m ∧ b = .int .i64 (laI (eS P) m : Nat) ∧ RowKit.Below W1.heap.size W1 wr) (fun _ j _ => P.length - (intOf j).toNat)
      case atStart => exact ⟨0, by omega, rfl, rfl, RowKit.Below.refl _ _⟩
      case round =>
        obtain ⟨m, hm, rfl, rfl, hB⟩ := hrel
        by_cases hlt : m < P.length
        · have hmi : (m : Int) < (P.length : Int) := by omega
          have hln : laI (eS P) m < P.length := by
            by_cases e : m = 0
            · subst e; simp [laI]; omega
            · have := laI_lt (eS P) m (by omega); omega
          have hlni : ((laI (eS P) m : Nat) : Int) < (P.length : Int) := by omega
          have hl0 : (0 : Int) ≤ ((laI (eS P) m : Nat) : Int) := by omega
          have y1 := ((HS1.out.step hB).at m hlt).2
          have z1 := ((HS1.out.step hB).at _ hln).2
          have hst : laI (eS P) (m + 1) = if (eS P (laI (eS P) m)).2 < (eS P m).2 then m else laI (eS P) m := rfl
          have HB := hide hB
          clear hB
          generalize laI (eS P) m = k at *
          by_cases hc : (eS P k).2 < (eS P m).2
          · rw [if_pos hc] at hst
            have d1 : decide ((eS P k).2 < (eS P m).2) = true := decide_eq_true hc
            generalize (eS P m).2 = b at *
            generalize (eS P k).2 = d at *
            go_wp2_with fail
            go_quiet (fail)
            go_wp2_with fail
            go_roundw
            case rel => exact ⟨m + 1, by omega, by go_num, by rw [hst], by repeat (first | exact HB.out | apply bdr)⟩
            case measure => simp [intOf]; omega
          · rw [if_neg hc] at hst
            have d1 : decide ((eS P k).2 < (eS P m).2) = false := decide_eq_false hc
            generalize (eS P m).2 = b at *
            generalize (eS P k).2 = d at *
            go_wp2_with fail
            go_quiet (fail)
            go_wp2_with fail
            go_roundw
            case rel => exact ⟨m + 1, by omega, by go_num, by rw [hst], by repeat (first | exact HB.out | apply bdr)⟩
            case measure => simp [intOf]; omega
        · obtain rfl : m = P.length := by omega
          have HS2 := hide (HS1.out.step hB)
          have HB2 := hide (HB1.out.trans (hB.mono HB1.out.size))
          have hlt0 := laI_lt (eS P) P.length (by omega)
          clear hB HS1
          generalize wr = W2 at *
          have hown0 : OwnN (W2.alloc (.cells #[.int .i64 ((laI (eS P) P.length : Nat) : Int)] 3)) W2.heap.size (.slice (some ⟨W2.heap.size, 0, none⟩) 1 1) ([] ++ [laI (eS P) P.length]).reverse :=
            ⟨rfl, .inr ⟨W2.heap.size, 1, #[.int .i64 ((laI (eS P) P.length : Nat) : Int)], rfl, Nat.le_refl _, World.alloc_heap_new W2 _, Nat.le_refl _, by unfold maxLen; omega, rfl, rfl⟩⟩
          have hidx0 : ([] ++ [laI (eS P) P.length] : List Nat).length + (ord P).idxOf (laI (eS P) P.length) ≤ P.length := by
            have := List.idxOf_lt_length_iff.2 (HF.out.t.full HF.out.l _ hlt0)
            have := HF.out.l
            simp; omega
          have HP0 : Hid (RtS W2 P (.slice (some ⟨W2.heap.size, 0, none⟩) 1 1) (W2.alloc (.cells #[.int .i64 ((laI (eS P) P.length : Nat) : Int)] 3)) [] (laI (eS P) P.length)) := ⟨hown0, .one, hlt0, hidx0, (RowKit.Below.refl _ W2).alloc (Nat.le_refl _) _⟩
          have hb2 := HB2.out.size
          clear hown0 hidx0 KE hlt0
          go_wp2_with fail
          go_loopw [6, 8] (fun t rv wr => ∃ (p : List Nat) (a : Nat), t = .int .i64 (a : Int) ∧ RtS W2 P rv wr p a) (fun t _ _ => (ord P).idxOf (intOf t).toNat)
          case atStart => exact ⟨[], _, rfl, HP0.out⟩
          case round =>
            clear HP0
            obtain ⟨p, a, rfl, hp⟩ := hrel
            have hal := hp.l
            have hai : (a : Int) < (P.length : Int) := by omega
            have ha0 : (0 : Int) ≤ (a : Int) := by omega
            have hpn := hp.n
            obtain ⟨g, o, lv, uv, rfl, y0, y1, y2, y3, hls, hus⟩ := HALL.out a hal
            obtain ⟨la, lc, rfl, hlx⟩ := hls
            have hbw : RowKit.Below w.heap.size w wr := HB2.out.trans (hp.b.mono hb2)
            have x1 := (hbw.cell (World.block_lt_of_cell? w _ y1)).trans y1
            have x2 := (hbw.cell (World.block_lt_of_cell? w _ y2)).trans y2
            have hsr := HS2.out.step hp.b
            have s0 := (hsr.at a hal).1
            have hgz : g < wr.heap.size := World.block_lt_of_cell? wr _ x1
            have hqz : q < wr.heap.size := World.block_lt_of_cell? wr _ s0
            have HLX := hide hlx
            have HPT := hide hp
            have HBW := hide hbw
            have HSR := hide hsr
            clear y0 y1 y2 y3 hlx hus hbw hsr hp
            obtain ⟨oq, oc, rfl, hoc⟩ := own_cells HPT.out.own (by simp)
            have HOC := hide hoc
            clear hoc
            generalize hrl0 : (p ++ [a]).reverse.length = rl at *
            have HRL := hide hrl0
            clear hrl0
            by_cases he : (eS P a).1 = (tk P a).nb
            · have HE := hide he
              rw [he] at s0
              generalize hnb' : (tk P a).nb = nb at *
              clear he
              go_wp2_with fail
              go_quiet (fail)
              go_wp2_with fail
              go_ret2
              have hbq := bdr (RowKit.Below.refl wr.heap.size wr) nq
              exact ⟨_, rfl, fun _ => ⟨fun h => absurd h hn, fun _ => ⟨W2.heap.size, p, a, hb2, own_bel HPT.out.own hbq, HPT.out.g, HE.out.trans hnb'.symm, by omega⟩⟩, fun h => absurd rfl h, HBW.out.trans (hbq.mono HBW.out.size)⟩
            · have HE := hide he
              have hw := earS_waits HF.out.t HF.out.l a hal he
              have HW := hide hw
              have hdne : (((eS P a).1 : Int) == (tk P a).nb) = false := beq_eq_false_iff_ne.2 he
              have hcn := (HG.out.cnt a hal).1
              have hfit := (HF.out.fits a hal)
              have HFIT := hide hfit.2.2
              have hsbd := HF.out.spbd a hal
              have hea0 : 0 ≤ (eS P a).1 := (earS_bd HG.out HF.out.t a).1
              have HSBD := hide (fun t ht => HF.out.spbd t ht)
              have hfl := hfit.1
              clear hw hfit
              generalize hea : (eS P a).1 = ea at *
              generalize hnbb : (tk P a).nb = nb at *
              go_wp2_with fail
              go_quiet (fail)
              go_wp2_with fail
              generalize wr = W4 at *
              generalize (ea != nb) = bb
              go_loopw [6, 62] (fun tv j wx => ∃ k : Nat, k ≤ (tk P a).links.length ∧ j = .int .i64 k ∧ tv = .int .i64 (a : Int) ∧ (∀ i, i < k → byL P a (eS P) (lk (tk P a).links i) ≠ ea) ∧ RowKit.Below W4.heap.size W4 wx) (fun _ j _ => (tk P a).links.length - (intOf j).toNat)
              case atStart => exact ⟨0, by omega, rfl, rfl, fun i hi => absurd hi (Nat.not_lt_zero _), by repeat (first | exact RowKit.Below.refl _ _ | apply bdr)⟩
              case round =>
                obtain ⟨k, hk2, rfl, rfl, hno, hBx⟩ := hrel
                by_cases hkl : k < (tk P a).links.length
                · have hki : (k : Int) < ((tk P a).links.length : Int) := by omega
                  obtain ⟨g1, o1, rfl, z0, z1, z2⟩ := HLX.out k hkl
                  have hbw := HBW.out.trans (hBx.mono HBW.out.size)
                  have l0 := (hbw.cell (World.block_lt_of_cell? w _ z0)).trans z0
                  have l1 := (hbw.cell (World.block_lt_of_cell? w _ z1)).trans z1
                  have l2 := (hbw.cell (World.block_lt_of_cell? w _ z2)).trans z2
                  have hxm := lk_mem _ k hkl
                  have hx := HG.out.link a hal _ hxm
                  have hgpb := HG.out.gp a hal _ hxm
                  have hfx := HFIT.out _ hxm
                  have hby : byL P a (eS P) (lk (tk P a).links k) = (eS P (lk (tk P a).links k).t.toNat).1 + gp P a (lk (tk P a).links k) := rfl
                  have hTg : byL P a (eS P) (lk (tk P a).links k) = ea → Tgt P a (lk (tk P a).links k).t.toNat := fun h => ⟨k, hkl, rfl, by rw [hea]; exact h, fun j hj => by rw [hea]; exact hno j hj⟩
                  have hsr := HSR.out.step hBx
                  have s0 := (hsr.at a hal).1
                  have s1 := (hsr.at a hal).2
                  rw [hea] at s0
                  rw [hfl] at s1
                  have hgp : gp P a (lk (tk P a).links k) = (lk (tk P a).links k).gap (tk P a).len (tk P (lk (tk P a).links k).t.toNat).len := rfl
                  have hlm := HG.out.len a hal
                  have hnx : byL P a (eS P) (lk (tk P a).links k) ≠ ea → ∀ i, i < k + 1 → byL P a (eS P) (lk (tk P a).links i) ≠ ea := fun h i hi => by
                    by_cases e : i = k
                    · subst e; exact h
                    · exact hno i (by omega)
                  have HNX := hide hnx
                  have HTG := hide hTg
                  have hqz : q < wr.heap.size := hsr.lt
                  have HSRX := hide hsr
                  have HBX := hide hBx
                  have HBWX := hide hbw
                  rw [hby] at hnx hTg
                  clear z0 z1 z2 hno hsr hbw hBx hnx hTg hxm
                  generalize lk (tk P a).links k = x at *
                  obtain ⟨xt, xk, xg⟩ := x
                  dsimp only at hx l0 l1 l2 hfx hby hgp
                  obtain ⟨t, rfl⟩ : ∃ t : Nat, xt = (t : Int) := ⟨xt.toNat, by omega⟩
                  rw [Int.toNat_natCast] at hfx hby hgp
                  have htn : t < P.length := by omega
                  have hti : (t : Int) < (P.length : Int) := by omega
                  have hlt2 := HG.out.len t htn
                  have hst := HSBD.out t htn
                  have hft := (HF.out.fits t htn).1
                  generalize (tk P a).len = lm at *
                  generalize (tk P t).len = lt at *
                  have e1 := wrap64_id (x := ea - 1) (by omega) (by omega)
                  have e2 := wrap64_id (x := ea + lm - 1) (by omega) (by omega)
                  have f1 := i64_id (x := ea - 1) (by omega) (by omega)
                  have f2 := i64_id (x := ea + lm - 1) (by omega) (by omega)
                  go_wp2_with fail
                  go_region
                  go_wp2_with fail
                  have hN1 := (RowKit.Below.refl _ wr).alloc (Nat.le_refl _) (.cells #[.int .i64 (t : Int), .int .i64 xk, .int .i64 xg] 47)
                  have hN := Below.drew (hN1.alloc (by simp) (.cells #[.int .i64 (ea - 1), .int .i64 (ea + lm - 1)] 37))
                  have hS : RlS w q P.length (eS P) wr.heap.size t xk xg (wr.heap.size + 1) (ea - 1) (ea + lm - 1) (((wr.alloc (.cells #[.int .i64 (t : Int), .int .i64 xk, .int .i64 xg] 47)).alloc (.cells #[.int .i64 (ea - 1), .int .i64 (ea + lm - 1)] 37)).drew) :=
                    ⟨by simp, by simp, by simp, by simp, by simp, HSRX.out.step hN, HBWX.out.trans (hN.mono HBWX.out.size)⟩
                  have HN := hide hN
                  clear hN hN1 l0 l1 l2 s0 s1
                  generalize (((wr.alloc (.cells #[.int .i64 (t : Int), .int .i64 xk, .int .i64 xg] 47)).alloc (.cells #[.int .i64 (ea - 1), .int .i64 (ea + lm - 1)] 37)).drew) = W5 at *
                  generalize hzz : wr.heap.size = zz at *
                  have HS0 := hide hS
                  replace hS := hS.step (Below.drew (RowKit.Below.refl _ _))
                  have KH := hide (fun W => rholds_any (t : Int) xk xg (ea - 1) (eS P t).1 lm lt W ⟨hx.2.2.1, hx.2.2.2.1⟩ ⟨hx.2.2.2.2.1, hx.2.2.2.2.2.1⟩ (by omega) (by omega) hlm hlt2)
                  rw [← hgp, show ea - 1 + lm = ea + lm - 1 by omega] at KH
                  generalize hc : (eS P t).1 = c1 at *
                  generalize hgg : gp P a ⟨(t : Int), xk, xg⟩ = gg at *
                  clear hgp
                  refine wp_region_noPanic ?_
                  refine wp_region_linGM (S := fun X => RlS w q P.length (eS P) zz t xk xg (zz + 1) (ea - 1) (ea + lm - 1) X) (R := fun _ => True) [] (by kernel_rfl) (by kernel_rfl) [(0, none, 0), (1, none, 0), (2, none, 1), (3, none, 1), (4, none, 0), (5, none, 1), (6, none, 0), (7, none, 2), (8, none, 1)] (by kernel_rfl) (by kernel_rfl) (fun _ _ _ _ _ h => h) (by exact trivial) (by exact hS) (fun ops' Q' hops hQ' => ?_)
                  refine wpLinG_read (o := { dst := some 79, op := Go.Op.load 47 (Go.Operand.tmp 10), type := 47, pos := "plan.go:203", after := #[], guard := none }) (v := ?vx0) (by rw [hops]; rfl) (by first | exact trivial | rfl) hS ?ex0 ?hx0
                  case ex0 => intro w' hw'; obtain ⟨l0, l1, l2, m0, m1, hsp, _⟩ := hw'; have t0 := (hsp.at t htn).1; have t1 := (hsp.at t htn).2; rw [hc] at t0; rw [hft] at t1; go_simp; (try rfl)
                  (try simp only [Act.put, List.setIfInBounds_toArray, List.set_cons_zero, List.set_cons_succ])
                  refine wpLinG_read (o := { dst := some 80, op := Go.Op.load 37 (Go.Operand.tmp 11), type := 37, pos := "plan.go:203", after := #[], guard := none }) (v := ?vx1) (by rw [hops]; rfl) (by first | exact trivial | rfl) hS ?ex1 ?hx1
                  case ex1 => intro w' hw'; obtain ⟨l0, l1, l2, m0, m1, hsp, _⟩ := hw'; have t0 := (hsp.at t htn).1; have t1 := (hsp.at t htn).2; rw [hc] at t0; rw [hft] at t1; go_simp; (try rfl)
                  (try simp only [Act.put, List.setIfInBounds_toArray, List.set_cons_zero, List.set_cons_succ])
                  refine wpLinG_pure (o := { dst := some 81, op := Go.Op.move (Go.Operand.tmp 4), type := 23, pos := "plan.go:203", after := #[], guard := none }) (v := ?vx2) (by rw [hops]; rfl) (by first | exact trivial | rfl) ?ex2 ?hx2
                  case ex2 => intro w'; go_simp; (try rfl)
                  (try simp only [Act.put, List.setIfInBounds_toArray, List.set_cons_zero, List.set_cons_succ])
                  refine wpLinG_pure (o := { dst := some 82, op := Go.Op.fieldAddr 47 (Go.Operand.tmp 10) 0, type := 0, pos := "plan.go:203", after := #[], guard := none }) (v := ?vx3) (by rw [hops]; rfl) (by first | exact trivial | rfl) ?ex3 ?hx3
                  case ex3 => intro w'; go_simp; (try rfl)
                  (try simp only [Act.put, List.setIfInBounds_toArray, List.set_cons_zero, List.set_cons_succ])
                  refine wpLinG_read (o := { dst := some 83, op := Go.Op.load 3 (Go.Operand.tmp 82), type := 3, pos := "plan.go:203", after := #[{ on := 3, ground := Go.Ground.data }], guard := none }) (v := ?vx4) (by rw [hops]; rfl) (by first | exact trivial | rfl) hS ?ex4 ?hx4
                  case ex4 => intro w' hw'; obtain ⟨l0, l1, l2, m0, m1, hsp, _⟩ := hw'; have t0 := (hsp.at t htn).1; have t1 := (hsp.at t htn).2; rw [hc] at t0; rw [hft] at t1; go_simp; (try rfl)
                  (try simp only [Act.put, List.setIfInBounds_toArray, List.set_cons_zero, List.set_cons_succ])
                  refine wpLinG_pure (o := { dst := some 84, op := Go.Op.indexAddr 23 (Go.Operand.tmp 81) (Go.Operand.tmp 83), type := 0, pos := "plan.go:203", after := #[{ on := 2, ground := Go.Ground.data }, { on := 4, ground := Go.Ground.data }], guard := none }) (v := ?vx5) (by rw [hops]; rfl) (by first | exact trivial | rfl) ?ex5 ?hx5
                  case ex5 => intro w'; go_simp; (try rfl)
                  (try simp only [Act.put, List.setIfInBounds_toArray, List.set_cons_zero, List.set_cons_succ])
                  refine wpLinG_read (o := { dst := some 85, op := Go.Op.load 37 (Go.Operand.tmp 84), type := 37, pos := "plan.go:203", after := #[{ on := 5, ground := Go.Ground.data }], guard := none }) (v := ?vx6) (by rw [hops]; rfl) (by first | exact trivial | rfl) hS ?ex6 ?hx6
                  case ex6 => intro w' hw'; obtain ⟨l0, l1, l2, m0, m1, hsp, _⟩ := hw'; have t0 := (hsp.at t htn).1; have t1 := (hsp.at t htn).2; rw [hc] at t0; rw [hft] at t1; go_simp; (try rfl)
                  (try simp only [Act.put, List.setIfInBounds_toArray, List.set_cons_zero, List.set_cons_succ])
                  refine wpLinG_do (o := { dst := some 86, op := Go.Op.call { callee := Go.Callee.value (Go.Operand.func 33), args := #[Go.Operand.tmp 79, Go.Operand.tmp 80, Go.Operand.tmp 85], argTypes := #[47, 37, 37] }, type := 4, pos := "plan.go:203", after := #[{ on := 0, ground := Go.Ground.data }, { on := 1, ground := Go.Ground.data }, { on := 6, ground := Go.Ground.data }], guard := none }) (by rw [hops]; rfl) (by first | exact trivial | rfl) (fun K hK => ?_)
                  go_simp
                  refine (KH.out _).mono ?_
                  rintro e X ⟨rfl, hb⟩
                  have hW5X := (Below.drew (RowKit.Below.refl W5.heap.size W5)).trans hb
                  replace hS := hS.step hb
                  clear hb
                  refine hK _ _ trivial hS ?_
                  clear hK K
                  (try simp only [Act.put, List.setIfInBounds_toArray, List.set_cons_zero, List.set_cons_succ])
                  refine wpLinG_pure (o := { dst := some 87, op := Go.Op.unOp Go.UnOp.not 4 (Go.Operand.tmp 86), type := 4, pos := "plan.go:203", after := #[{ on := 7, ground := Go.Ground.data }], guard := none }) (v := ?vx8) (by rw [hops]; rfl) (by first | exact trivial | rfl) ?ex8 ?hx8
                  case ex8 => intro w'; go_simp; (try rfl)
                  (try simp only [Act.put, List.setIfInBounds_toArray, List.set_cons_zero, List.set_cons_succ])
                  subst hQ'
                  refine NoPanic.normal ?_
                  clear hops
                  have l0 := hS.l0
                  have hzX : zz < X.heap.size := World.block_lt_of_cell? X _ l0
                  have hBX := (HBX.out.trans (HN.out.mono (by have := HBX.out.size; omega))).trans (hW5X.mono (by have := HBX.out.size; have := HN.out.size; omega))
                  have HBX2 := hide hBX
                  clear hBX hS hW5X
                  clear KH
                  generalize hdd : decide (c1 + gg ≤ ea - 1) = dd at *
                  cases dd with
                  | true =>
                    have hh := of_decide_eq_true hdd
                    clear hdd
                    have hne := HNX.out (by rw [hby]; omega)
                    have HNE := hide hne
                    clear hne hby
                    go_wp2_with fail
                    go_roundw
                    case rel => exact ⟨k + 1, by omega, by go_num, rfl, HNE.out, HBX2.out⟩
                    case measure => simp [intOf]; omega
                  | false =>
                    have hh := of_decide_eq_false hdd
                    clear hdd
                    have hT := HTG.out (by rw [hby]; omega)
                    rw [Int.toNat_natCast] at hT
                    have hlt := hT.lt HF.out hal
                    have hgp2 := Gop.step p a _ HPT.out.g (by rw [hea, hnbb]; exact HE.out) hT
                    have hXz := HBX2.out.size
                    have hz0' := HPT.out.b.size
                    have hownT : (X.alloc (.cells #[.int .i64 (t : Int)] 3)).ownsRow W2.heap.size 3 1 (.slice (some ⟨X.heap.size, 0, none⟩) 1 1) 1 [.int .i64 (t : Int)] :=
                      ⟨rfl, .inr ⟨X.heap.size, 1, #[.int .i64 (t : Int)], rfl, by omega, World.alloc_heap_new X _, Nat.le_refl _, by unfold maxLen; omega, rfl, rfl⟩⟩
                    have hBa := HBX2.out.alloc hXz (.cells #[.int .i64 (t : Int)] 3)
                    have hnews : ∀ j u, (nV (p ++ [a]).reverse)[j]? = some u → (X.alloc (.cells #[.int .i64 (t : Int)] 3)).cell? ((⟨oq, 0, none⟩ : Addr).add j) = some u := fun j u hu => (hBa.cell (World.block_lt_of_cell? W4 _ (HOC.out j u hu))).trans (HOC.out j u hu)
                    have hone : ∀ u ∈ nV (p ++ [a]).reverse, u.oneCell' = true := fun u hu => by rw [nV_int] at hu; exact ints_oneCell .i64 _ u hu
                    have hrl : rl ≤ 60 := by rw [← HRL.out, List.length_reverse]; omega
                    have hrn := nV_len (p ++ [a]).reverse
                    have HGP := hide (And.intro hgp2 (And.intro hlt hpn))
                    have HBA := hide hBa
                    clear hgp2 hlt hBa hby hT
                    have hrev : (p ++ [a] ++ [t]).reverse = t :: (p ++ [a]).reverse := by simp
                    generalize (p ++ [a]).reverse = r at *
                    go_wp2_with (at_builtin; refine wpList_append_own _ rfl _ _ 31 rfl W2.heap.size 3 i0 (.int .i64 0) 1 8 Tryd.underlying31 hi hz0 hz1 hz2 rfl (by decide) _ _ _ rfl hownT ⟨oq, 0, none⟩ rl oc (nV r) rfl (by rw [hrn, HRL.out, Nat.mul_one]) hnews hone (by unfold maxLen; omega) (by omega) (by simp; omega) ?_; intro v' w1 hown1 hgrow1 hnil1)
                    have hll : ∀ b : Nat, (p ++ [a] ++ [b]).length = (p ++ [a]).length + 1 := fun b => by rw [List.length_append]; rfl
                    refine ⟨⟨p ++ [a], t, rfl, ⟨?_, HGP.out.1, HGP.out.2.1.1, ?_, ((HPT.out.b.trans (HBA.out.mono hz0')).grown hgrow1 (by simp; omega) (fun j hj => (hownT.lt j hj).1))⟩⟩, ?_⟩
                    · unfold OwnN
                      rw [hrev, List.length_cons, HRL.out, Nat.add_comm]
                      exact hown1
                    · rw [hll]; have := HGP.out.2.1.2; have := HGP.out.2.2; omega
                    · show (ord P).idxOf ((t : Int)).toNat < (ord P).idxOf ((a : Int)).toNat
                      rw [Int.toNat_natCast, Int.toNat_natCast]; exact HGP.out.2.1.2
                · obtain rfl : k = (tk P a).links.length := by omega
                  obtain ⟨x, hx, hbx⟩ := HW.out
                  obtain ⟨j, hj, rfl⟩ := List.getElem_of_mem hx
                  have := hno j hj
                  rw [lk_at _ j hj] at this
                  first | exact absurd hbx this | exact absurd (hbx.trans hea) this
  · have HK := hide hk
    generalize chkP P = c at *
    have hkb : ((c : Int) == 0) = false := beq_eq_false_iff_ne.2 HK.out
    go_enter Tryd.func18, Tryd.ntmps18
    go_wp2_with (go_at_call 9; refine KE.out.mono ?_; rintro e W1 ⟨u, rfl, hs, hf, b1⟩; obtain rfl := hs.2 HK.out; have HB1 := hide b1; clear hs hf b1)
    go_ret2
    exact ⟨.slice none 0 0, rfl, fun h => absurd h HK.out, fun _ => rfl, HB1.out⟩
end Go.Proofs.YtjmjabdokckdlaaDoor
