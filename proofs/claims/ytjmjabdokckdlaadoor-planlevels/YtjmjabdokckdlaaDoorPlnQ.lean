/- plan: Path. -/
import Derived.Test.YtjmjabdokckdlaaDoorPlnO
import Derived.Test.YtjmjabdokckdlaaDoorSh
import Derived.Sort.OwnSortedInts
namespace Go.Proofs.YtjmjabdokckdlaaDoor
open Go.RowKit Go.Shelf Go.Sort
set_option linter.unusedVariables false
set_option linter.unusedSimpArgs false

theorem nV_int (p : List Nat) : nV p = (p.map fun (i : Nat) => (i : Int)).map (Value.int .i64) := by unfold nV; rw [List.map_map]; rfl
/-- numbers of one's own, turned round -/
theorem rev_own (b : Nat) (v : Value) (p : List Nat) (w : World) (hown : OwnN w b v p) (hlen : p.length ≤ 1000000) (hb : b ≤ w.heap.size) :
    Calls Tryd.prog 46 #[v] w fun e w' => e = .returned (.tuple #[]) ∧ OwnN w' b v p.reverse ∧ Below b w w' := by
  have hown' := hown
  unfold OwnN at hown
  rw [nV_int] at hown
  obtain ⟨zs, hzs⟩ : ∃ zs, (p.map fun (i : Nat) => (i : Int)) = zs := ⟨_, rfl⟩
  rw [hzs] at hown
  have hzl : zs.length = p.length := by rw [← hzs, List.length_map]
  have hrev : nV p.reverse = zs.reverse.map (Value.int .i64) := by rw [nV_int, ← hzs, List.map_reverse]
  rcases hown.2 with ⟨rfl, hn⟩ | ⟨g, cap, cur, rfl, hbg, hg, hnc, hcm, hcs, htake⟩
  · have h0 : p = [] := List.eq_nil_of_length_eq_zero hn
    subst h0
    exact (Tryd.slices_Reverse_int_empty none 0 w).mono fun e w' ⟨he, hw⟩ => ⟨he, by subst hw; exact hown', by subst hw; exact Below.refl _ _⟩
  · have hH : Holds (Value.int .i64) w g 0 zs.toArray := holds_of_blockI hg (by rw [hzl]; simpa using htake)
    have hk := Tryd.slices_Reverse_int g 0 cap zs w hH (by omega)
    rw [hzl] at hk
    refine hk.mono ?_
    rintro e w' ⟨he, n, rfl⟩
    have eg : putRow (Value.int .i64) (Sort.ahead w n) g 0 zs.reverse.toArray = grow (putRow (Value.int .i64) (Sort.ahead w n) g 0 zs.reverse.toArray) #[] := (grow_empty _).symm
    rw [eg]
    refine ⟨he, ?_, ?_⟩
    · have := ownsRow_sortedI (w := w) (n := n) (os := #[]) (ss := zs) (ts := zs.reverse) (List.length_reverse) hbg hg (by omega) hcm hcs
      unfold OwnN
      rw [hrev, List.length_reverse, ← hzl]
      exact this
    · have hgb := grownBy_sortedI (w := w) (g := g) (n := n) (os := #[]) zs.reverse.toArray
      exact (Below.refl b w).grown hgb hb fun j hj => by cases hj; exact hbg
/-- a waits for b, by its k-th link, the first that lets it begin no sooner -/
def Tgt (P : List Tk) (a : Nat) (b : Nat) : Prop := ∃ k, k < (tk P a).links.length ∧ b = (lk (tk P a).links k).t.toNat ∧ byL P a (eS P) (lk (tk P a).links k) = (eS P a).1 ∧ ∀ j, j < k → byL P a (eS P) (lk (tk P a).links j) ≠ (eS P a).1
/-- the row of tasks that wait, from the last one on -/
inductive Gop (P : List Tk) : List Nat → Prop
  | one : Gop P [laI (eS P) P.length]
  | step (p : List Nat) (a b : Nat) (h : Gop P (p ++ [a])) (hn : (eS P a).1 ≠ (tk P a).nb) (ht : Tgt P a b) : Gop P (p ++ [a] ++ [b])
theorem Tgt.lt {P : List Tk} (hP : Fit P) {a b : Nat} (ha : a < P.length) (h : Tgt P a b) : b < P.length ∧ (ord P).idxOf b < (ord P).idxOf a := by
  obtain ⟨k, hk, rfl, _⟩ := h
  have hm := lk_mem _ k hk
  have hl := hP.g.link a ha _ hm
  exact ⟨by omega, hP.t.pos a (hP.t.full hP.l a ha) _ hm⟩
/-- what the walk of Path keeps -/
structure PtS (X0 : World) (P : List Tk) (v : Value) (X : World) (p : List Nat) (a : Nat) : Prop where
  own : OwnN X X0.heap.size v (p ++ [a])
  g : Gop P (p ++ [a])
  l : a < P.length
  n : (p ++ [a]).length + (ord P).idxOf a ≤ P.length
  b : RowKit.Below X0.heap.size X0 X
/-- a path that is told -/
def PaV (w w' : World) (P : List Tk) (v : Value) : Prop := (P.length = 0 → v = .slice none 0 0) ∧ (0 < P.length → ∃ b p a, w.heap.size ≤ b ∧ OwnN w' b v (p ++ [a]).reverse ∧ Gop P (p ++ [a]) ∧ (eS P a).1 = (tk P a).nb ∧ (p ++ [a]).length ≤ P.length)
theorem PaV.step {w w' w'' : World} {P : List Tk} {v : Value} (h : PaV w w' P v) (hb : Below w'.heap.size w' w'') : PaV w w'' P v :=
  ⟨h.1, fun hn => let ⟨b, p, a, h1, h2, h3, h4, h5⟩ := h.2 hn; ⟨b, p, a, h1, own_bel h2 hb, h3, h4, h5⟩⟩
set_option maxRecDepth 100000 in
set_option maxHeartbeats 2000000 in
theorem Path_any (P : List Tk) (v : Value) (w : World) (hv : TsAt w v P) :
    Calls Tryd.prog 35 #[v] w fun e w' => ∃ u, e = .returned (.tuple #[u, eP (chkP P)]) ∧ (chkP P = 0 → PaV w w' P u) ∧ RowKit.Below w.heap.size w w' := by
  have KE := hide (Early_any P v w hv)
  have hv' := hv
  obtain ⟨ad, cap, rfl, hall⟩ := hv
  obtain ⟨i0, hi, hz0, hz1, hz2⟩ := info_parts int_info
  by_cases hk : chkP P = 0
  · have hg := (chk_good hk).1
    have h60 := hg.n60
    rw [hk] at KE ⊢
    have e0 : eP 0 = .nilIface := rfl
    rw [e0] at KE ⊢
    by_cases hn : P.length = 0
    · obtain rfl : P = [] := List.eq_nil_of_length_eq_zero hn
      clear hall hv' hn hg h60 hk
      simp only [List.length_nil] at KE ⊢
      go_enter Tryd.func35, Tryd.ntmps35
      go_wp2_with (go_at_call 27; refine KE.out.mono ?_; rintro e W1 ⟨u, rfl, hs, hf, b1⟩; obtain ⟨q, rfl, hq, hsp⟩ := hs.1 rfl)
      go_ret2
      exact ⟨.slice none 0 0, rfl, fun _ => ⟨fun _ => rfl, fun h => absurd h (by simp)⟩, b1⟩
    · have hni : ¬ (P.length : Int) = 0 := by omega
      have HV := hide hv'
      have HALL := hide hall
      have KL := hide (fun q c W (hs : SpR q P.length (eS P) W) => lastOf_any P.length (eS P) q c W (by omega) (by omega) hs.at)
      clear hall hv'
      go_enter Tryd.func35, Tryd.ntmps35
      go_wp2_with (first
        | (go_at_call 27; refine KE.out.mono ?_; rintro e W1 ⟨u, rfl, hs, hf, b1⟩; obtain ⟨q, rfl, hq, hsp⟩ := hs.1 rfl; have HB1 := hide b1; have HS1 := hide hsp; have HF := hide (hf rfl); clear hs hf b1 hsp)
        | (go_at_call 44; refine (KL.out _ _ _ HS1.out).mono ?_; rintro e W2 ⟨rfl, b2⟩; have HB2 := hide (HB1.out.trans (b2.mono HB1.out.size)); have HS2 := hide (HS1.out.step b2); clear b2))
      have hWf := HF.out
      have hqz := HS2.out.lt
      have hlt0 := laI_lt (eS P) P.length (by omega)
      have hb2 := HB2.out.size
      have KW := hide (fun (i : Nat) (hi : i < P.length) W (hb : RowKit.Below w.heap.size w W) (hs : SpR q P.length (eS P) W) (hn : (eS P i).1 ≠ (tk P i).nb) => waitsFor_any hg i hi (eS P) HF.out.spbd _ q P.length W (HV.out.below hb) hs.at (earS_waits HF.out.t HF.out.l i hi hn))
      have hown0 : OwnN (W2.alloc (.cells #[.int .i64 ((laI (eS P) P.length : Nat) : Int)] 3)) W2.heap.size (.slice (some ⟨W2.heap.size, 0, none⟩) 1 1) ([] ++ [laI (eS P) P.length]) :=
        ⟨rfl, .inr ⟨W2.heap.size, 1, #[.int .i64 ((laI (eS P) P.length : Nat) : Int)], rfl, Nat.le_refl _, World.alloc_heap_new W2 _, Nat.le_refl _, by unfold maxLen; omega, rfl, rfl⟩⟩
      have hidx0 : ([] ++ [laI (eS P) P.length] : List Nat).length + (ord P).idxOf (laI (eS P) P.length) ≤ P.length := by
        have := List.idxOf_lt_length_iff.2 (HF.out.t.full HF.out.l _ hlt0)
        have := HF.out.l
        simp; omega
      have HP0 : Hid (PtS W2 P (.slice (some ⟨W2.heap.size, 0, none⟩) 1 1) (W2.alloc (.cells #[.int .i64 ((laI (eS P) P.length : Nat) : Int)] 3)) [] (laI (eS P) P.length)) := ⟨hown0, .one, hlt0, hidx0, (RowKit.Below.refl _ W2).alloc (Nat.le_refl _) _⟩
      clear hWf hown0 hidx0 KE KL HS1 HB1 hlt0
      go_loopw [6, 7] (fun t rv wr => ∃ (p : List Nat) (a : Nat), t = .int .i64 (a : Int) ∧ PtS W2 P rv wr p a) (fun t _ _ => (ord P).idxOf (intOf t).toNat)
      case atStart => exact ⟨[], _, rfl, HP0.out⟩
      case round =>
        clear HP0
        obtain ⟨p, a, rfl, hp⟩ := hrel
        have hal := hp.l
        have hai : (a : Int) < (P.length : Int) := by omega
        have hpn := hp.n
        obtain ⟨g, o, lv, uv, rfl, y0, y1, y2, y3, hls, hus⟩ := HALL.out a hal
        have hbw : RowKit.Below w.heap.size w wr := HB2.out.trans (hp.b.mono hb2)
        have x1 := (hbw.cell (World.block_lt_of_cell? w _ y1)).trans y1
        have hsr := HS2.out.step hp.b
        have s0 := (hsr.at a hal).1
        have hz := hp.b.size
        have HPT := hide hp
        have HBW := hide hbw
        have HSR := hide hsr
        clear y0 y1 y2 y3 hls hus hbw hsr hp
        by_cases he : (eS P a).1 = (tk P a).nb
        · have KR := hide (fun v X (hb : W2.heap.size ≤ X.heap.size) (ho : OwnN X W2.heap.size v (p ++ [a])) => rev_own W2.heap.size v (p ++ [a]) X ho (by omega) hb)
          have HE := hide he
          have d1 : decide ((eS P a).1 = (tk P a).nb) = true := decide_eq_true he
          rw [he] at s0
          generalize hnb' : (tk P a).nb = nb at *
          clear he d1
          go_wp2_with fail
          go_quiet (fail)
          have hbq := bdr (RowKit.Below.refl wr.heap.size wr) nq
          have KRX := hide (KR.out _ (wr.drewN nq) (by have := hbq.size; omega) (own_bel HPT.out.own hbq))
          have HBq := hide hbq
          clear hbq
          go_wp2_with (go_at_call 46; refine KRX.out.mono ?_; rintro e X ⟨rfl, ho, hx⟩)
          go_ret2
          have hb1 : RowKit.Below W2.heap.size W2 X := (HPT.out.b.trans (HBq.out.mono hz)).trans hx
          exact ⟨_, rfl, fun _ => ⟨fun h => absurd h hn, fun _ => ⟨W2.heap.size, p, a, hb2, ho, HPT.out.g, HE.out.trans hnb'.symm, by omega⟩⟩, HB2.out.trans (hb1.mono hb2)⟩
        · have KX := hide (fun W (hb : RowKit.Below wr.heap.size wr W) => KW.out a hal W (HBW.out.trans (hb.mono HBW.out.size)) (HSR.out.step hb) he)
          have HE := hide he
          clear KW
          generalize hea : (eS P a).1 = ea at *
          generalize hnb : (tk P a).nb = nb at *
          go_wp2_with fail
          go_quiet (fail)
          go_wp2_with (first
            | (go_at_call 45; refine (KX.out _ (bdr (RowKit.Below.refl _ wr) nq)).mono ?_; rintro e X ⟨k, hk2, rfl, hby, hno, hx⟩; have hx' : RowKit.Below wr.heap.size wr X := (bdr (RowKit.Below.refl _ wr) nq).trans (hx.mono (Nat.le_refl _)); have hownX := own_bel HPT.out.own hx')
            | (at_builtin; refine wpList_append_own _ rfl _ _ 31 rfl W2.heap.size 3 i0 (.int .i64 0) 1 8 Tryd.underlying31 hi hz0 hz1 hz2 rfl (by decide) _ _ _ rfl (hownX.alloc _) ⟨X.heap.size, 0, none⟩ 1 1 [.int .i64 (lk (tk P a).links k).t] rfl rfl (cell_one_new _ _ _) (ints_oneCell .i64 [(lk (tk P a).links k).t]) (by unfold maxLen; omega) (by omega) (by have := hx'.size; simp; omega) ?_; intro v' w1 hown1 hgrow1 hnil1))
          have hT : Tgt P a (lk (tk P a).links k).t.toNat := ⟨k, hk2, rfl, by rw [hea]; exact hby, by rw [hea]; exact hno⟩
          have hlt := hT.lt HF.out hal
          have hlk := hg.link a hal _ (lk_mem _ k hk2)
          have ht : (lk (tk P a).links k).t = (((lk (tk P a).links k).t.toNat : Nat) : Int) := by omega
          have hr1 := hownX.alloc (.cells #[.int .i64 (lk (tk P a).links k).t] 3)
          have hgp := Gop.step p a _ HPT.out.g (by rw [hea, hnb]; exact HE.out) hT
          have hBx : RowKit.Below W2.heap.size W2 X := HPT.out.b.trans (hx'.mono hz)
          have hzx := hBx.size
          have hll : ∀ b : Nat, (p ++ [a] ++ [b]).length = (p ++ [a]).length + 1 := fun b => by rw [List.length_append]; rfl
          refine ⟨⟨p ++ [a], _, by rw [← ht], ⟨?_, hgp, hlt.1, ?_, (hBx.alloc hzx _).grown hgrow1 (by simp; omega) (fun j hj => (hr1.lt j hj).1)⟩⟩, ?_⟩
          · unfold OwnN
            rw [nV_snoc, hll, ← ht]
            exact hown1
          · rw [hll]; omega
          · show (ord P).idxOf (lk (tk P a).links k).t.toNat < (ord P).idxOf ((a : Int)).toNat
            rw [Int.toNat_natCast]; exact hlt.2
  · clear hall hv'
    rw [eP_ne hk] at KE ⊢
    go_enter Tryd.func35, Tryd.ntmps35
    go_wp2_with (go_at_call 27; refine KE.out.mono ?_; rintro e W1 ⟨u, rfl, hs, hf, b1⟩; obtain rfl := hs.2 hk)
    go_ret2
    exact ⟨.slice none 0 0, rfl, fun h => absurd h hk, b1⟩
end Go.Proofs.YtjmjabdokckdlaaDoor
