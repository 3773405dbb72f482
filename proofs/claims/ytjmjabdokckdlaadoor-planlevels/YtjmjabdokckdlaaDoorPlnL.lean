/- plan: Level. (Written by gen/plnl.py.) -/
import Derived.Test.YtjmjabdokckdlaaDoorPlnP
import Derived.Test.YtjmjabdokckdlaaDoorPlnH
namespace Go.Proofs.YtjmjabdokckdlaaDoor
open Go.RowKit Go.Shelf
set_option linter.unusedVariables false
set_option linter.unusedSimpArgs false

theorem lvneg_any (n : Int) (w : World) : Calls Tryd.prog 50 #[.int .i64 n] w fun e w' => e = .returned (.bool (decide (n < 0))) ∧ w' = w := by
  go_enter Tryd.func50, Tryd.ntmps50
  go_wp2
  go_ret
  exact ⟨rfl, rfl⟩
def hasNeg (H : List Int) : Bool := H.any fun n => decide (n < 0)
theorem neg_take (H : List Int) (m : Nat) (h : m < H.length) : hasNeg (H.take (m + 1)) = (hasNeg (H.take m) || decide (H.getD m 0 < 0)) := by
  unfold hasNeg
  rw [List.take_succ_eq_append_getElem h, List.any_append, List.getD_eq_getElem?_getD, List.getElem?_eq_getElem h]
  simp
theorem neg_yes {H : List Int} {m : Nat} (h : hasNeg (H.take m) = true) : hasNeg H = true := by
  unfold hasNeg at h ⊢
  obtain ⟨x, hx, h⟩ := List.any_eq_true.1 h
  exact List.any_eq_true.2 ⟨x, List.mem_of_mem_take hx, h⟩
theorem negIdx_any (H : List Int) (hH : H.length ≤ 1000000) (v : Value) (w : World) (hv : NsAt w v H) :
    Calls Tryd.prog 68 #[v, .func (.func 50) #[] #[]] w fun e w' => ∃ r : Int, e = .returned (.int .i64 r) ∧ decide (0 ≤ r) = hasNeg H ∧ Below w.heap.size w w' := by
  obtain ⟨ad, c, rfl, hall⟩ := hv
  have HALL := hide hall
  clear hall
  go_enter Tryd.func68, Tryd.ntmps68
  go_wp2_with fail
  go_loopw [8] (fun j wr => ∃ m : Nat, m ≤ H.length ∧ j = .int .i64 m ∧ hasNeg (H.take m) = false ∧ Below w.heap.size w wr) (fun j _ => H.length - (intOf j).toNat)
  case atStart => exact ⟨0, by omega, rfl, rfl, Below.refl _ _⟩
  case round =>
    obtain ⟨m, hm, rfl, hno, hB⟩ := hrel
    by_cases hlt : m < H.length
    · have hmi : (m : Int) < (H.length : Int) := by omega
      obtain ⟨g, o, rfl, y0⟩ := HALL.out m hlt
      have x0 := (hB.cell (World.block_lt_of_cell? w _ y0)).trans y0
      have hn := neg_take H m hlt
      rw [hno, Bool.false_or] at hn
      have KX := hide (lvneg_any (H.getD m 0) wr)
      have HB := hide hB
      have hyes := neg_yes (H := H) (m := m + 1)
      clear y0 hB
      generalize H.getD m 0 = x at *
      by_cases hx : x < 0
      · rw [decide_eq_true hx] at hn KX
        go_wp2_with (go_at_call 50; refine KX.out.mono ?_; rintro e X ⟨rfl, rfl⟩)
        go_ret
        exact ⟨_, rfl, by rw [hyes hn]; simp, HB.out⟩
      · rw [decide_eq_false hx] at hn KX
        go_wp2_with (go_at_call 50; refine KX.out.mono ?_; rintro e X ⟨rfl, rfl⟩)
        go_roundw
        case rel => exact ⟨m + 1, by omega, by go_num, hn, HB.out⟩
        case measure => simp [intOf]; omega
    · obtain rfl : m = H.length := by omega
      rw [List.take_length] at hno
      have HB := hide hB
      clear hB
      go_wp2_with fail
      go_ret
      exact ⟨_, rfl, by rw [hno]; rfl, HB.out⟩
theorem negHas_any (H : List Int) (hH : H.length ≤ 1000000) (v : Value) (w : World) (hv : NsAt w v H) :
    Calls Tryd.prog 49 #[v, .func (.func 50) #[] #[]] w fun e w' => e = .returned (.bool (hasNeg H)) ∧ Below w.heap.size w w' := by
  have K := hide (negIdx_any H hH v w hv)
  obtain ⟨ad, c, rfl, _⟩ := hv
  go_enter Tryd.func49, Tryd.ntmps49
  go_wp2_with (go_at_call 68; refine K.out.mono ?_; rintro e X ⟨r, rfl, hr, hx⟩)
  go_ret
  exact ⟨ret_bool (by rw [← hr]), hx⟩
/-- no task uses more than there is, of the first m -/
def NoClash (P : List Tk) (H : List Int) (m : Nat) : Prop := ∀ i, i < m → ∀ r, r < (tk P i).uses.length → (tk P i).uses.getD r 0 ≤ amt H r
open Classical in
/-- what Level tells -/
noncomputable def lvE (P : List Tk) (H : List Int) : Int := if chkP P = 0 then (if 8 < H.length ∨ hasNeg H = true then 1 else if NoClash P H P.length then 0 else 17) else chkP P
noncomputable def lvS (P : List Tk) (H : List Int) : Sp := (lvN P H (lS P (eN P)) P.length).1
/-- places that have just been made -/
theorem plc_made {w W : World} {P : List Tk} {tv hv : Value} {b q z : Nat} (h0 : W.cell? ⟨b, 0, none⟩ = some tv) (h1 : W.cell? ⟨b, 1, none⟩ = some hv) (h2 : W.cell? ⟨b, 2, none⟩ = some (.slice (some ⟨q, 0, none⟩) P.length P.length)) (h3 : W.cell? ⟨b, 3, none⟩ = some (.slice (some ⟨z, 0, none⟩) P.length P.length))
    (hq : W.heap[q]? = some (.cells (madeCells (Value.cells (.agg #[.int .i64 0, .int .i64 0])) (P.length * 2)) 37 (0, 0))) (hz : W.heap[z]? = some (.cells (madeCells (Value.cells (.bool false)) (P.length * 1)) 4 (0, 0))) (hb : Below w.heap.size w W) : PlcR w b P (fun _ => (0, 0)) (fun _ => false) tv hv q z W := by
  refine ⟨h0, h1, h2, h3, ⟨_, hq, fun t ht => ?_⟩, ⟨_, hz, fun t ht => ?_⟩, hb⟩
  · have hc : ∀ a, a < P.length * 2 → (madeCells (Value.cells (.agg #[.int .i64 0, .int .i64 0])) (P.length * 2))[a]? = some (.int .i64 0) := fun a ha => by
      unfold madeCells
      rw [Array.getElem?_map, Array.getElem?_range, if_pos (by omega)]
      rcases Nat.mod_two_eq_zero_or_one a with e | e <;> simp [Value.cells, e]
    exact ⟨hc _ (by omega), hc _ (by omega)⟩
  · unfold madeCells
    rw [Array.getElem?_map, Array.getElem?_range, if_pos (by omega)]
    simp [Value.cells, Nat.mod_one]
theorem made3 (X : World) (a b c : Obj) : (((X.alloc a).alloc b).alloc c).drew.heap[X.heap.size]? = some a ∧ (((X.alloc a).alloc b).alloc c).drew.heap[X.heap.size + 1]? = some b ∧ (((X.alloc a).alloc b).alloc c).drew.heap[X.heap.size + 1 + 1]? = some c ∧ Below X.heap.size X (((X.alloc a).alloc b).alloc c).drew := by
  have e1 : (X.alloc a).heap.size = X.heap.size + 1 := World.size_alloc ..
  have e2 : ((X.alloc a).alloc b).heap.size = X.heap.size + 1 + 1 := by rw [World.size_alloc, e1]
  have h3 := (Below.refl (((X.alloc a).alloc b).alloc c).heap.size (((X.alloc a).alloc b).alloc c)).drew
  have h2 := ((Below.refl ((X.alloc a).alloc b).heap.size ((X.alloc a).alloc b)).alloc (Nat.le_refl _) c).drew
  have h1 := (((Below.refl (X.alloc a).heap.size (X.alloc a)).alloc (Nat.le_refl _) b).alloc (by simp) c).drew
  refine ⟨(h1.block _ (by omega)).trans (World.alloc_heap_new X a), ?_, ?_, Below.drew ((((Below.refl _ X).alloc (Nat.le_refl _) a).alloc (by simp) b).alloc (by simp; omega) c)⟩
  · have := World.alloc_heap_new (X.alloc a) b
    rw [e1] at this
    exact (h2.block _ (by omega)).trans this
  · have := World.alloc_heap_new ((X.alloc a).alloc b) c
    rw [e2] at this
    exact (h3.block _ (by rw [World.size_alloc]; omega)).trans this
theorem SpR.kq2 {ql n : Nat} {s : Sp} {q z : Nat} {X Y : World} (h : SpR ql n s X) (k : KQ2 q z X Y) (h1 : ql ≠ q) (h2 : ql ≠ z) : SpR ql n s Y := by
  have hl := h.lt
  obtain ⟨cur, e, h⟩ := h
  exact ⟨cur, (k.kk ql hl h1 h2).trans e, h⟩
/-- what has been made, in whatever order -/
theorem plc_fin {w W5 W : World} {P : List Tk} {tv hv : Value} (b q z : Nat) (h5 : Below w.heap.size w W5) (hb : Below W5.heap.size W5 W) (h0 : W.heap[b]? = some (.cells #[tv, hv, .slice (some ⟨q, 0, none⟩) P.length P.length, .slice (some ⟨z, 0, none⟩) P.length P.length] 79))
    (hq : W.heap[q]? = some (.cells (madeCells (Value.cells (.agg #[.int .i64 0, .int .i64 0])) (P.length * 2)) 37)) (hz : W.heap[z]? = some (.cells (madeCells (Value.cells (.bool false)) (P.length * 1)) 4)) (g1 : W5.heap.size ≤ b ∧ W5.heap.size ≤ q ∧ W5.heap.size ≤ z ∧ b ≠ q ∧ b ≠ z ∧ q ≠ z) :
    PlcR w b P (fun _ => (0, 0)) (fun _ => false) tv hv q z W ∧ W5.heap.size ≤ b ∧ W5.heap.size ≤ q ∧ W5.heap.size ≤ z ∧ b ≠ q ∧ b ≠ z ∧ q ≠ z ∧ Below W5.heap.size W5 W :=
  ⟨plc_made (cell_of_row _ _ _ _ _ (0, 0) h0) (cell_of_row _ _ _ _ _ (0, 0) h0) (cell_of_row _ _ _ _ _ (0, 0) h0) (cell_of_row _ _ _ _ _ (0, 0) h0) hq hz (h5.trans (hb.mono h5.size)), g1.1, g1.2.1, g1.2.2.1, g1.2.2.2.1, g1.2.2.2.2.1, g1.2.2.2.2.2, hb⟩
set_option maxRecDepth 100000 in
set_option maxHeartbeats 16000000 in
theorem Level_any (P : List Tk) (H : List Int) (tv hv : Value) (w : World) (hT : TsAt w tv P) (hH : NsAt w hv H) :
    Calls Tryd.prog 37 #[tv, hv] w fun e w' => ∃ u, e = .returned (.tuple #[u, eP (lvE P H)]) ∧ SpV w w' P.length (lvS P H) (lvE P H) u ∧ (lvE P H = 0 → Fit P ∧ hasNeg H = false ∧ NoClash P H P.length) ∧ Below w.heap.size w w' := by
  have KC := hide (check_any P tv w hT)
  have HT := hide hT
  have HH := hide hH
  obtain ⟨ad, cap, rfl, hall⟩ := hT
  obtain ⟨ha, hc, rfl, _⟩ := hH
  have HALL := hide hall
  clear hall
  by_cases hk : chkP P = 0
  · have hg := (chk_good hk).1
    have h60 := hg.n60
    have e0 : eP 0 = .nilIface := rfl
    by_cases h8 : 8 < H.length
    · have hE : lvE P H = 1 := by unfold lvE; rw [if_pos hk, if_pos (.inl h8)]
      have e1 : eP 1 = .iface 24 (.int .i64 1) := rfl
      rw [hE, e1]
      rw [hk, e0] at KC
      have hi8 : (8 : Int) < (H.length : Int) := by omega
      go_enter Tryd.func37, Tryd.ntmps37
      go_wp2_with (go_at_call 36; refine KC.out.mono ?_; rintro e W1 ⟨rfl, b1⟩; have HB1 := hide b1)
      go_ret2
      exact ⟨_, rfl, ⟨fun h => absurd h (by decide), fun _ => rfl⟩, fun h => absurd h (by decide), HB1.out⟩
    · have hi8 : ¬ (8 : Int) < (H.length : Int) := by omega
      have KN := hide (fun W (hb : Below w.heap.size w W) => negHas_any H (by omega) _ W (HH.out.below hb))
      cases hn : hasNeg H with
      | true =>
        have hE : lvE P H = 1 := by unfold lvE; rw [if_pos hk, if_pos (.inr hn)]
        have e1 : eP 1 = .iface 24 (.int .i64 1) := rfl
        rw [hn] at KN
        rw [hE, e1]
        rw [hk, e0] at KC
        go_enter Tryd.func37, Tryd.ntmps37
        go_wp2_with (first
          | (go_at_call 36; refine KC.out.mono ?_; rintro e W1 ⟨rfl, b1⟩; have HB1 := hide b1)
          | (go_at_call 49; refine (KN.out _ HB1.out).mono ?_; rintro e W2 ⟨rfl, b2⟩))
        go_ret2
        exact ⟨_, rfl, ⟨fun h => absurd h (by decide), fun _ => rfl⟩, fun h => absurd h (by decide), HB1.out.trans (b2.mono HB1.out.size)⟩
      | false =>
        have hE : (NoClash P H P.length → lvE P H = 0) ∧ (¬ NoClash P H P.length → lvE P H = 17) := by
          unfold lvE
          rw [if_pos hk, if_neg (by rw [hn]; simp [h8])]
          exact ⟨fun h => if_pos h, fun h => if_neg h⟩
        have HNG := hide hn
        rw [hn] at KN
        rw [hk, e0] at KC
        have HE := hide hE
        have HK := hide hk
        clear hE hk
        go_enter Tryd.func37, Tryd.ntmps37
        go_wp2_with (first
          | (go_at_call 36; refine KC.out.mono ?_; rintro e W1 ⟨rfl, b1⟩; have HB1 := hide b1)
          | (go_at_call 49; refine (KN.out _ HB1.out).mono ?_; rintro e W2 ⟨rfl, b2⟩; have HB2 := hide (HB1.out.trans (b2.mono HB1.out.size)); clear b2))
        go_loopw [28] (fun j wr => ∃ m : Nat, m ≤ P.length ∧ j = .int .i64 m ∧ NoClash P H m ∧ Below w.heap.size w wr) (fun j _ => P.length - (intOf j).toNat)
        case atStart => exact ⟨0, by omega, rfl, fun i hi => absurd hi (Nat.not_lt_zero _), HB2.out⟩
        case round =>
          obtain ⟨m, hm, rfl, hno, hB⟩ := hrel
          by_cases hlt : m < P.length
          · have hmi : (m : Int) < (P.length : Int) := by omega
            obtain ⟨g, o, lv, uv, rfl, y0, y1, y2, y3, hls, hus⟩ := HALL.out m hlt
            obtain ⟨la, lc, rfl, _⟩ := hls
            obtain ⟨ua, uc, rfl, hul⟩ := hus
            have x0 := (hB.cell (World.block_lt_of_cell? w _ y0)).trans y0
            have x1 := (hB.cell (World.block_lt_of_cell? w _ y1)).trans y1
            have x2 := (hB.cell (World.block_lt_of_cell? w _ y2)).trans y2
            have x3 := (hB.cell (World.block_lt_of_cell? w _ y3)).trans y3
            have HUL := hide hul
            have hun := (hg.cnt m hlt).2
            have hn1 := hB.alloc hB.size (.cells #[.int .i64 (tk P m).len, .int .i64 (tk P m).nb, .slice la (tk P m).links.length lc, .slice ua (tk P m).uses.length uc] 45)
            have HN1 := hide hn1
            have HNO := hide hno
            have hstep : (∀ r, r < (tk P m).uses.length → (tk P m).uses.getD r 0 ≤ amt H r) → NoClash P H (m + 1) := fun h i hi => by
              by_cases e : i = m
              · subst e; exact h
              · exact HNO.out i (by omega)
            have hnot : ∀ r, r < (tk P m).uses.length → amt H r < (tk P m).uses.getD r 0 → ¬ NoClash P H P.length := fun r hr h hc => by
              have := hc m hlt r hr
              omega
            have HST := hide (And.intro hstep hnot)
            clear y0 y1 y2 y3 hul hB hn1 hno hstep hnot
            generalize (tk P m).len = tl at *
            generalize (tk P m).nb = tn at *
            generalize (tk P m).links.length = ln at *
            generalize (tk P m).uses = U at *
            go_wp2_with fail
            go_loopw [35] (fun j wr => ∃ r : Nat, r ≤ U.length ∧ j = .int .i64 r ∧ (∀ k, k < r → U.getD k 0 ≤ amt H k) ∧ Below w.heap.size w wr) (fun j _ => U.length - (intOf j).toNat)
            case atStart => exact ⟨0, by omega, rfl, fun k hk => absurd hk (Nat.not_lt_zero _), HN1.out⟩
            case round =>
              obtain ⟨r, hr, rfl, hle, hB⟩ := hrel
              by_cases hrl : r < U.length
              · have hri : (r : Int) < (U.length : Int) := by omega
                obtain ⟨ug, uo, rfl, y0⟩ := HUL.out r hrl
                have z0 := (hB.cell (World.block_lt_of_cell? w _ y0)).trans y0
                have KA := hide (fun W (hb : Below w.heap.size w W) => amount_any H r _ W (HH.out.below hb))
                have HB := hide hB
                have HLE := hide hle
                have hcl := HST.out.2 r hrl
                clear y0 hB hle
                generalize hu : U.getD r 0 = u at *
                generalize ham : amt H r = am at *
                by_cases hd : am < u
                · have hE := HE.out.2 (hcl hd)
                  have e1 : eP 17 = .iface 24 (.int .i64 17) := rfl
                  have HEE := hide hE
                  clear hE
                  go_wp2_with (go_at_call 51; refine (KA.out _ HB.out).mono ?_; rintro e X ⟨rfl, rfl⟩)
                  go_ret2
                  exact ⟨_, by rw [HEE.out]; rfl, ⟨fun h => by rw [HEE.out] at h; exact absurd h (by decide), fun _ => rfl⟩, fun h => by rw [HEE.out] at h; exact absurd h (by decide), HB.out⟩
                · go_wp2_with (go_at_call 51; refine (KA.out _ HB.out).mono ?_; rintro e X ⟨rfl, rfl⟩)
                  go_roundw
                  case rel => exact ⟨r + 1, by omega, by go_num, fun k hk => (by
                    by_cases e : k = r
                    · subst e; rw [hu, ham]; omega
                    · exact HLE.out k (by omega)), HB.out⟩
                  case measure => simp [intOf]; omega
              · obtain rfl : r = U.length := by omega
                have HB := hide hB
                have hst := HST.out.1 hle
                clear hB
                go_wp2_with fail
                go_roundw
                case rel => exact ⟨m + 1, by omega, by go_num, hst, HB.out⟩
                case measure => simp [intOf]; omega
          · obtain rfl : m = P.length := by omega
            have hmi : ¬ (P.length : Int) < (P.length : Int) := by omega
            have HEN := hide (And.intro (HE.out.1 hno) hno)
            have KE := hide (fun W (hb : Below w.heap.size w W) => early_any hg _ W (HT.out.below hb))
            have KD := hide (fun q W (hs : SpR q P.length (eS P) W) => (end_any P.length (eS P) q P.length W (by omega) hs.at).mono fun e w' h => (h : e = .returned (.int .i64 (eN P)) ∧ Below W.heap.size W w'))
            have KL := hide (fun (h : 0 ≤ eN P) (h' : eN P ≤ 1099511627776) W (hb : Below w.heap.size w W) => (late_any hg (eN P) h h' _ W (HT.out.below hb)).mono fun e w' h => (h : ∃ q, e = .returned (.slice (some ⟨q, 0, none⟩) P.length P.length) ∧ W.heap.size ≤ q ∧ SpR q P.length (lS P (eN P)) w' ∧ Below W.heap.size W w'))
            have HB := hide hB
            clear hB hno HE KC KN HB1 HB2
            go_upto_region 17 with (first
              | (go_at_call 40; refine (KE.out _ HB.out).mono ?_; rintro e W3 ⟨q1, rfl, hq1, hs1, hT1, b3⟩; have HF := hide (fit_of HK.out hT1); have HB3 := hide (HB.out.trans (b3.mono HB.out.size)); have HS1 := hide hs1; clear hs1 b3 hT1)
              | (go_at_call 42; refine (KD.out _ _ HS1.out).mono ?_; rintro e W4 ⟨rfl, b4⟩; have HB4 := hide (HB3.out.trans (b4.mono HB3.out.size)); clear b4)
              | (go_at_call 43; refine (KL.out HF.out.bd.1 (by have := HF.out.bd.2; omega) _ HB4.out).mono ?_; rintro e W5 ⟨ql, rfl, hql, hs5, b5⟩; have HB5 := hide (HB4.out.trans (b5.mono HB4.out.size)); have HS5 := hide hs5; have hqw : w.heap.size ≤ ql := Nat.le_trans HB4.out.size hql; clear hs5 b5))
            have hql5 := HS5.out.lt
            obtain ⟨is, his, hzs0, hzs1, hzs2⟩ := info_parts span_info
            obtain ⟨ib, hib, hzb0, hzb1, hzb2⟩ := info_parts bool_info
            have hmkS : ∀ X : World, (Instr.makeSlice 23 (.int .i64 (P.length : Int)) (.int .i64 (P.length : Int))).run Tryd.prog X = .ok (.slice (some ⟨X.heap.size, 0, none⟩) P.length P.length) (X.alloc (.cells (madeCells (Value.cells (.agg #[.int .i64 0, .int .i64 0])) (P.length * 2)) 37)) := fun X => by
              have hr := run_make (P := Tryd.prog) X 23 37 is (.agg #[.int .i64 0, .int .i64 0]) Tryd.underlying23 his hzs0 .i64 .i64 P.length P.length (by omega) (Int.le_refl _) (by rw [hzs2]; omega) (by omega)
              simp only [Int.toNat_natCast, hzs1] at hr
              exact hr
            have hmkB : ∀ X : World, (Instr.makeSlice 77 (.int .i64 (P.length : Int)) (.int .i64 (P.length : Int))).run Tryd.prog X = .ok (.slice (some ⟨X.heap.size, 0, none⟩) P.length P.length) (X.alloc (.cells (madeCells (Value.cells (.bool false)) (P.length * 1)) 4)) := fun X => by
              have hr := run_make (P := Tryd.prog) X 77 4 ib (.bool false) Tryd.underlying77 hib hzb0 .i64 .i64 P.length P.length (by omega) (Int.le_refl _) (by rw [hzb2]; omega) (by omega)
              simp only [Int.toNat_natCast, hzb1] at hr
              exact hr
            go_cut [12] from 53 (fun s12 wc => ∃ b q z, s12 = .pointer (some ⟨b, 0, none⟩) ∧ PlcR w b P (fun _ => (0, 0)) (fun _ => false) (.slice ad P.length cap) (.slice ha H.length hc) q z wc ∧ W5.heap.size ≤ b ∧ W5.heap.size ≤ q ∧ W5.heap.size ≤ z ∧ b ≠ q ∧ b ≠ z ∧ q ≠ z ∧ Below W5.heap.size W5 wc)
            case first =>
              generalize hCS : madeCells (Value.cells (.agg #[.int .i64 0, .int .i64 0])) (P.length * 2) = CS at *
              generalize hCB : madeCells (Value.cells (.bool false)) (P.length * 1) = CB at *
              go_region
              all_goals (go_wp2_with fail; go_meet; subst hCS; subst hCB)
              all_goals first
                | exact ⟨W5.heap.size + 1 + 1, W5.heap.size, W5.heap.size + 1, rfl, plc_fin _ _ _ HB5.out (made3 W5 _ _ _).2.2.2 (made3 W5 _ _ _).2.2.1 (made3 W5 _ _ _).1 (made3 W5 _ _ _).2.1 (by omega)⟩
                | exact ⟨W5.heap.size + 1 + 1, W5.heap.size + 1, W5.heap.size, rfl, plc_fin _ _ _ HB5.out (made3 W5 _ _ _).2.2.2 (made3 W5 _ _ _).2.2.1 (made3 W5 _ _ _).2.1 (made3 W5 _ _ _).1 (by omega)⟩
                | exact ⟨W5.heap.size + 1, W5.heap.size, W5.heap.size + 1 + 1, rfl, plc_fin _ _ _ HB5.out (made3 W5 _ _ _).2.2.2 (made3 W5 _ _ _).2.1 (made3 W5 _ _ _).1 (made3 W5 _ _ _).2.2.1 (by omega)⟩
                | exact ⟨W5.heap.size + 1, W5.heap.size + 1 + 1, W5.heap.size, rfl, plc_fin _ _ _ HB5.out (made3 W5 _ _ _).2.2.2 (made3 W5 _ _ _).2.1 (made3 W5 _ _ _).2.2.1 (made3 W5 _ _ _).1 (by omega)⟩
                | exact ⟨W5.heap.size, W5.heap.size + 1, W5.heap.size + 1 + 1, rfl, plc_fin _ _ _ HB5.out (made3 W5 _ _ _).2.2.2 (made3 W5 _ _ _).1 (made3 W5 _ _ _).2.1 (made3 W5 _ _ _).2.2.1 (by omega)⟩
                | exact ⟨W5.heap.size, W5.heap.size + 1 + 1, W5.heap.size + 1, rfl, plc_fin _ _ _ HB5.out (made3 W5 _ _ _).2.2.2 (made3 W5 _ _ _).1 (made3 W5 _ _ _).2.2.1 (made3 W5 _ _ _).2.1 (by omega)⟩
            case rest =>
              obtain ⟨b, q, z, rfl, hP0, hb, hq, hz, hbq, hbz, hqz, hB6⟩ := hcut
              have hN : PlcN w P H (.slice ad P.length cap) (.slice ha H.length hc) b q z := ⟨HT.out, HH.out, by have := HB5.out.size; omega, by have := HB5.out.size; omega, by have := HB5.out.size; omega, hbq, hbz, hqz⟩
              have hH0 : ∀ x ∈ H, 0 ≤ x := fun x hx => by
                have := List.any_eq_false.1 (show H.any (fun n => decide (n < 0)) = false from HNG.out) x hx
                simpa using this
              have LV := hide (fun k hk => lvN_lev HF.out H hH0 (lS P (eN P)) HEN.out.2 k hk)
              have HP0 := hide (And.intro hP0 (show SpR ql P.length (lS P (eN P)) wc from HS5.out.step hB6))
              have hlvS : lvS P H = (lvN P H (lS P (eN P)) P.length).1 := rfl
              have HLS := hide hlvS
              clear hP0 hB6 hH0 HS5 hlvS HALL hmkS hmkB KE KD KL HS1 HB3 HB4
              generalize lS P (eN P) = l at *
              go_wp2_with fail
              go_loopw [64] (fun j wr => ∃ k : Nat, k ≤ P.length ∧ j = .int .i64 k ∧ PlcR w b P (lvN P H l k).1 (lvN P H l k).2 (.slice ad P.length cap) (.slice ha H.length hc) q z wr ∧ SpR ql P.length l wr) (fun j _ => P.length - (intOf j).toNat)
              case atStart => exact ⟨0, by omega, rfl, HP0.out⟩
              case round =>
                obtain ⟨k, hk, rfl, hp, hs⟩ := hrel
                by_cases hlt : k < P.length
                · have hki : (k : Int) < (P.length : Int) := by omega
                  obtain ⟨hL, _, hnn⟩ := LV.out k hk
                  have hn0 := hnn hlt
                  obtain ⟨hi, hst, _⟩ := nxN_can hn0
                  have hnx : lvN P H l (k + 1) = (upS (lvN P H l k).1 (nxN P (lvN P H l k).2 l P.length).toNat (plc P (nxN P (lvN P H l k).2 l P.length).toNat (putB P H (lvN P H l k).1 (lvN P H l k).2 (nxN P (lvN P H l k).2 l P.length).toNat)), stU (lvN P H l k).2 (nxN P (lvN P H l k).2 l P.length).toNat) := rfl
                  have KX := hide (next_any hg H _ _ b _ _ q z l ql wr (hp.w hN) hs.at)
                  obtain ⟨i, hi'⟩ : ∃ i : Nat, nxN P (lvN P H l k).2 l P.length = (i : Int) := ⟨_, (Int.toNat_of_nonneg hn0).symm⟩
                  rw [hi'] at KX hi hst hnx
                  rw [Int.toNat_natCast] at hi hst hnx
                  have KP := hide (fun W (hb : Below wr.heap.size wr W) => put_any hg H _ _ k hL (by omega) i hi (HEN.out.2 i hi) w b _ _ q z hN W (hp.step hb))
                  have HS := hide hs
                  have HNX := hide hnx
                  clear hp hs hL hnn hn0 hst hi' hnx
                  go_wp2_with (first
                    | (go_at_call 53; refine KX.out.mono ?_; rintro e X ⟨rfl, hx⟩; have HX := hide hx; clear hx)
                    | (go_at_call 52; refine (KP.out _ HX.out).mono ?_; rintro e Y ⟨rfl, hpY, hkq⟩))
                  go_roundw
                  case rel => exact ⟨k + 1, by omega, by go_num, by rw [HNX.out]; exact hpY, (HS.out.step HX.out).kq2 hkq (by omega) (by omega)⟩
                  case measure => simp [intOf]; omega
                · obtain rfl : k = P.length := by omega
                  have c2 := hp.c2
                  have HP := hide hp
                  clear hp hs
                  go_wp2_with fail
                  go_ret2
                  exact ⟨_, by rw [HEN.out.1]; rfl, ⟨fun _ => ⟨q, rfl, by have := hN.hq; omega, by rw [HLS.out]; exact HP.out.sp⟩, fun h => absurd HEN.out.1 h⟩, fun _ => ⟨HF.out, by first | exact HNG.out | trivial, HEN.out.2⟩, HP.out.b⟩
  · have hE : lvE P H = chkP P := by unfold lvE; rw [if_neg hk]
    rw [hE]
    rw [eP_ne hk] at KC ⊢
    go_enter Tryd.func37, Tryd.ntmps37
    go_wp2_with (go_at_call 36; refine KC.out.mono ?_; rintro e W1 ⟨rfl, b1⟩; have HB1 := hide b1)
    go_ret2
    exact ⟨_, rfl, ⟨fun h => absurd h hk, fun _ => rfl⟩, fun h => absurd h hk, HB1.out⟩
end Go.Proofs.YtjmjabdokckdlaaDoor
