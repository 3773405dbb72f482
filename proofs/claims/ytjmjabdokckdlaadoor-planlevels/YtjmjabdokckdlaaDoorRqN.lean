/- the reference of plans, levelled: enough. (Written by gen/rqn.py.) -/
import Derived.Test.YtjmjabdokckdlaaDoorRqM
namespace Go.Proofs.YtjmjabdokckdlaaDoor
open Go.RowKit Go.Shelf
set_option linter.unusedVariables false
set_option linter.unusedSimpArgs false

/-- what is asked of a resource -/
def EnR (P : List Tk) (H : List Int) (s : Sp) (d : List Nat) (i : Nat) (x : Int) (r : Nat) : Prop := usT (tk P i) r = 0 ∨ ∀ t ∈ x :: d.map (fun k => (s k).1), ¬ (t < x ∨ x + (tk P i).len ≤ t) → usD P s r t d + usT (tk P i) r ≤ amt H r
def timR (s : Sp) (x : Int) (d : List Nat) : List Int := x :: d.map (fun k => (s k).1)
theorem timR_take (s : Sp) (x : Int) (d : List Nat) (m : Nat) (h : m < d.length) : timR s x (d.take (m + 1)) = timR s x (d.take m) ++ [(s d[m]).1] := by
  unfold timR
  rw [List.take_succ_eq_append_getElem h, List.map_append]; rfl
theorem timR_len (s : Sp) (x : Int) (d : List Nat) : (timR s x d).length = d.length + 1 := by unfold timR; simp
set_option maxRecDepth 100000 in
set_option maxHeartbeats 16000000 in
theorem enough_any {P : List Tk} (hG : Good P) (H : List Int) (hH : H.length ≤ 8) (s : Sp) (hsb : SpBd P.length s) (d : List Nat) (hd : ∀ k ∈ d, k < P.length) (hdl : d.length ≤ 60) (i : Nat) (hi : i < P.length) (x : Int) (hx : -4000000000000 ≤ x ∧ x ≤ 4000000000000) (tv hv : Value) (q c : Nat) (dv : Value) (base : Nat) (w : World) (hT : TsAt w tv P) (hHv : NsAt w hv H) (hs : SpAt q P.length s w) (hdv : OwnN w base dv d) :
    Calls Tryd.prog 54 #[tv, hv, .slice (some ⟨q, 0, none⟩) P.length c, dv, .int .i64 (i : Int), .int .i64 x] w fun e w' => ∃ b : Bool, e = .returned (.bool b) ∧ (b = true ↔ EnP P H s d i x) ∧ RowKit.Below w.heap.size w w' := by
  have KD := hide (fun (r : Nat) (t : Int) (W : World) (hb : RowKit.Below w.heap.size w W) => Used_any hG s d hd hdl r t tv q c dv base W (hT.below hb) (hs.below hb) (own_bel hdv hb))
  obtain ⟨ad, cap, rfl, hall⟩ := hT
  obtain ⟨ha, hc, rfl, hhs⟩ := hHv
  obtain ⟨g, o, lv, uv, rfl, y0, y1, y2, y3, hls, hus⟩ := hall i hi
  obtain ⟨la, lc, rfl, _⟩ := hls
  have KU := hide (fun (r : Nat) (W : World) (hb : RowKit.Below w.heap.size w W) => use_any (tk P i) (.slice la (tk P i).links.length lc) uv ⟨_, _, _, rfl⟩ r W (hus.below hb))
  obtain ⟨ua, uc, rfl, _⟩ := hus
  have HHS := hide hhs
  have HS := hide hs
  have HDV := hide hdv
  obtain ⟨da, dc, rfl⟩ := (own_len hdv).2
  have hii : (i : Int) < (P.length : Int) := by omega
  have hlen := hG.len i hi
  have hEnP : EnP P H s d i x ↔ ∀ r, r < H.length → EnR P H s d i x r := Iff.rfl
  have HEN := hide hEnP
  have HUB := hide (fun (r : Nat) (t : Int) => usD_bd hG s r t d hd)
  have HTB := hide (fun (r : Nat) => usT_bd hG i hi r)
  have HY := hide (And.intro y0 (And.intro y1 (And.intro y2 y3)))
  obtain ⟨i0, hi0, hz0, hz01, hz2⟩ := info_parts int_info
  have hwl := wrap64_id (x := x + (tk P i).len) (by omega) (by omega)
  clear hall hhs hs hdv hEnP y0 y1 y2 y3 hG
  generalize hEN : EnP P H s d i x = EN at *
  go_enter Tryd.func54, Tryd.ntmps54
  go_wp2_with fail
  go_loopw [13] (fun j wr => ∃ m : Nat, m ≤ H.length ∧ j = .int .i64 m ∧ (∀ r, r < m → EnR P H s d i x r) ∧ RowKit.Below w.heap.size w wr) (fun j _ => H.length - (intOf j).toNat)
  case atStart => exact ⟨0, by omega, rfl, fun r hr => absurd hr (Nat.not_lt_zero _), RowKit.Below.refl _ _⟩
  case round =>
    obtain ⟨r, hr, rfl, hall, hB⟩ := hrel
    by_cases hlt : r < H.length
    · have hri : (r : Int) < (H.length : Int) := by omega
      obtain ⟨y0, y1, y2, y3⟩ := HY.out
      have x0 := (hB.cell (World.block_lt_of_cell? w _ y0)).trans y0
      have x1 := (hB.cell (World.block_lt_of_cell? w _ y1)).trans y1
      have x2 := (hB.cell (World.block_lt_of_cell? w _ y2)).trans y2
      have x3 := (hB.cell (World.block_lt_of_cell? w _ y3)).trans y3
      have KUr := hide (KU.out r wr hB)
      have hER : EnR P H s d i x r ↔ (usT (tk P i) r = 0 ∨ ∀ t ∈ timR s x d, ¬ (t < x ∨ x + (tk P i).len ≤ t) → usD P s r t d + usT (tk P i) r ≤ amt H r) := Iff.rfl
      have HER := hide hER
      have hnx : EnR P H s d i x r → ∀ k, k < r + 1 → EnR P H s d i x k := fun h k hk => by
        by_cases e : k = r
        · subst e; exact h
        · exact hall k (by omega)
      have HNX := hide hnx
      have HB := hide hB
      have htb := HTB.out r
      have HFAIL := hide (fun (h : ¬ EnR P H s d i x r) => (fun hE => h (HEN.out.1 hE r hlt) : ¬ EN))
      clear y0 y1 y2 y3 hall hER hnx hB
      generalize hEr : EnR P H s d i x r = ER at *
      generalize hu : usT (tk P i) r = u at *
      generalize hlm : (tk P i).len = tl at *
      generalize hnn : (tk P i).nb = tn at *
      generalize (tk P i).links.length = ln at *
      generalize (tk P i).uses.length = un at *
      by_cases hu0 : u = 0
      · have hok := HNX.out (HER.out.2 (.inl hu0))
        subst hu0
        have HOK := hide hok
        clear hok
        go_wp2_with (go_at_call 71; refine KUr.out.mono ?_; rintro e X ⟨rfl, hx⟩)
        go_roundw
        case rel => exact ⟨r + 1, by omega, by go_num, HOK.out, HB.out.trans (hx.mono HB.out.size)⟩
        case measure => simp [intOf]; omega
      · have hub : (u == 0) = false := beq_eq_false_iff_ne.2 hu0
        go_wp2_with (go_at_call 71; refine KUr.out.mono ?_; rintro e X ⟨rfl, hx⟩; have hBX : RowKit.Below w.heap.size w X := HB.out.trans (hx.mono HB.out.size); have HBX := hide hBX; clear hx hBX)
        clear x0 x1 x2 x3
        have hXz := HBX.out.size
        have hown0 : OwnZ (X.alloc (.cells #[.int .i64 x] 3)) X.heap.size (.slice (some ⟨X.heap.size, 0, none⟩) 1 1) (timR s x (d.take 0)) :=
          ⟨rfl, .inr ⟨X.heap.size, 1, #[.int .i64 x], rfl, Nat.le_refl _, World.alloc_heap_new X _, Nat.le_refl _, by unfold maxLen; omega, rfl, rfl⟩⟩
        have HO := hide (And.intro hown0 ((RowKit.Below.refl _ X).alloc (Nat.le_refl _) (.cells #[.int .i64 x] 3)))
        clear hown0
        go_loopw [14, 36] (fun bv j wr => ∃ m : Nat, m ≤ d.length ∧ j = .int .i64 m ∧ OwnZ wr X.heap.size bv (timR s x (d.take m)) ∧ RowKit.Below X.heap.size X wr) (fun _ j _ => d.length - (intOf j).toNat)
        case atStart => exact ⟨0, by omega, rfl, HO.out⟩
        case round =>
          clear HO
          obtain ⟨m, hm, rfl, hown, hBx⟩ := hrel
          have htl := timR_len s x (d.take m)
          have htl2 : (d.take m).length ≤ 60 := by rw [List.length_take]; omega
          have hBw : RowKit.Below w.heap.size w wr := HBX.out.trans (hBx.mono hXz)
          by_cases hml : m < d.length
          · have hmi : (m : Int) < (d.length : Int) := by omega
            have hkm := hd d[m] (List.getElem_mem hml)
            have hnt := timR_take s x d m hml
            obtain ⟨c0, hcm, rfl⟩ : ∃ c0, wr.cell? ⟨c0, m, none⟩ = some (.int .i64 ((d[m] : Nat) : Int)) ∧ da = some ⟨c0, 0, none⟩ := by
              have ho := own_bel HDV.out hBw
              rcases ho.2 with ⟨e, e0⟩ | ⟨g, cap, cur, e, _⟩
              · omega
              · obtain ⟨rfl, rfl⟩ : da = some ⟨g, 0, none⟩ ∧ dc = cap := by simpa using e
                exact ⟨g, (ho.cellAt m (by omega)).trans (nV_at d m hml), rfl⟩
            have s0 := ((HS.out.below hBw) d[m] hkm).1
            generalize d[m] = k at *
            have hki : ((k : Nat) : Int) < (P.length : Int) := by omega
            have hsz := hBx.size
            have HBx := hide hBx
            clear hBx hBw
            generalize timR s x (d.take m) = zs at *
            generalize (s k).1 = f at *
            have hcn := cell_one_new wr (.int .i64 f) 3
            go_wp2_with (at_builtin; refine wpList_append_own _ rfl _ _ 31 rfl X.heap.size 3 i0 (.int .i64 0) 1 8 Tryd.underlying31 hi0 hz0 hz01 hz2 rfl (by decide) _ _ _ rfl (hown.alloc (.cells #[.int .i64 f] 3)) ⟨wr.heap.size, 0, none⟩ 1 1 [.int .i64 f] rfl rfl hcn (ints_oneCell .i64 [f]) (by unfold maxLen; omega) (by omega) (by simp; omega) ?_; intro v' w1 hown1 hgrow1 hnil1)
            have hr1 := hown.alloc (.cells #[.int .i64 f] 3)
            have hbn : RowKit.Below X.heap.size X w1 := (HBx.out.alloc hsz _).grown hgrow1 (by simp; omega) (fun j hj => (hr1.lt j hj).1)
            go_roundw
            case rel => exact ⟨m + 1, by omega, by go_num, by rw [hnt]; unfold OwnZ; rw [List.length_append, List.map_append]; exact hown1, hbn⟩
            case measure => simp [intOf]; omega
          · obtain rfl : m = d.length := by omega
            rw [List.take_length] at hown htl
            obtain ⟨ba, bc, rfl⟩ := ownZ_len hown
            have HOW := hide hown
            have HBw := hide hBw
            clear hown hBw hBx htl2
            generalize hTT : timR s x d = T at *
            generalize hzl : T.length = zl at *
            have hz61 : zl ≤ 61 := by omega
            have HZL := hide hzl
            clear hzl htl
            go_wp2_with fail
            generalize wr = W5 at *
            go_loopw [51] (fun j wr => ∃ k : Nat, k ≤ zl ∧ j = .int .i64 k ∧ (∀ t ∈ T.take k, ¬ (t < x ∨ x + tl ≤ t) → usD P s r t d + u ≤ amt H r) ∧ RowKit.Below W5.heap.size W5 wr) (fun j _ => zl - (intOf j).toNat)
            case atStart => exact ⟨0, by omega, rfl, fun t ht => by simp at ht, RowKit.Below.refl _ _⟩
            case round =>
              obtain ⟨k, hk, rfl, hle, hB5⟩ := hrel
              by_cases hkl : k < zl
              · have hki : (k : Int) < (zl : Int) := by omega
                have hkT : k < T.length := by rw [HZL.out]; exact hkl
                obtain ⟨c0, hcm, rfl⟩ : ∃ c0, wr.cell? ⟨c0, k, none⟩ = some (.int .i64 T[k]) ∧ ba = some ⟨c0, 0, none⟩ := by
                  have ho := own_bel HOW.out hB5
                  rw [HZL.out] at ho
                  rcases ho.2 with ⟨e, e0⟩ | ⟨g', cap', cur, e, _⟩
                  · omega
                  · obtain ⟨rfl, rfl⟩ : ba = some ⟨g', 0, none⟩ ∧ bc = cap' := by simpa using e
                    exact ⟨g', (ho.cellAt k (by omega)).trans (by rw [List.getElem?_map, List.getElem?_eq_getElem hkT]; rfl), rfl⟩
                have hbw : RowKit.Below w.heap.size w wr := HBw.out.trans (hB5.mono HBw.out.size)
                have hnT : T.take (k + 1) = T.take k ++ [T[k]] := List.take_succ_eq_append_getElem hkT
                have hmT : T[k] ∈ T := List.getElem_mem hkT
                have hub1 := HUB.out r T[k]
                have hnxt : (¬ (T[k] < x ∨ x + tl ≤ T[k]) → usD P s r T[k] d + u ≤ amt H r) → ∀ t ∈ T.take (k + 1), ¬ (t < x ∨ x + tl ≤ t) → usD P s r t d + u ≤ amt H r := fun h t ht => by
                  rw [hnT] at ht
                  rcases List.mem_append.1 ht with g | g
                  · exact hle t g
                  · rw [List.mem_singleton.1 g]; exact h
                have hbad : ¬ (T[k] < x ∨ x + tl ≤ T[k]) → ¬ (usD P s r T[k] d + u ≤ amt H r) → ¬ EN := fun h1 h2 => HFAIL.out fun hE => by
                  rcases HER.out.1 hE with g | g
                  · exact hu0 g
                  · exact h2 (g _ hmT h1)
                obtain ⟨y0, y1, y2, y3⟩ := HY.out
                have x0 := (hbw.cell (World.block_lt_of_cell? w _ y0)).trans y0
                have HNT := hide hnxt
                have HBAD := hide hbad
                have HB5 := hide hB5
                have HBW := hide hbw
                clear hle hnT hmT hnxt hbad hB5 hbw
                generalize T[k] = t at *
                by_cases h1 : t < x
                · have hn2 := HNT.out (fun h => absurd (.inl h1) h)
                  have HN2 := hide hn2
                  clear hn2
                  go_wp2_with fail
                  go_roundw
                  case rel => exact ⟨k + 1, by omega, by go_num, HN2.out, HB5.out⟩
                  case measure => simp [intOf]; omega
                by_cases h2 : x + tl ≤ t
                · have hn2 := HNT.out (fun h => absurd (.inr h2) h)
                  have HN2 := hide hn2
                  clear hn2
                  go_wp2_with fail
                  go_roundw
                  case rel => exact ⟨k + 1, by omega, by go_num, HN2.out, HB5.out⟩
                  case measure => simp [intOf]; omega
                have hn12 : ¬ (t < x ∨ x + tl ≤ t) := by omega
                obtain ⟨hg', ho', e1, z0⟩ := HHS.out r hlt
                subst e1
                rw [show H.getD r 0 = amt H r from rfl] at z0
                have KDr := hide (fun W hb => KD.out r t W hb)
                have KUr2 := hide (fun W hb => KU.out r W hb)
                have HN12 := hide hn12
                go_wp2_with fail
                have hS : RowKit.Below w.heap.size w wr.drew := RowKit.Below.drew HBW.out
                have hS5 : RowKit.Below wr.heap.size wr wr.drew := RowKit.Below.drew (RowKit.Below.refl _ _)
                clear x0 hn12 hcm
                generalize hud : usD P s r t d = ud at *
                generalize hah : amt H r = ah at *
                have hwu := wrap64_id (x := ud + u) (by omega) (by omega)
                have hwi := i64_id (x := ud + u) (by omega) (by omega)
                replace hS := And.intro hS hS5
                clear hS5
                refine wp_region_noPanic ?_
                refine wp_region_linGM (S := fun X => RowKit.Below w.heap.size w X ∧ RowKit.Below wr.heap.size wr X) (R := fun _ => True) [] (by kernel_rfl) (by kernel_rfl) [(0, none, 1), (1, none, 1), (2, none, 1), (3, none, 1), (4, none, 1), (6, none, 1), (7, none, 1), (8, none, 1), (9, none, 0), (10, none, 1), (13, none, 1), (14, none, 1), (15, none, 1), (16, none, 0), (5, none, 2), (11, none, 2), (12, none, 1), (17, none, 1)] (by kernel_rfl) (by kernel_rfl) (fun _ _ _ _ _ h => h) (by exact trivial) (by exact hS) (fun ops' Q' hops hQ' => ?_)
                refine wpLinG_pure (o := { dst := some 69, op := Go.Op.move (Go.Operand.tmp 0), type := 22, pos := "plan.go:291", after := #[], guard := none }) (v := ?vx0) (by rw [hops]; rfl) (by first | exact trivial | rfl) ?ex0 ?hx0
                case ex0 => intro w'; go_simp; (try rfl)
                (try simp only [Act.put, List.setIfInBounds_toArray, List.set_cons_zero, List.set_cons_succ])
                refine wpLinG_pure (o := { dst := some 70, op := Go.Op.move (Go.Operand.tmp 2), type := 23, pos := "plan.go:291", after := #[], guard := none }) (v := ?vx1) (by rw [hops]; rfl) (by first | exact trivial | rfl) ?ex1 ?hx1
                case ex1 => intro w'; go_simp; (try rfl)
                (try simp only [Act.put, List.setIfInBounds_toArray, List.set_cons_zero, List.set_cons_succ])
                refine wpLinG_pure (o := { dst := some 71, op := Go.Op.move (Go.Operand.tmp 3), type := 31, pos := "plan.go:291", after := #[], guard := none }) (v := ?vx2) (by rw [hops]; rfl) (by first | exact trivial | rfl) ?ex2 ?hx2
                case ex2 => intro w'; go_simp; (try rfl)
                (try simp only [Act.put, List.setIfInBounds_toArray, List.set_cons_zero, List.set_cons_succ])
                refine wpLinG_pure (o := { dst := some 72, op := Go.Op.move (Go.Operand.tmp 13), type := 3, pos := "plan.go:291", after := #[], guard := none }) (v := ?vx3) (by rw [hops]; rfl) (by first | exact trivial | rfl) ?ex3 ?hx3
                case ex3 => intro w'; go_simp; (try rfl)
                (try simp only [Act.put, List.setIfInBounds_toArray, List.set_cons_zero, List.set_cons_succ])
                refine wpLinG_pure (o := { dst := some 73, op := Go.Op.move (Go.Operand.tmp 18), type := 3, pos := "plan.go:291", after := #[], guard := none }) (v := ?vx4) (by rw [hops]; rfl) (by first | exact trivial | rfl) ?ex4 ?hx4
                case ex4 => intro w'; go_simp; (try rfl)
                (try simp only [Act.put, List.setIfInBounds_toArray, List.set_cons_zero, List.set_cons_succ])
                refine wpLinG_pure (o := { dst := some 75, op := Go.Op.move (Go.Operand.tmp 0), type := 22, pos := "plan.go:291", after := #[], guard := none }) (v := ?vx5) (by rw [hops]; rfl) (by first | exact trivial | rfl) ?ex5 ?hx5
                case ex5 => intro w'; go_simp; (try rfl)
                (try simp only [Act.put, List.setIfInBounds_toArray, List.set_cons_zero, List.set_cons_succ])
                refine wpLinG_pure (o := { dst := some 76, op := Go.Op.move (Go.Operand.tmp 4), type := 3, pos := "plan.go:291", after := #[], guard := none }) (v := ?vx6) (by rw [hops]; rfl) (by first | exact trivial | rfl) ?ex6 ?hx6
                case ex6 => intro w'; go_simp; (try rfl)
                (try simp only [Act.put, List.setIfInBounds_toArray, List.set_cons_zero, List.set_cons_succ])
                refine wpLinG_pure (o := { dst := some 77, op := Go.Op.indexAddr 22 (Go.Operand.tmp 75) (Go.Operand.tmp 76), type := 0, pos := "plan.go:291", after := #[{ on := 6, ground := Go.Ground.data }, { on := 7, ground := Go.Ground.data }], guard := none }) (v := ?vx7) (by rw [hops]; rfl) (by first | exact trivial | rfl) ?ex7 ?hx7
                case ex7 => intro w'; go_simp; (try rfl)
                (try simp only [Act.put, List.setIfInBounds_toArray, List.set_cons_zero, List.set_cons_succ])
                refine wpLinG_read (o := { dst := some 78, op := Go.Op.load 45 (Go.Operand.tmp 77), type := 45, pos := "plan.go:291", after := #[{ on := 8, ground := Go.Ground.data }], guard := none }) (v := ?vx8) (by rw [hops]; rfl) (by first | exact trivial | rfl) hS ?ex8 ?hx8
                case ex8 => intro w' hw'; have x0 := (hw'.1.cell (World.block_lt_of_cell? w _ y0)).trans y0; have x1 := (hw'.1.cell (World.block_lt_of_cell? w _ y1)).trans y1; have x2 := (hw'.1.cell (World.block_lt_of_cell? w _ y2)).trans y2; have x3 := (hw'.1.cell (World.block_lt_of_cell? w _ y3)).trans y3; have z1 := (hw'.1.cell (World.block_lt_of_cell? w _ z0)).trans z0; go_simp; (try rfl)
                (try simp only [Act.put, List.setIfInBounds_toArray, List.set_cons_zero, List.set_cons_succ])
                refine wpLinG_pure (o := { dst := some 79, op := Go.Op.move (Go.Operand.tmp 13), type := 3, pos := "plan.go:291", after := #[], guard := none }) (v := ?vx9) (by rw [hops]; rfl) (by first | exact trivial | rfl) ?ex9 ?hx9
                case ex9 => intro w'; go_simp; (try rfl)
                (try simp only [Act.put, List.setIfInBounds_toArray, List.set_cons_zero, List.set_cons_succ])
                refine wpLinG_pure (o := { dst := some 82, op := Go.Op.move (Go.Operand.tmp 1), type := 31, pos := "plan.go:291", after := #[], guard := none }) (v := ?vx10) (by rw [hops]; rfl) (by first | exact trivial | rfl) ?ex10 ?hx10
                case ex10 => intro w'; go_simp; (try rfl)
                (try simp only [Act.put, List.setIfInBounds_toArray, List.set_cons_zero, List.set_cons_succ])
                refine wpLinG_pure (o := { dst := some 83, op := Go.Op.move (Go.Operand.tmp 13), type := 3, pos := "plan.go:291", after := #[], guard := none }) (v := ?vx11) (by rw [hops]; rfl) (by first | exact trivial | rfl) ?ex11 ?hx11
                case ex11 => intro w'; go_simp; (try rfl)
                (try simp only [Act.put, List.setIfInBounds_toArray, List.set_cons_zero, List.set_cons_succ])
                refine wpLinG_pure (o := { dst := some 84, op := Go.Op.indexAddr 31 (Go.Operand.tmp 82) (Go.Operand.tmp 83), type := 0, pos := "plan.go:291", after := #[{ on := 13, ground := Go.Ground.data }, { on := 14, ground := Go.Ground.data }], guard := none }) (v := ?vx12) (by rw [hops]; rfl) (by first | exact trivial | rfl) ?ex12 ?hx12
                case ex12 => intro w'; go_simp; (try rfl)
                (try simp only [Act.put, List.setIfInBounds_toArray, List.set_cons_zero, List.set_cons_succ])
                refine wpLinG_read (o := { dst := some 85, op := Go.Op.load 3 (Go.Operand.tmp 84), type := 3, pos := "plan.go:291", after := #[{ on := 15, ground := Go.Ground.data }], guard := none }) (v := ?vx13) (by rw [hops]; rfl) (by first | exact trivial | rfl) hS ?ex13 ?hx13
                case ex13 => intro w' hw'; have x0 := (hw'.1.cell (World.block_lt_of_cell? w _ y0)).trans y0; have x1 := (hw'.1.cell (World.block_lt_of_cell? w _ y1)).trans y1; have x2 := (hw'.1.cell (World.block_lt_of_cell? w _ y2)).trans y2; have x3 := (hw'.1.cell (World.block_lt_of_cell? w _ y3)).trans y3; have z1 := (hw'.1.cell (World.block_lt_of_cell? w _ z0)).trans z0; go_simp; (try rfl)
                (try simp only [Act.put, List.setIfInBounds_toArray, List.set_cons_zero, List.set_cons_succ])
                refine wpLinG_do (o := { dst := some 74, op := Go.Op.call { callee := Go.Callee.value (Go.Operand.func 72), args := #[Go.Operand.tmp 69, Go.Operand.tmp 70, Go.Operand.tmp 71, Go.Operand.tmp 72, Go.Operand.tmp 73], argTypes := #[22, 23, 31, 3, 3] }, type := 3, pos := "plan.go:291", after := #[{ on := 0, ground := Go.Ground.data }, { on := 1, ground := Go.Ground.data }, { on := 2, ground := Go.Ground.data }, { on := 3, ground := Go.Ground.data }, { on := 4, ground := Go.Ground.data }], guard := none }) (by rw [hops]; rfl) (by first | exact trivial | rfl) (fun K hK => ?_)
                go_simp
                refine (KDr.out _ hS.1).mono ?_
                rintro e XKDr ⟨rfl, hb⟩
                replace hS := And.intro (hS.1.trans (hb.mono hS.1.size)) (hS.2.trans (hb.mono hS.2.size))
                clear hb
                refine hK _ _ trivial hS ?_
                clear hK K
                (try simp only [Act.put, List.setIfInBounds_toArray, List.set_cons_zero, List.set_cons_succ])
                refine wpLinG_do (o := { dst := some 80, op := Go.Op.call { callee := Go.Callee.value (Go.Operand.func 71), args := #[Go.Operand.tmp 78, Go.Operand.tmp 79], argTypes := #[45, 3] }, type := 3, pos := "plan.go:291", after := #[{ on := 9, ground := Go.Ground.data }, { on := 10, ground := Go.Ground.data }, { on := 5, ground := Go.Ground.chain }], guard := none }) (by rw [hops]; rfl) (by first | exact trivial | rfl) (fun K hK => ?_)
                go_simp
                refine (KUr2.out _ hS.1).mono ?_
                rintro e XKUr2 ⟨rfl, hb⟩
                replace hS := And.intro (hS.1.trans (hb.mono hS.1.size)) (hS.2.trans (hb.mono hS.2.size))
                clear hb
                refine hK _ _ trivial hS ?_
                clear hK K
                (try simp only [Act.put, List.setIfInBounds_toArray, List.set_cons_zero, List.set_cons_succ])
                refine wpLinG_pure (o := { dst := some 81, op := Go.Op.binOp Go.BinOp.add 3 (Go.Operand.tmp 74) (Go.Operand.tmp 80) 3, type := 3, pos := "plan.go:291", after := #[{ on := 5, ground := Go.Ground.data }, { on := 11, ground := Go.Ground.data }], guard := none }) (v := ?vx16) (by rw [hops]; rfl) (by first | exact trivial | rfl) ?ex16 ?hx16
                case ex16 => intro w'; go_simp; (try rfl)
                (try simp only [Act.put, List.setIfInBounds_toArray, List.set_cons_zero, List.set_cons_succ])
                refine wpLinG_pure (o := { dst := some 86, op := Go.Op.binOp Go.BinOp.gtr 3 (Go.Operand.tmp 81) (Go.Operand.tmp 85) 3, type := 4, pos := "plan.go:291", after := #[{ on := 12, ground := Go.Ground.data }, { on := 16, ground := Go.Ground.data }], guard := none }) (v := ?vx17) (by rw [hops]; rfl) (by first | exact trivial | rfl) ?ex17 ?hx17
                case ex17 => intro w'; go_simp; (try rfl)
                (try simp only [Act.put, List.setIfInBounds_toArray, List.set_cons_zero, List.set_cons_succ])
                subst hQ'
                refine NoPanic.normal ?_
                clear hops
                have HSF := hide hS
                clear hS y0 y1 y2 y3
                by_cases hg : ah < ud + u
                · have d1 : decide (ah < ud + u) = true := decide_eq_true hg
                  have hne := HBAD.out HN12.out (by omega)
                  have HNE := hide hne
                  clear hne
                  go_wp2_with fail
                  go_ret
                  exact ⟨false, rfl, ⟨(fun h => by cases h), fun h => absurd h HNE.out⟩, HSF.out.1⟩
                · have d1 : decide (ah < ud + u) = false := decide_eq_false hg
                  have hn2 := HNT.out (fun _ => by omega)
                  have HN2 := hide (show ∀ t ∈ T.take (k + 1), ¬ (t < x ∨ x + tl ≤ t) → usD P s r t d + u ≤ amt H r from fun t a b => by rw [hah]; exact hn2 t a b)
                  clear hn2
                  go_wp2_with fail
                  go_roundw
                  case rel => exact ⟨k + 1, by omega, by go_num, HN2.out, HB5.out.trans (HSF.out.2.mono HB5.out.size)⟩
                  case measure => simp [intOf]; omega
              · obtain rfl : k = zl := by omega
                rw [← HZL.out, List.take_length] at hle
                have hok := HNX.out (HER.out.2 (.inr hle))
                have HOK := hide hok
                have HB6 := hide (HBw.out.trans (hB5.mono HBw.out.size))
                clear hok hle hB5
                go_wp2_with fail
                go_roundw
                case rel => exact ⟨r + 1, by omega, by go_num, HOK.out, HB6.out⟩
                case measure => simp [intOf]; omega
    · obtain rfl : r = H.length := by omega
      have hE := HEN.out.2 hall
      have HE := hide hE
      have HB := hide hB
      clear hB hall hE
      go_wp2_with fail
      go_ret
      exact ⟨true, rfl, ⟨fun _ => HE.out, fun _ => rfl⟩, HB.out⟩
end Go.Proofs.YtjmjabdokckdlaaDoor
