/- BusyBest: where a meeting may be looked for. (Written by gen/busj.py.) -/
import Derived.Test.YtabgoicholknoaaDoorBusJ
namespace Go.Proofs.YtabgoicholknoaaDoor
open Go.RowKit Go.Shelf Go.Maps
set_option linter.unusedVariables false
set_option linter.unusedSimpArgs false

set_option maxRecDepth 100000 in
set_option maxHeartbeats 8000000 in
theorem best_some (W : Wn) (mv sv : Value) (ad : Option Addr) (cap : Nat) (Zs : List (List (Int × Int))) (w : World) (hA : BArg W mv sv (.slice ad Zs.length cap) Zs w) (D q : Int) (hD : wrap64 (W.to' - W.from') = D) (hq : wrap64 (D.tdiv W.step) = q) (h1 : 0 < W.step) (h2 : q ≤ 400) :
    Calls Tryd.prog 3 #[wantV W mv sv, .slice ad Zs.length cap] w fun e w' => e = .returned (.bool true) ∧ Below w.heap.size w w' := by
  have hl := hA.l
  have h12i : ¬ (12 : Int) < (Zs.length : Int) := by omega
  have HA := hide hA
  have HQ := hide (And.intro hD hq)
  clear hA
  unfold wantV
  go_enter Tryd.func3, Tryd.ntmps3
  go_wp2_with fail
  clear hD hq
  go_loopw [6] (fun i wr => ∃ m : Nat, m ≤ Zs.length ∧ i = .int .i64 m ∧ LJ W mv sv w m wr) (fun i _ => Zs.length - (intOf i).toNat)
  case atStart => exact ⟨0, by omega, rfl, LJ.start W mv sv w⟩
  case round =>
    obtain ⟨m, hm, rfl, hJ⟩ := hrel
    by_cases hlt : m < Zs.length
    · have hmi : (m : Int) < (Zs.length : Int) := by omega
      have hm0 : (0 : Int) ≤ m := by omega
      obtain ⟨lv, Ps, hPl, hPs, hp, hgr⟩ := hJ.ex
      obtain ⟨g, og, a, k, rfl, hx, hsp⟩ := HA.out.z.form hlt
      generalize Zs.getD m [] = zs at *
      have hx0 := (hJ.b.cell (World.block_lt_of_cell? w _ hx)).trans hx
      have hsj : SJ W mv sv w lv Ps g (og + m) (.slice a zs.length k) wr := ⟨hJ.x, hp, hx0, hgr, hJ.b, hJ.z, by have := World.block_lt_of_cell? w _ hx; simpa using this⟩
      by_cases hbig : 64 < zs.length
      · have hbi : (64 : Int) < (zs.length : Int) := by omega
        have hBB := hide hJ.b
        clear hJ hsj hp hgr
        go_wp2
        go_ret
        exact ⟨rfl, hBB.out⟩
      · have hbi : ¬ (64 : Int) < (zs.length : Int) := by omega
        obtain ⟨la, lc, rfl⟩ := hgr.slice
        have KT := hide (fun X (h : Below w.heap.size w X) => timesOf_in (.slice a zs.length k) zs (by omega) X (hsp.below h))
        have hJ0 := hsj.later (Below.refl _ wr).drew
        have hS := hJ0.cells
        have HS0 := hide hsj
        have HPP := hide (And.intro hPl hPs)
        clear hJ hsj hp hgr hx hsp hPl hPs hbig
        go_wp2_with fail
        refine wp_region_noPanic ?_
        refine wp_region_linGM (S := fun X => X.cell? ⟨w.heap.size + 1, 0, none⟩ = some (.slice la Ps.length lc) ∧ X.cell? ⟨g, og + m, none⟩ = some (.slice a zs.length k)) (R := fun _ => True) [8] (by kernel_rfl) (by kernel_rfl) [(0, none, 0), (1, none, 1), (2, none, 1), (3, none, 1), (4, none, 0), (5, none, 2), (6, none, 2), (7, none, 2), (8, none, 3)] (by kernel_rfl) (by kernel_rfl) (fun _ _ _ _ _ h => h) (by exact trivial) (by exact hS) (fun ops' Q' hops hQ' => ?_)
        refine wpLinG_read (o := { dst := some 59, op := Go.Op.load 27 (Go.Operand.tmp 5), type := 27, pos := "house.go:219", after := #[], guard := none }) (v := ?vx0) (by rw [hops]; rfl) (by first | exact trivial | rfl) hS ?ex0 ?hx0
        case ex0 => intro w' hw'; obtain ⟨e1, e2⟩ := hw'; go_simp; (try rfl)
        (try simp only [Act.put, List.setIfInBounds_toArray, List.set_cons_zero, List.set_cons_succ])
        refine wpLinG_pure (o := { dst := some 60, op := Go.Op.move (Go.Operand.tmp 1), type := 26, pos := "house.go:219", after := #[], guard := none }) (v := ?vx1) (by rw [hops]; rfl) (by first | exact trivial | rfl) ?ex1 ?hx1
        case ex1 => intro w'; go_simp; (try rfl)
        (try simp only [Act.put, List.setIfInBounds_toArray, List.set_cons_zero, List.set_cons_succ])
        refine wpLinG_pure (o := { dst := some 61, op := Go.Op.move (Go.Operand.tmp 6), type := 3, pos := "house.go:219", after := #[], guard := none }) (v := ?vx2) (by rw [hops]; rfl) (by first | exact trivial | rfl) ?ex2 ?hx2
        case ex2 => intro w'; go_simp; (try rfl)
        (try simp only [Act.put, List.setIfInBounds_toArray, List.set_cons_zero, List.set_cons_succ])
        refine wpLinG_pure (o := { dst := some 62, op := Go.Op.indexAddr 26 (Go.Operand.tmp 60) (Go.Operand.tmp 61), type := 0, pos := "house.go:219", after := #[{ on := 1, ground := Go.Ground.data }, { on := 2, ground := Go.Ground.data }], guard := none }) (v := ?vx3) (by rw [hops]; rfl) (by first | exact trivial | rfl) ?ex3 ?hx3
        case ex3 => intro w'; go_simp; (try rfl)
        (try simp only [Act.put, List.setIfInBounds_toArray, List.set_cons_zero, List.set_cons_succ])
        refine wpLinG_read (o := { dst := some 63, op := Go.Op.load 28 (Go.Operand.tmp 62), type := 28, pos := "house.go:219", after := #[{ on := 3, ground := Go.Ground.data }], guard := none }) (v := ?vx4) (by rw [hops]; rfl) (by first | exact trivial | rfl) hS ?ex4 ?hx4
        case ex4 => intro w' hw'; obtain ⟨e1, e2⟩ := hw'; go_simp; (try rfl)
        (try simp only [Act.put, List.setIfInBounds_toArray, List.set_cons_zero, List.set_cons_succ])
        refine wpLinG_do (o := { dst := some 64, op := Go.Op.call { callee := Go.Callee.value (Go.Operand.func 4), args := #[Go.Operand.tmp 63], argTypes := #[28] }, type := 32, pos := "house.go:219", after := #[{ on := 4, ground := Go.Ground.data }], guard := none }) (by rw [hops]; rfl) (by first | exact trivial | rfl) (fun K hK => ?_)
        go_simp
        refine (KT.out _ hJ0.b).mono ?_
        rintro e X1 ⟨a1, l1, c1, L, rfl, hok1, hs1, hb1, hfr, _⟩
        have hJ1 := hJ0.later hb1
        have hf1 := set_fpt (s := wr.heap.size) hs1 (fun g o e => hfr g o e)
        replace hS := hJ1.cells
        clear hs1 hfr
        refine hK _ _ trivial hS ?_
        clear hK K
        (try simp only [Act.put, List.setIfInBounds_toArray, List.set_cons_zero, List.set_cons_succ])
        refine wpLinG_do (o := { dst := some 65, op := Go.Op.buildSlice 27 1 #[(0, Go.Operand.tmp 64)], type := 27, pos := "house.go:219", after := #[{ on := 5, ground := Go.Ground.data }], guard := none }) (by rw [hops]; rfl) (by first | exact trivial | rfl) (fun K hK => ?_)
        go_simp
        have hbA : Below X1.heap.size X1 (X1.alloc (.cells #[.slice a1 l1 c1] 32)) := (Below.refl _ X1).alloc (Nat.le_refl _) _
        have hJ2 := hJ1.later hbA
        replace hS := hJ2.cells
        have hf2 := hf1.later (Agree.below hbA (Nat.le_refl _)) hbA.size
        refine hK _ _ trivial hS ?_
        clear hK K
        (try simp only [Act.put, List.setIfInBounds_toArray, List.set_cons_zero, List.set_cons_succ])
        refine wpLinG_do (o := { dst := some 66, op := Go.Op.call { callee := Go.Callee.builtin Go.Builtin.append, args := #[Go.Operand.tmp 59, Go.Operand.tmp 65], argTypes := #[27, 27] }, type := 27, pos := "house.go:219", after := #[{ on := 0, ground := Go.Ground.data }, { on := 6, ground := Go.Ground.data }, { on := 5, ground := Go.Ground.chain }], guard := none }) (by rw [hops]; rfl) (by first | exact trivial | rfl) (fun K hK => ?_)
        have hzz := hJ2.z
        have hzg := hJ2.zg
        have hlt0 := HS0.out.gr.lt
        have hz1 := hb1.size
        obtain ⟨v', w', hrun, hG', hbl⟩ := run_push 27 hJ2.gr X1.heap.size 1 (cell_of_row _ _ 0 _ _ (0, 0) (World.alloc_heap_new X1 (.cells #[.slice a1 l1 c1] 32))) (s := wr.heap.size) (e := X1.heap.size) HS0.out.z hf2 (fun g' hg' => by have := (hlt0 g' hg').2; omega) (by have := HPP.out.1; omega) hJ2.z
        obtain ⟨va, vc, rfl⟩ := hG'.slice
        refine wp_run_app (.tmp 59) (.tmp 65) 27 27 rfl (by rfl) (by rfl) hrun ?_
        have hend := hJ2.ends hbl hG' HPP.out.2 ⟨hok1.1, by have := hok1.2; omega⟩
        have hpb := (hbl.block (w.heap.size + 1) (by omega)).trans hJ2.p
        have hcb := cell_of_row _ _ 0 _ _ (0, 0) hpb
        have hfb := frz hpb
        replace hS : w'.cell? ⟨w.heap.size + 1, 0, none⟩ = some (.slice la Ps.length lc) ∧ w'.cell? ⟨g, og + m, none⟩ = some (.slice a zs.length k) := ⟨hcb, (hbl.cell (show g < _ by omega)).trans hJ2.e⟩
        refine hK _ _ trivial hS ?_
        clear hK K
        (try simp only [Act.put, List.setIfInBounds_toArray, List.set_cons_zero, List.set_cons_succ])
        refine wpLinG_store (o := { dst := none, op := Go.Op.store 27 (Go.Operand.tmp 5) (Go.Operand.tmp 66), type := 0, pos := "house.go:219", after := #[{ on := 7, ground := Go.Ground.data }, { on := 7, ground := Go.Ground.chain }, { on := 0, ground := Go.Ground.phase }, { on := 1, ground := Go.Ground.phase }, { on := 2, ground := Go.Ground.phase }, { on := 3, ground := Go.Ground.phase }, { on := 4, ground := Go.Ground.phase }, { on := 5, ground := Go.Ground.phase }, { on := 6, ground := Go.Ground.phase }, { on := 7, ground := Go.Ground.phase }], guard := none }) (by rw [hops]; rfl) (by first | exact trivial | rfl) (fun K hK => ?_)
        go_simp
        refine hK _ _ trivial ?_
        clear hK K
        (try simp only [Act.put, List.setIfInBounds_toArray, List.set_cons_zero, List.set_cons_succ])
        subst hQ'
        refine NoPanic.normal ?_
        clear hops
        rw [HPP.out.1] at hend
        have HE := hide hend
        clear hend hJ0 hJ1 hJ2 hS hG' hbl hpb hcb hfb hf1 hf2 hrun hb1 HS0 KT HPP
        go_wp2
        go_roundw
        case rel => exact ⟨m + 1, by omega, by go_num, by have := HE.out; rw [List.length_append] at this; exact this⟩
        case measure => simp [intOf]; omega
    · obtain rfl : m = Zs.length := by omega
      have hmi : ¬ (Zs.length : Int) < (Zs.length : Int) := by omega
      obtain ⟨lv, Ps, hPl, hPs, hp, hgr⟩ := hJ.ex
      obtain ⟨la, lc, rfl⟩ := hgr.slice
      have hBJ := BJ.start hJ.x hp hgr hJ.b hJ.z
      have q6 : wr.cell? ⟨w.heap.size, 6, none⟩ = some (.int .i64 W.seats) := cell_of_row _ _ _ _ _ (0, 0) hJ.x
      have f6 := frz hJ.x
      have hPs1 : PsOk Ps := fun p hp => ⟨(hPs p hp).1, by have := (hPs p hp).2; omega⟩
      have KF := hide (fun X (h : Below w.heap.size w X) hps => pbfind_any W.bare mv sv la lc none 0 Ps [] X (HA.out.hd.later h) (HA.out.m.below h) (HA.out.s.below h) HA.out.wf hPs1 (by omega) hps (fun r hr => absurd hr (by simp)) (by simp) ⟨none, 0, rfl, fun j hj => absurd hj (Nat.not_lt_zero j)⟩)
      have KC := hide (fun X (h : Below w.heap.size w X) => pbcheck_any W.bare Ps.length mv sv X (HA.out.hd.later h) (HA.out.m.below h) (HA.out.s.below h) HA.out.wf)
      have HPS := hide (And.intro hPl hPs)
      clear hJ hp hgr hPl hPs hPs1
      unfold wantV PFindP at *
      go_upto_region 11 with fail
      obtain ⟨X1, hX1⟩ : ∃ X1, wr.setCell ⟨w.heap.size, 6, none⟩ (.int .i64 0) = X1 := ⟨_, rfl⟩
      rw [hX1] at hBJ ⊢
      clear hX1 q6 f6
      obtain ⟨c0, c1, c2, c3, c4, c5, c6, c7⟩ := hBJ.cells
      have HB1 := hide hBJ
      clear hBJ
      obtain ⟨R, hR⟩ : ∃ R, W.bare.ans Ps [] = R := ⟨_, rfl⟩
      rw [hR] at KF
      have HR := hide hR
      clear hR
      go_wp2_with (first
        | (go_at_call 5; refine (KF.out X1 HB1.out.b HB1.out.ps).mono ?_; rintro e X2 ⟨r, rfl, hr2, hb2⟩; (obtain ⟨ra, rk, rfl⟩ := own_len hr2); (have hB3 := (HB1.out.later hb2).later ((Below.refl X2.heap.size X2).alloc (Nat.le_refl _) (.cells #[.int .i64 (mtA R.2), .int .i64 (mtR R.2), .slice ra (mtM R.2).length rk] 35))); (obtain ⟨d0, d1, d2, d3, d4, d5, d6, d7⟩ := hB3.cells); (have HB3 := hide hB3); (have HR2 := hide hr2); clear hB3 hr2 hb2 c0 c1 c2 c3 c4 c5 c6 c7)
        | fail)
      refine (KC.out _ HB3.out.b).mono ?_
      rintro e X4 ⟨rfl, hb4⟩
      have hsl := (hb4.block X2.heap.size (by simp)).trans (World.alloc_heap_new X2 (.cells #[.int .i64 (mtA R.2), .int .i64 (mtR R.2), .slice ra (mtM R.2).length rk] 35))
      have hB4 := HB3.out.later hb4
      have hz2 := HB3.out.z
      obtain ⟨c0, c1, c2, c3, c4, c5, c6, c7⟩ := hB4.cells
      clear d0 d1 d2 d3 d4 d5 d6 d7 hb4
      by_cases hc0 : W.bare.chk Ps.length = 0
      · have hg := (W.bare.chk_iff _).1 hc0
        obtain ⟨hDe, hqe, _⟩ := q_good hg HQ.out.1 HQ.out.2
        have hIm : ∀ X, Below w.heap.size w X → IsAt X mv W.bare.must := fun X h => HA.out.m.below h
        have hIs : ∀ X, Below w.heap.size w X → IsAt X sv W.bare.should := fun X h => HA.out.s.below h
        have hD1 : wrap64 (W.bare.to' - W.bare.from') = D := HQ.out.1
        have hq1 : wrap64 (D.tdiv W.bare.step) = q := HQ.out.2
        have hse : W.bare.seats = 0 := rfl
        have n7 : ¬ 400 < (W.bare.to' - W.bare.from') / W.bare.step := by show ¬ 400 < (W.to' - W.from') / W.step; omega
        have hans : R = (if (W.bare.fndN Ps [] W.bare.many).isSome = true then 0 else 12, W.bare.fndN Ps [] W.bare.many) := by rw [← HR.out]; exact if_pos hc0
        obtain ⟨M, hM⟩ : ∃ M, W.bare.fndN Ps [] W.bare.many = M := ⟨_, rfl⟩
        obtain ⟨E, hE⟩ : ∃ E : Int, (if M.isSome = true then 0 else 12) = E := ⟨_, rfl⟩
        rw [hM, hE] at hans
        obtain ⟨R1, R2⟩ := R
        obtain ⟨rfl, rfl⟩ := Prod.mk.inj hans
        rw [hc0]
        clear hans
        clear hDe hqe HR KF KC HB1 HB3 hc0 HQ
        generalize W.bare = V at *
        have HG := hide (And.intro hg (And.intro hse (And.intro hM hE)))
        have HIA := hide (And.intro hIm hIs)
        have hl1 := hg.l1
        have hl2 := hg.l2
        have hs1 := hg.s1
        have hft := hg.ft
        have hf1 := hg.f1
        have ht1 := hg.t1
        have hst : V.step ≠ 0 := by omega
        have hp12 : Ps.length ≤ 12 := by rw [HPS.out.1]; exact HA.out.l
        have hsm := hg.small
        have hlm : V.must.length ≤ 1000000000000 := by omega
        have hls : V.should.length ≤ 1000000000000 := by omega
        clear hsm hp12
        have n1 : ¬ V.len < 1 := by omega
        have n2 : ¬ V.step < 1 := by omega
        have n3 : ¬ V.to' < V.from' := by omega
        have n4 : ¬ V.from' < -345600086399 := by omega
        have n5 : ¬ 345600086399 < V.to' := by omega
        have n6 : ¬ 400 < q := by omega
        clear hg hIm hIs hse hM hE
        have HB4 := hide (And.intro hB4 hsl)
        clear hB4 hsl
        go_wp2_with fail
        have hJ0 := HB4.out.1.later (Below.refl _ X4).drew
        have hS : X4.drew.cell? ⟨w.heap.size, 4, none⟩ = some mv ∧ X4.drew.cell? ⟨w.heap.size, 5, none⟩ = some sv := ⟨hJ0.cells.2.2.2.2.1, hJ0.cells.2.2.2.2.2.1⟩
        clear c0 c1 c2 c3 c4 c5 c6 c7
        refine wp_region_noPanic ?_
        refine wp_region_linGM (S := fun X => X.cell? ⟨w.heap.size, 4, none⟩ = some mv ∧ X.cell? ⟨w.heap.size, 5, none⟩ = some sv) (R := fun _ => True) [] (by kernel_rfl) (by kernel_rfl) [(1, none, 1), (2, none, 0), (4, none, 1), (5, none, 0), (8, none, 1), (0, none, 2), (3, none, 2), (6, none, 2), (7, none, 1)] (by kernel_rfl) (by kernel_rfl) (fun _ _ _ _ _ h => h) (by exact trivial) (by exact hS) (fun ops' Q' hops hQ' => ?_)
        refine wpLinG_pure (o := { dst := some 120, op := Go.Op.fieldAddr 25 (Go.Operand.tmp 2) 4, type := 0, pos := "house.go:229", after := #[], guard := none }) (v := ?vy0) (by rw [hops]; rfl) (by first | exact trivial | rfl) ?ey0 ?hy0
        case ey0 => intro w'; go_simp; (try rfl)
        (try simp only [Act.put, List.setIfInBounds_toArray, List.set_cons_zero, List.set_cons_succ])
        refine wpLinG_read (o := { dst := some 121, op := Go.Op.load 23 (Go.Operand.tmp 120), type := 23, pos := "house.go:229", after := #[{ on := 1, ground := Go.Ground.data }], guard := none }) (v := ?vy1) (by rw [hops]; rfl) (by first | exact trivial | rfl) hS ?ey1 ?hy1
        case ey1 => intro w' hw'; obtain ⟨e1, e2⟩ := hw'; go_simp; (try rfl)
        (try simp only [Act.put, List.setIfInBounds_toArray, List.set_cons_zero, List.set_cons_succ])
        refine wpLinG_pure (o := { dst := some 123, op := Go.Op.fieldAddr 25 (Go.Operand.tmp 2) 5, type := 0, pos := "house.go:229", after := #[], guard := none }) (v := ?vy2) (by rw [hops]; rfl) (by first | exact trivial | rfl) ?ey2 ?hy2
        case ey2 => intro w'; go_simp; (try rfl)
        (try simp only [Act.put, List.setIfInBounds_toArray, List.set_cons_zero, List.set_cons_succ])
        refine wpLinG_read (o := { dst := some 124, op := Go.Op.load 23 (Go.Operand.tmp 123), type := 23, pos := "house.go:229", after := #[{ on := 4, ground := Go.Ground.data }], guard := none }) (v := ?vy3) (by rw [hops]; rfl) (by first | exact trivial | rfl) hS ?ey3 ?hy3
        case ey3 => intro w' hw'; obtain ⟨e1, e2⟩ := hw'; go_simp; (try rfl)
        (try simp only [Act.put, List.setIfInBounds_toArray, List.set_cons_zero, List.set_cons_succ])
        refine wpLinG_pure (o := { dst := some 127, op := Go.Op.move (Go.Operand.const (Go.Value.int Go.IntKind.i64 0)), type := 3, pos := "house.go:229", after := #[], guard := none }) (v := ?vy4) (by rw [hops]; rfl) (by first | exact trivial | rfl) ?ey4 ?hy4
        case ey4 => intro w'; go_simp; (try rfl)
        (try simp only [Act.put, List.setIfInBounds_toArray, List.set_cons_zero, List.set_cons_succ])
        refine wpLinG_do (o := { dst := some 119, op := Go.Op.buildSlice 23 0 #[], type := 23, pos := "house.go:229", after := #[], guard := none }) (by rw [hops]; rfl) (by first | exact trivial | rfl) (fun K hK => ?_)
        go_simp
        have hbA : Below X4.heap.size X4 (X4.drew.alloc (.cells #[] 3)) := ((Below.refl _ X4).drew).alloc (Nat.le_refl _) _
        have hJ1 := HB4.out.1.later hbA
        replace hS : (X4.drew.alloc (.cells #[] 3)).cell? ⟨w.heap.size, 4, none⟩ = some mv ∧ (X4.drew.alloc (.cells #[] 3)).cell? ⟨w.heap.size, 5, none⟩ = some sv := ⟨hJ1.cells.2.2.2.2.1, hJ1.cells.2.2.2.2.2.1⟩
        refine hK _ _ trivial hS ?_
        clear hK K
        (try simp only [Act.put, List.setIfInBounds_toArray, List.set_cons_zero, List.set_cons_succ])
        refine wpLinG_do (o := { dst := some 122, op := Go.Op.call { callee := Go.Callee.builtin Go.Builtin.append, args := #[Go.Operand.tmp 119, Go.Operand.tmp 121], argTypes := #[23, 23] }, type := 23, pos := "house.go:229", after := #[{ on := 0, ground := Go.Ground.data }, { on := 2, ground := Go.Ground.data }], guard := none }) (by rw [hops]; rfl) (by first | exact trivial | rfl) (fun K hK => ?_)
        obtain ⟨v1, w1, hrun1, ho1, hb1⟩ := run_app_ints (L := []) (zs := V.must) 23 (own_empty X4.drew) (HIA.out.1 _ hJ1.b) HA.out.fm (by simp) hlm (by rw [World.size_alloc]; exact Nat.le_succ _)
        have hbB : Below X4.heap.size X4 w1 := hbA.trans hb1
        have hJ2 := HB4.out.1.later hbB
        obtain ⟨nq, hnq⟩ : ∃ nq, ([] ++ V.must).length = nq := ⟨_, rfl⟩
        obtain ⟨a1, k1, hv1⟩ := own_len ho1
        rw [hnq] at hv1
        subst hv1
        refine wp_run_app (.tmp 119) (.tmp 121) 23 23 rfl (by rfl) (by rfl) hrun1 ?_
        replace hS : w1.cell? ⟨w.heap.size, 4, none⟩ = some mv ∧ w1.cell? ⟨w.heap.size, 5, none⟩ = some sv := ⟨hJ2.cells.2.2.2.2.1, hJ2.cells.2.2.2.2.2.1⟩
        refine hK _ _ trivial hS ?_
        clear hK K
        (try simp only [Act.put, List.setIfInBounds_toArray, List.set_cons_zero, List.set_cons_succ])
        refine wpLinG_do (o := { dst := some 125, op := Go.Op.call { callee := Go.Callee.builtin Go.Builtin.append, args := #[Go.Operand.tmp 122, Go.Operand.tmp 124], argTypes := #[23, 23] }, type := 23, pos := "house.go:229", after := #[{ on := 3, ground := Go.Ground.data }, { on := 5, ground := Go.Ground.data }, { on := 3, ground := Go.Ground.chain }], guard := none }) (by rw [hops]; rfl) (by first | exact trivial | rfl) (fun K hK => ?_)
        obtain ⟨v2, w2, hrun2, ho2, hb2⟩ := run_app_ints (L := [] ++ V.must) (zs := V.should) 23 ho1 (HIA.out.2 _ hJ2.b) HA.out.fs (by simpa using hlm) hls hbB.size
        have hbC : Below X4.heap.size X4 w2 := hbB.trans hb2
        have hJ3 := HB4.out.1.later hbC
        obtain ⟨nn, hnn⟩ : ∃ nn, ([] ++ V.must ++ V.should).length = nn := ⟨_, rfl⟩
        obtain ⟨a2, k2, hv2⟩ := own_len ho2
        rw [hnn] at hv2
        subst hv2
        refine wp_run_app (.tmp 122) (.tmp 124) 23 23 rfl (by rfl) (by rfl) hrun2 ?_
        replace hS : w2.cell? ⟨w.heap.size, 4, none⟩ = some mv ∧ w2.cell? ⟨w.heap.size, 5, none⟩ = some sv := ⟨hJ3.cells.2.2.2.2.1, hJ3.cells.2.2.2.2.2.1⟩
        refine hK _ _ trivial hS ?_
        clear hK K
        (try simp only [Act.put, List.setIfInBounds_toArray, List.set_cons_zero, List.set_cons_succ])
        refine wpLinG_pure (o := { dst := some 126, op := Go.Op.call { callee := Go.Callee.builtin Go.Builtin.len, args := #[Go.Operand.tmp 125], argTypes := #[23] }, type := 3, pos := "house.go:229", after := #[{ on := 6, ground := Go.Ground.data }], guard := none }) (v := ?vy8) (by rw [hops]; rfl) (by first | exact trivial | rfl) ?ey8 ?hy8
        case ey8 => intro w'; go_simp; (try rfl)
        (try simp only [Act.put, List.setIfInBounds_toArray, List.set_cons_zero, List.set_cons_succ])
        subst hQ'
        refine NoPanic.normal ?_
        clear hops
        have hmem : ∀ x ∈ [] ++ V.must ++ V.should, 0 ≤ x ∧ x < (Ps.length : Int) := fun x hx => HG.out.1.mem (by simpa using hx)
        obtain ⟨all, hall⟩ : ∃ all, [] ++ V.must ++ V.should = all := ⟨_, rfl⟩
        have hal : all.length ≤ 2000000000000 := by rw [← hall]; simp; omega
        have hsl5 := (hbC.block X2.heap.size (Array.getElem?_eq_some_iff.1 HB4.out.2).1).trans HB4.out.2
        rw [hall] at ho2 hmem
        obtain rfl : nn = all.length := by rw [← hnn, hall]
        have hel : ∀ j, j < all.length → ∃ g o, a2 = some ⟨g, o, none⟩ ∧ w2.cell? ⟨g, o + j, none⟩ = some (.int .i64 (all.getD j 0)) := by
          have h' := ho2
          rcases ho2.2 with ⟨e, e0⟩ | ⟨g, cap, cur, e, _⟩
          · exact fun j hj => by omega
          · refine fun j hj => ?_
            simp only [Value.slice.injEq] at e
            refine ⟨g, 0, e.1, ?_⟩
            rw [e.1] at h'
            rw [Nat.zero_add, h'.cellAt j (by omega), List.getElem?_map, List.getElem?_eq_getElem hj, getD_at all j 0 hj]; rfl
        have HJ := hide (And.intro hJ3 (And.intro hsl5 (And.intro hel hmem)))
        obtain ⟨c0, c1, c2, c3, c4, c5, c6, c7⟩ := hJ3.cells
        clear hJ0 hJ1 hJ2 hJ3 hbA hbB hbC hb1 hb2 ho1 ho2 hrun1 hrun2 hS hsl5 hel hmem hall hnn hnq
        go_wp2_with fail
        go_loopw [127] (fun i wx => ∃ k : Nat, k ≤ all.length ∧ i = .int .i64 k ∧ w2 = wx) (fun i _ => all.length - (intOf i).toNat)
        case atStart => exact ⟨0, by omega, rfl, rfl⟩
        case round =>
          obtain ⟨k, hk, rfl, rfl⟩ := hrel
          by_cases hlt : k < all.length
          · have hki : (k : Int) < (all.length : Int) := by omega
            obtain ⟨g, og, rfl, hx⟩ := HJ.out.2.2.1 k hlt
            have hb := HJ.out.2.2.2 (all.getD k 0) (by rw [getD_at all k 0 hlt]; exact List.getElem_mem hlt)
            generalize all.getD k 0 = x at *
            have hx1 : ¬ x < 0 := by omega
            have hx2 : ¬ (Ps.length : Int) ≤ x := by omega
            go_wp2
            go_roundw
            case rel => exact ⟨k + 1, by omega, by go_num, by first | rfl | trivial⟩
            case measure => simp [intOf]; omega
          · obtain rfl : k = all.length := by omega
            have hki : ¬ (all.length : Int) < (all.length : Int) := by omega
            have HW := hide (And.intro HJ.out.1 HJ.out.2.1)
            have hPs2 : ∀ p ∈ Ps, InvL p ∧ p.length ≤ 1000 := fun p hp => ⟨(HPS.out.2 p hp).1, by have := (HPS.out.2 p hp).2; omega⟩
            have KM := hide (fun (t : Int) (who : List Int) (v : Value) (h1 : -1000000000000 ≤ t) (h2 : t ≤ 1000000000000) (hw : ∀ x ∈ who, 0 ≤ x ∧ x < (Ps.length : Int)) (X : World) (hb : BJ V mv sv w la lc Ps X) (hi : IsAt X v who) => bmiss_any (w.heap.size + 1) w.heap.size t V.len h1 h2 (by omega) (by omega) la lc Ps hPs2 who hw v X hi hb.ps hb.cells.2.2.2.2.2.2.2 hb.cells.1)
            have hmany := HG.out.1.many_le
            clear HJ c4 c5 c6 c7 hk hlt hki
            go_wp2_with fail
            go_loopw [13, 14, 15] (fun f p mo wr => ∃ k : Nat, k ≤ V.many ∧ f = .bool (seenB V Ps R2 k) ∧ (BJ V mv sv w la lc Ps wr ∧ wr.heap[X2.heap.size]? = some (.cells #[.int .i64 (mtA R2), .int .i64 (mtR R2), .slice ra (mtM R2).length rk] 35 (0, 0))) ∧
              ((k < V.many ∧ p = .int .i64 (V.at' k) ∧ mo = .bool true) ∨ (k = V.many ∧ ((∃ z, p = .int .i64 z ∧ mo = .bool false) ∨ (p = .int .i64 (V.at' k) ∧ mo = .bool true ∧ V.at' k ≤ V.to'))))) (fun _ p mo _ => muB V.to' p mo)
            case atStart =>
              have e0 : V.at' 0 = V.from' := by unfold Wn.at'; simp
              refine ⟨0, by omega, rfl, HW.out, ?_⟩
              rw [e0]
              by_cases h : 0 < V.many
              · exact .inl ⟨h, rfl, rfl⟩
              · exact .inr ⟨by omega, .inr ⟨rfl, rfl, hft⟩⟩
            case round =>
              obtain ⟨k, hk, hf, ⟨hJ, hsl⟩, hcase⟩ := hrel
              have hfin : ∀ f, k = V.many → f = Value.bool (seenB V Ps R2 k) → (R2.isSome = true ∧ R1 = 0 ∧ f = .bool true) ∨ (R2.isSome = false ∧ R1 = 12 ∧ f = .bool false) := fun f hkm hf => by
                have h := seen_all V Ps HG.out.1.nodup V.many
                rw [HG.out.2.2.1] at h
                rw [hkm, h] at hf
                have hE := HG.out.2.2.2
                cases hi : R2.isSome
                · rw [hi] at hf hE; exact .inr ⟨rfl, by simpa using hE.symm, hf⟩
                · rw [hi] at hf hE; exact .inl ⟨rfl, by simpa using hE.symm, hf⟩
              rcases hcase with ⟨hlt, rfl, rfl⟩ | ⟨hkm, ⟨z, rfl, rfl⟩ | ⟨rfl, rfl, hle⟩⟩
              · clear hfin
                have hmi := (V.many_iff (by omega) k).1 hlt
                have hlo : V.from' ≤ V.at' k := by unfold Wn.at'; have : (0 : Int) ≤ k * V.step := Int.mul_nonneg (by omega) (by omega); omega
                have hnx := next_at V k hlt hs1 hl1
                have hbest : (V.must.filter (bads (V.at' k) V.len Ps)).length = 0 → ∃ a, R2 = some a ∧ a.2.2.length ≤ (V.should.filter (bads (V.at' k) V.len Ps)).length ∧ ((V.should.filter (bads (V.at' k) V.len Ps)).length = a.2.2.length → a.1 ≤ V.at' k) := fun h => by
                  have := best_all V Ps HG.out.2.1 HG.out.1.nodup V.many k hlt h (by omega)
                  rw [HG.out.2.2.1] at this
                  exact this
                have hse : (∀ a, R2 = some a → seenB V Ps R2 (k + 1) = (seenB V Ps R2 k || (decide ((V.must.filter (bads (V.at' k) V.len Ps)).length = 0) && (decide (V.at' k = a.1) && decide ((V.should.filter (bads (V.at' k) V.len Ps)).length = a.2.2.length))))) ∧ ((V.must.filter (bads (V.at' k) V.len Ps)).length ≠ 0 → seenB V Ps R2 (k + 1) = seenB V Ps R2 k) :=
                  ⟨fun a h => by rw [h]; exact seenB_some V Ps a k, seenB_no V Ps R2 k⟩
                have hmw : ∀ x ∈ V.must, 0 ≤ x ∧ x < (Ps.length : Int) := fun x h => HG.out.1.mem (.inl h)
                have hsw : ∀ x ∈ V.should, 0 ≤ x ∧ x < (Ps.length : Int) := fun x h => HG.out.1.mem (.inr h)
                have hc1 : ∀ b : Bool, decide (V.step ≤ V.to' - V.at' k) = b → ((k + 1 < V.many ∧ Value.int .i64 (wrap64 (V.at' k + V.step)) = .int .i64 (V.at' (k + 1)) ∧ Value.bool b = .bool true) ∨ (k + 1 = V.many ∧ ((∃ z, Value.int .i64 (wrap64 (V.at' k + V.step)) = .int .i64 z ∧ Value.bool b = .bool false) ∨ (Value.int .i64 (wrap64 (V.at' k + V.step)) = .int .i64 (V.at' (k + 1)) ∧ Value.bool b = .bool true ∧ V.at' (k + 1) ≤ V.to')))) ∧
                    muB V.to' (.int .i64 (wrap64 (V.at' k + V.step))) (.bool b) < muB V.to' (.int .i64 (V.at' k)) (.bool true) := fun b hb => by
                  rcases hnx with ⟨n1, n2, n3⟩ | ⟨n1, n2⟩
                  · have e : wrap64 (V.at' k + V.step) = V.at' (k + 1) := by rw [n2, wrap64_id] <;> omega
                    obtain rfl : b = true := by rw [← hb]; exact decide_eq_true n1
                    rw [e]
                    refine ⟨?_, ?_⟩
                    · by_cases h : k + 1 < V.many
                      · exact .inl ⟨h, rfl, rfl⟩
                      · exact .inr ⟨by omega, .inr ⟨rfl, rfl, n3⟩⟩
                    · show (V.to' - V.at' (k + 1)).toNat + 2 < (V.to' - V.at' k).toNat + 2
                      omega
                  · obtain rfl : b = false := by rw [← hb]; exact decide_eq_false n1
                    refine ⟨.inr ⟨n2, .inl ⟨_, rfl, rfl⟩⟩, ?_⟩
                    show 0 < (V.to' - V.at' k).toNat + 2
                    omega
                have K1 := hide (KM.out (V.at' k) V.must mv (by omega) (by omega) hmw wr hJ (HIA.out.1 _ hJ.b))
                have K2 := hide (fun X hj => KM.out (V.at' k) V.should sv (by omega) (by omega) hsw X hj (HIA.out.2 _ hj.b))
                obtain ⟨c0, c1, c2, c3, c4, c5, c6, c7⟩ := hJ.cells
                generalize (V.must.filter (bads (V.at' k) V.len Ps)).length = cm at *
                generalize (V.should.filter (bads (V.at' k) V.len Ps)).length = cs at *
                have hw1 : wrap64 (V.at' k + V.len) = V.at' k + V.len := by rw [wrap64_id] <;> omega
                have hw2 : wrap64 (V.to' - V.at' k) = V.to' - V.at' k := by rw [wrap64_id] <;> omega
                obtain ⟨b, hbd⟩ : ∃ b, decide (V.step ≤ V.to' - V.at' k) = b := ⟨_, rfl⟩
                have HC := hide (hc1 b hbd).1
                have HM := hide (hc1 b hbd).2
                have HJ0 := hide (And.intro hJ hsl)
                have HS := hide (And.intro hse hbest)
                have HK := hide hlt
                clear hc1 hnx hse hbest hJ hsl hmw hsw KM hlt
                generalize hsb : seenB V Ps R2 k = sb at *
                subst hf
                go_wp2_with fail
                refine K1.out.mono ?_
                rintro e W3 ⟨rfl, hb3⟩
                have hJ3 := HJ0.out.1.later hb3
                have hsl3 := (hb3.block X2.heap.size (Array.getElem?_eq_some_iff.1 HJ0.out.2).1).trans HJ0.out.2
                clear c0 c1 c2 c3 c4 c5 c6 c7 hb3
                obtain ⟨c0, c1, c2, c3, c4, c5, c6, c7⟩ := hJ3.cells
                by_cases hm0 : cm = 0
                · subst hm0
                  obtain ⟨⟨a1, a2', ms⟩, rfl, hle, hat⟩ := HS.out.2 rfl
                  dsimp only at hle hat
                  have hR1 : R1 = 0 := by have := HG.out.2.2.2; simpa using this.symm
                  subst hR1
                  have K3 := hide (K2.out W3 hJ3)
                  have HJ3 := hide (And.intro hJ3 hsl3)
                  clear hJ3 hsl3 K2 K1
                  go_wp2_with fail
                  refine K3.out.mono ?_
                  rintro e W4 ⟨rfl, hb4⟩
                  have hJ4 := HJ3.out.1.later hb4
                  have hsl4 := (hb4.block X2.heap.size (Array.getElem?_eq_some_iff.1 HJ3.out.2).1).trans HJ3.out.2
                  clear c0 c1 c2 c3 c4 c5 c6 c7 hb4 K3
                  obtain ⟨c0, c1, c2, c3, c4, c5, c6, c7⟩ := hJ4.cells
                  have y0 : W4.cell? ⟨X2.heap.size, 0, none⟩ = some (.int .i64 a1) := cell_of_row _ _ _ _ _ (0, 0) hsl4
                  have y2 : W4.cell? ⟨X2.heap.size, 2, none⟩ = some (.slice ra ms.length rk) := cell_of_row _ _ _ _ _ (0, 0) hsl4
                  have HJ4 := hide (And.intro hJ4 hsl4)
                  have hse := HS.out.1.1 (a1, a2', ms) rfl
                  have hse2 : seenB V Ps (some (a1, a2', ms)) (k + 1) = (sb || (decide (V.at' k = a1) && decide (cs = ms.length))) := by
                    rw [hse]; simp
                  have HE := hide hse2
                  have h0 : ¬ (cs : Int) < (ms.length : Int) := by omega
                  have HL := hide hat
                  clear hJ4 hsl4 hse hse2 hle hat
                  by_cases he : cs = ms.length
                  · have hta : ¬ V.at' k < a1 := by have := HL.out he; omega
                    subst he
                    by_cases ht : V.at' k = a1
                    · subst ht
                      cases sb
                      · go_wp2_with fail
                        go_quiet (fail)
                        have hJn := HJ4.out.1.later (bdr (Below.refl W4.heap.size W4) nq)
                        have hSn : (W4.drewN nq).heap[X2.heap.size]? = _ := HJ4.out.2
                        have HN := hide (And.intro hJn hSn)
                        clear hJn hSn
                        go_wp2
                        go_roundw
                        case rel => exact ⟨k + 1, HK.out, by rw [HE.out]; simp, HN.out, HC.out⟩
                        case measure => exact HM.out
                      · go_wp2_with fail
                        go_quiet (fail)
                        have hJn := HJ4.out.1.later (bdr (Below.refl W4.heap.size W4) nq)
                        have hSn : (W4.drewN nq).heap[X2.heap.size]? = _ := HJ4.out.2
                        have HN := hide (And.intro hJn hSn)
                        clear hJn hSn
                        go_wp2
                        go_roundw
                        case rel => exact ⟨k + 1, HK.out, by rw [HE.out]; simp, HN.out, HC.out⟩
                        case measure => exact HM.out
                    · cases sb
                      · go_wp2_with fail
                        go_quiet (fail)
                        have hJn := HJ4.out.1.later (bdr (Below.refl W4.heap.size W4) nq)
                        have hSn : (W4.drewN nq).heap[X2.heap.size]? = _ := HJ4.out.2
                        have HN := hide (And.intro hJn hSn)
                        clear hJn hSn
                        go_wp2
                        go_roundw
                        case rel => exact ⟨k + 1, HK.out, by rw [HE.out]; simp [ht], HN.out, HC.out⟩
                        case measure => exact HM.out
                      · go_wp2_with fail
                        go_quiet (fail)
                        have hJn := HJ4.out.1.later (bdr (Below.refl W4.heap.size W4) nq)
                        have hSn : (W4.drewN nq).heap[X2.heap.size]? = _ := HJ4.out.2
                        have HN := hide (And.intro hJn hSn)
                        clear hJn hSn
                        go_wp2
                        go_roundw
                        case rel => exact ⟨k + 1, HK.out, by rw [HE.out]; simp, HN.out, HC.out⟩
                        case measure => exact HM.out
                  · have hei : ¬ (cs : Int) = (ms.length : Int) := fun h => he (by omega)
                    by_cases ht : V.at' k = a1
                    · subst ht
                      cases sb
                      · go_wp2_with fail
                        go_quiet (fail)
                        have hJn := HJ4.out.1.later (bdr (Below.refl W4.heap.size W4) nq)
                        have hSn : (W4.drewN nq).heap[X2.heap.size]? = _ := HJ4.out.2
                        have HN := hide (And.intro hJn hSn)
                        clear hJn hSn
                        go_wp2
                        go_roundw
                        case rel => exact ⟨k + 1, HK.out, by rw [HE.out]; simp [he]; try exact hei, HN.out, HC.out⟩
                        case measure => exact HM.out
                      · go_wp2_with fail
                        go_quiet (fail)
                        have hJn := HJ4.out.1.later (bdr (Below.refl W4.heap.size W4) nq)
                        have hSn : (W4.drewN nq).heap[X2.heap.size]? = _ := HJ4.out.2
                        have HN := hide (And.intro hJn hSn)
                        clear hJn hSn
                        go_wp2
                        go_roundw
                        case rel => exact ⟨k + 1, HK.out, by rw [HE.out]; simp, HN.out, HC.out⟩
                        case measure => exact HM.out
                    · cases sb
                      · go_wp2_with fail
                        go_quiet (fail)
                        have hJn := HJ4.out.1.later (bdr (Below.refl W4.heap.size W4) nq)
                        have hSn : (W4.drewN nq).heap[X2.heap.size]? = _ := HJ4.out.2
                        have HN := hide (And.intro hJn hSn)
                        clear hJn hSn
                        go_wp2
                        go_roundw
                        case rel => exact ⟨k + 1, HK.out, by rw [HE.out]; simp [he]; try exact hei, HN.out, HC.out⟩
                        case measure => exact HM.out
                      · go_wp2_with fail
                        go_quiet (fail)
                        have hJn := HJ4.out.1.later (bdr (Below.refl W4.heap.size W4) nq)
                        have hSn : (W4.drewN nq).heap[X2.heap.size]? = _ := HJ4.out.2
                        have HN := hide (And.intro hJn hSn)
                        clear hJn hSn
                        go_wp2
                        go_roundw
                        case rel => exact ⟨k + 1, HK.out, by rw [HE.out]; simp, HN.out, HC.out⟩
                        case measure => exact HM.out
                · have hmp : (0 : Int) < (cm : Int) := by omega
                  have hse2 : seenB V Ps R2 (k + 1) = sb := HS.out.1.2 hm0
                  have HE := hide hse2
                  have HJ3 := hide (And.intro hJ3 hsl3)
                  clear hse2 hJ3 hsl3 K1 K2 HS
                  go_wp2_with fail
                  go_quiet (fail)
                  have hJn := HJ3.out.1.later (bdr (Below.refl W3.heap.size W3) nq)
                  have hSn : (W3.drewN nq).heap[X2.heap.size]? = _ := HJ3.out.2
                  have HN := hide (And.intro hJn hSn)
                  clear hJn hSn
                  go_wp2
                  go_roundw
                  case rel => exact ⟨k + 1, HK.out, by rw [HE.out], HN.out, HC.out⟩
                  case measure => exact HM.out
              · have hB := hide hJ.b
                rcases hfin _ hkm hf with ⟨_, rfl, rfl⟩ | ⟨_, rfl, rfl⟩
                · clear hfin hf hJ hsl
                  go_wp2
                  go_ret
                  exact ⟨rfl, hB.out⟩
                · clear hfin hf hJ hsl
                  go_wp2
                  go_ret
                  exact ⟨rfl, hB.out⟩
              · have hB := hide hJ.b
                have hmi := V.many_iff (by omega) k
                have hno : ¬ V.at' k + V.len ≤ V.to' := fun h => by have := hmi.2 h; omega
                have hlo : V.from' ≤ V.at' k := by unfold Wn.at'; have : (0 : Int) ≤ k * V.step := Int.mul_nonneg (by omega) (by omega); omega
                obtain ⟨c0, c1, c2, c3, c4, c5, c6, c7⟩ := hJ.cells
                generalize V.at' k = t at *
                have hw1 : wrap64 (t + V.len) = t + V.len := by rw [wrap64_id] <;> omega
                rcases hfin _ hkm hf with ⟨_, rfl, rfl⟩ | ⟨_, rfl, rfl⟩
                · clear hfin hf hJ hsl
                  go_wp2
                  go_ret
                  exact ⟨rfl, hB.out⟩
                · clear hfin hf hJ hsl
                  go_wp2
                  go_ret
                  exact ⟨rfl, hB.out⟩
      · have hRR : R = (W.bare.chk Ps.length, none) := by rw [← HR.out]; exact if_neg hc0
        have HB4 := hide hB4.b
        clear hB4 hsl
        subst hRR
        generalize W.bare.chk Ps.length = C at *
        go_wp2
        go_ret
        exact ⟨by simp, HB4.out⟩
end Go.Proofs.YtabgoicholknoaaDoor
