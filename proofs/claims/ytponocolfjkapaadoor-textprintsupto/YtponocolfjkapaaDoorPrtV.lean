/- The law TextPrints. -/
import Derived.Test.YtponocolfjkapaaDoorPrtU
import Derived.Deep.RegionHeld3
namespace Go.Proofs.YtponocolfjkapaaDoor
open Go.RowKit Go.Shelf
set_option linter.unusedVariables false
set_option linter.unusedSimpArgs false

set_option maxRecDepth 100000 in
set_option maxHeartbeats 8000000 in
theorem textprints_walk (t : PPt) (v : Value) (w : World) (hd : Hd w) (h : PtM t v w) (hz : ptz t ≤ 10000000) :
    Calls Tryd.prog 3 #[v] w fun e w' => e = .returned (.bool true) ∧ Below w.heap.size w w' := by
  have K1 := hide (fun (X : World) (hx : Below w.heap.size w X) => ptextPrint_any t v X (hd.later hx) (PtM.later hx _ _ h) hz)
  have K2 := hide (fun (X : World) (hx : Below w.heap.size w X) => rprint_any t v X (PtM.later hx _ _ h) hz)
  have K3 := hide (fun (X : World) (hx : Below w.heap.size w X) => ptextCheck_any t v X (hd.later hx) (PtM.later hx _ _ h))
  have K4 := hide (fun (X : World) (hx : Below w.heap.size w X) => rPartCheck_any t v X (PtM.later hx _ _ h))
  obtain ⟨nm, A, n, c, A2, n2, c2, rfl⟩ := h.agg
  clear h hd
  generalize prT t = T at *
  generalize eT t = k at *
  have HX := hide (show TpS w #[.string nm, .slice A n c, .slice A2 n2 c2] (w.alloc (.cells #[.string nm, .slice A n c, .slice A2 n2 c2] 25)) from ⟨World.alloc_heap_new w _, (Below.refl _ w).alloc (Nat.le_refl _) _⟩)
  have hkk : ((k : Int) == k) = true := by simp
  have hTT : (T.toList == T.toList) = true := by simp
  go_enter Tryd.func3, Tryd.ntmps3
  go_wp2_with fail
  refine (K1.out _ HX.out.2).mono ?_
  rintro e W1 ⟨rfl, b1⟩
  have hX1 := HX.out.later b1
  obtain ⟨c0, c1, c2'⟩ := hX1.cells
  have HX1 := hide hX1
  clear b1 hX1 HX K1
  go_wp2_with fail
  refine (K2.out _ HX1.out.2).mono ?_
  rintro e W2 ⟨rfl, b2⟩
  clear c0 c1 c2'
  have hS := HX1.out.later b2
  clear b2 HX1 K2
  go_upto_region 3 with fail
  clear hkk hTT
  replace hS : TpS w #[.string nm, .slice A n c, .slice A2 n2 c2] W2.drew := ⟨hS.1, hS.2.drew⟩
  refine wp_region_noPanic ?_
  refine wp_region_linGM (S := TpS w #[.string nm, .slice A n c, .slice A2 n2 c2]) (R := fun _ => True) [] (by kernel_rfl) (by kernel_rfl) [(0, none, 0), (2, none, 0), (1, none, 2), (3, none, 2), (4, none, 1), (5, none, 1), (6, some (22, true), 1), (7, some (22, true), 1), (8, some (22, true), 1), (9, none, 1), (10, none, 1), (11, some (27, true), 1), (12, some (27, true), 1), (13, some (27, true), 1), (14, none, 1), (15, none, 1)] (by kernel_rfl) (by kernel_rfl) (fun _ _ _ _ _ h => h) (by exact trivial) (by exact hS) (fun ops' Q' hops hQ' => ?_)
  refine wpLinG_read (o := { dst := some 17, op := Go.Op.load 25 (Go.Operand.tmp 1), type := 25, pos := "law.go:430", after := #[], guard := none }) (v := ?vx0) (by rw [hops]; rfl) (by first | exact trivial | rfl) hS ?ex0 ?hx0
  case ex0 => intro w' hw'; obtain ⟨d0, d1, d2⟩ := hw'.cells; go_simp; (try rfl)
  (try simp only [Act.put, List.setIfInBounds_toArray, List.set_cons_zero, List.set_cons_succ])
  refine wpLinG_read (o := { dst := some 19, op := Go.Op.load 25 (Go.Operand.tmp 1), type := 25, pos := "law.go:430", after := #[], guard := none }) (v := ?vx1) (by rw [hops]; rfl) (by first | exact trivial | rfl) hS ?ex1 ?hx1
  case ex1 => intro w' hw'; obtain ⟨d0, d1, d2⟩ := hw'.cells; go_simp; (try rfl)
  (try simp only [Act.put, List.setIfInBounds_toArray, List.set_cons_zero, List.set_cons_succ])
  refine wpLinG_do (o := { dst := some 18, op := Go.Op.call { callee := Go.Callee.value (Go.Operand.func 7), args := #[Go.Operand.tmp 17], argTypes := #[25] }, type := 26, pos := "law.go:430", after := #[{ on := 0, ground := Go.Ground.data }], guard := none }) (by rw [hops]; rfl) (by first | exact trivial | rfl) (fun K hK => ?_)
  go_simp
  refine (K3.out _ hS.2).mono ?_
  rintro e X0 ⟨rfl, hb⟩
  replace hS := hS.later hb
  clear hb
  go_simp
  refine hK _ _ trivial hS ?_
  clear hK K
  (try simp only [Act.put, List.setIfInBounds_toArray, List.set_cons_zero, List.set_cons_succ])
  refine wpLinG_do (o := { dst := some 20, op := Go.Op.call { callee := Go.Callee.value (Go.Operand.func 8), args := #[Go.Operand.tmp 19], argTypes := #[25] }, type := 26, pos := "law.go:430", after := #[{ on := 2, ground := Go.Ground.data }, { on := 1, ground := Go.Ground.chain }], guard := none }) (by rw [hops]; rfl) (by first | exact trivial | rfl) (fun K hK => ?_)
  go_simp
  refine (K4.out _ hS.2).mono ?_
  rintro e X1 ⟨rfl, hb⟩
  replace hS := hS.later hb
  clear hb
  go_simp
  refine hK _ _ trivial hS ?_
  clear hK K
  (try simp only [Act.put, List.setIfInBounds_toArray, List.set_cons_zero, List.set_cons_succ])
  refine wpLinG_pure (o := { dst := some 21, op := Go.Op.binOp Go.BinOp.eql 26 (Go.Operand.tmp 18) (Go.Operand.tmp 20) 26, type := 4, pos := "law.go:430", after := #[{ on := 1, ground := Go.Ground.data }, { on := 3, ground := Go.Ground.data }], guard := none }) (v := ?vx4) (by rw [hops]; rfl) (by first | exact trivial | rfl) ?ex4 ?hx4
  case ex4 => intro w'; go_simp; (try rfl)
  (try simp only [Act.put, List.setIfInBounds_toArray, List.set_cons_zero, List.set_cons_succ])
  refine wpLinG_pure (o := { dst := some 22, op := Go.Op.move (Go.Operand.tmp 21), type := 4, pos := "law.go:430", after := #[{ on := 4, ground := Go.Ground.data }, { on := 3, ground := Go.Ground.chain }], guard := none }) (v := ?vx5) (by rw [hops]; rfl) (by first | exact trivial | rfl) ?ex5 ?hx5
  case ex5 => intro w'; go_simp; (try rfl)
  (try simp only [Act.put, List.setIfInBounds_toArray, List.set_cons_zero, List.set_cons_succ])
  refine wpLinG_pure (o := { dst := some 23, op := Go.Op.move (Go.Operand.tmp 3), type := 9, pos := "law.go:430", after := #[{ on := 5, ground := Go.Ground.guard }], guard := some (5, true) }) (v := ?vx6) (by rw [hops]; rfl) (by first | exact trivial | rfl) ?ex6 ?hx6
  case ex6 => intro w'; go_simp; (try rfl)
  (try simp only [Act.put, List.setIfInBounds_toArray, List.set_cons_zero, List.set_cons_succ])
  refine wpLinG_pure (o := { dst := some 24, op := Go.Op.move (Go.Operand.tmp 5), type := 9, pos := "law.go:430", after := #[{ on := 5, ground := Go.Ground.guard }], guard := some (5, true) }) (v := ?vx7) (by rw [hops]; rfl) (by first | exact trivial | rfl) ?ex7 ?hx7
  case ex7 => intro w'; go_simp; (try rfl)
  (try simp only [Act.put, List.setIfInBounds_toArray, List.set_cons_zero, List.set_cons_succ])
  refine wpLinG_pure (o := { dst := some 25, op := Go.Op.binOp Go.BinOp.eql 9 (Go.Operand.tmp 23) (Go.Operand.tmp 24) 9, type := 4, pos := "law.go:430", after := #[{ on := 6, ground := Go.Ground.data }, { on := 7, ground := Go.Ground.data }, { on := 5, ground := Go.Ground.guard }], guard := some (5, true) }) (v := ?vx8) (by rw [hops]; rfl) (by first | exact trivial | rfl) ?ex8 ?hx8
  case ex8 => intro w'; go_simp; (try rfl)
  (try simp only [Act.put, List.setIfInBounds_toArray, List.set_cons_zero, List.set_cons_succ])
  refine wpLinG_pure (o := { dst := some 26, op := Go.Op.pick (Go.Operand.tmp 22) (Go.Operand.tmp 25) (Go.Operand.const (Go.Value.bool false)), type := 4, pos := "law.go:430", after := #[{ on := 5, ground := Go.Ground.data }, { on := 8, ground := Go.Ground.data }], guard := none }) (v := ?vx9) (by rw [hops]; rfl) (by first | exact trivial | rfl) ?ex9 ?hx9
  case ex9 => intro w'; go_simp; (try rfl)
  (try simp only [Act.put, List.setIfInBounds_toArray, List.set_cons_zero, List.set_cons_succ])
  refine wpLinG_pure (o := { dst := some 27, op := Go.Op.move (Go.Operand.tmp 26), type := 4, pos := "law.go:430", after := #[{ on := 9, ground := Go.Ground.data }, { on := 5, ground := Go.Ground.chain }], guard := none }) (v := ?vx10) (by rw [hops]; rfl) (by first | exact trivial | rfl) ?ex10 ?hx10
  case ex10 => intro w'; go_simp; (try rfl)
  (try simp only [Act.put, List.setIfInBounds_toArray, List.set_cons_zero, List.set_cons_succ])
  refine wpLinG_pure (o := { dst := some 28, op := Go.Op.move (Go.Operand.tmp 4), type := 26, pos := "law.go:430", after := #[{ on := 10, ground := Go.Ground.guard }], guard := some (10, true) }) (v := ?vx11) (by rw [hops]; rfl) (by first | exact trivial | rfl) ?ex11 ?hx11
  case ex11 => intro w'; go_simp; (try rfl)
  (try simp only [Act.put, List.setIfInBounds_toArray, List.set_cons_zero, List.set_cons_succ])
  refine wpLinG_pure (o := { dst := some 29, op := Go.Op.move (Go.Operand.tmp 6), type := 26, pos := "law.go:430", after := #[{ on := 10, ground := Go.Ground.guard }], guard := some (10, true) }) (v := ?vx12) (by rw [hops]; rfl) (by first | exact trivial | rfl) ?ex12 ?hx12
  case ex12 => intro w'; go_simp; (try rfl)
  (try simp only [Act.put, List.setIfInBounds_toArray, List.set_cons_zero, List.set_cons_succ])
  refine wpLinG_pure (o := { dst := some 30, op := Go.Op.binOp Go.BinOp.eql 26 (Go.Operand.tmp 28) (Go.Operand.tmp 29) 26, type := 4, pos := "law.go:430", after := #[{ on := 11, ground := Go.Ground.data }, { on := 12, ground := Go.Ground.data }, { on := 10, ground := Go.Ground.guard }], guard := some (10, true) }) (v := ?vx13) (by rw [hops]; rfl) (by first | exact trivial | rfl) ?ex13 ?hx13
  case ex13 => intro w'; go_simp; (try rfl)
  (try simp only [Act.put, List.setIfInBounds_toArray, List.set_cons_zero, List.set_cons_succ])
  refine wpLinG_pure (o := { dst := some 31, op := Go.Op.pick (Go.Operand.tmp 27) (Go.Operand.tmp 30) (Go.Operand.const (Go.Value.bool false)), type := 4, pos := "law.go:430", after := #[{ on := 10, ground := Go.Ground.data }, { on := 13, ground := Go.Ground.data }], guard := none }) (v := ?vx14) (by rw [hops]; rfl) (by first | exact trivial | rfl) ?ex14 ?hx14
  case ex14 => intro w'; go_simp; (try rfl)
  (try simp only [Act.put, List.setIfInBounds_toArray, List.set_cons_zero, List.set_cons_succ])
  refine wpLinG_pure (o := { dst := some 2, op := Go.Op.assign (Go.Operand.tmp 31), type := 4, pos := "law.go:430", after := #[{ on := 14, ground := Go.Ground.data }, { on := 10, ground := Go.Ground.chain }, { on := 0, ground := Go.Ground.phase }, { on := 1, ground := Go.Ground.phase }, { on := 2, ground := Go.Ground.phase }, { on := 3, ground := Go.Ground.phase }, { on := 4, ground := Go.Ground.phase }, { on := 5, ground := Go.Ground.phase }, { on := 6, ground := Go.Ground.phase }, { on := 7, ground := Go.Ground.phase }, { on := 8, ground := Go.Ground.phase }, { on := 9, ground := Go.Ground.phase }, { on := 10, ground := Go.Ground.phase }, { on := 11, ground := Go.Ground.phase }, { on := 12, ground := Go.Ground.phase }, { on := 13, ground := Go.Ground.phase }, { on := 14, ground := Go.Ground.phase }], guard := none }) (v := ?vx15) (by rw [hops]; rfl) (by first | exact trivial | rfl) ?ex15 ?hx15
  case ex15 => intro w'; go_simp; (try rfl)
  (try simp only [Act.put, List.setIfInBounds_toArray, List.set_cons_zero, List.set_cons_succ])
  subst hQ'
  refine NoPanic.normal ?_
  go_wp2
  go_ret
  exact ⟨by first | rfl | simp, hS.2⟩
end Go.Proofs.YtponocolfjkapaaDoor
