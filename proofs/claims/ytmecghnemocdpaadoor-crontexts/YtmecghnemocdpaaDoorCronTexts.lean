/- The law CronTexts. -/
import Derived.Test.YtmecghnemocdpaaDoorCrnN
import Derived.Test.YtmecghnemocdpaaDoorCrnE
namespace Go.Proofs.YtmecghnemocdpaaDoor
open Go.RowKit Go.Shelf
set_option linter.unusedVariables false
set_option linter.unusedSimpArgs false

theorem rtext_any (A : CAd) (x : Crn.C) (w : World) (hk : KT w) (hl : CL A x w) :
    Calls Tryd.prog 5 #[crV A x] w fun e w' => e = .returned (.tuple #[.string (txT x), .int .i64 (argN (Crn.ok x))]) ∧ Below w.heap.size w w' := by
  unfold txT
  cases hok : Crn.ok x
  · exact rtext_no A x w hk hl hok (fun W hw => rcheck_any A x W hw.kt hw.cl)
  · exact rtext_ok A x w hk hl hok (fun W hw => rcheck_any A x W hw.kt hw.cl)
set_option maxRecDepth 100000 in
set_option maxHeartbeats 8000000 in
theorem crontexts_walk (A : CAd) (x : Crn.C) (w : World) (hd : Hd w) (hk : KT w) (hl : CL A x w) :
    Calls Tryd.prog 3 #[crV A x] w fun e w' => e = .returned (.bool true) ∧ Below w.heap.size w w' := by
  have HW := hide (CW.new hk hl)
  have HH := hide (fun W (hw : CW w A x W) => hd.later hw.be)
  have K1 := hide (fun W (hw : CW w A x W) => ptext_any A x W (hd.later hw.be) hw.kt hw.cl)
  have K2 := hide (fun W (hw : CW w A x W) => rtext_any A x W hw.kt hw.cl)
  have K3 := hide (fun W (hw : CW w A x W) => pcheck_any A x W (hd.later hw.be) hw.kt hw.cl)
  have K4 := hide (fun W (hw : CW w A x W) => rcheck_any A x W hw.kt hw.cl)
  generalize txT x = T at *
  generalize argN (Crn.ok x) = n at *
  clear hd hk hl HH
  go_enter Tryd.func3, Tryd.ntmps3
  go_upto_region 1 with fail
  obtain ⟨W0, hW0⟩ : ∃ W0, (w.alloc (.cells #[.slice A.m x.mi.length A.cm, .slice A.h x.ho.length A.ch, .slice A.o x.mo.length A.co, .bool x.any, .slice A.d x.da.length A.cd, .bool x.last, .slice A.n x.near.length A.cn, .bool x.anyW, .slice A.w x.wd.length A.cw, .slice A.l x.lo.length A.cl, .slice A.t x.nth.length A.ct] 25)) = W0 := ⟨_, rfl⟩
  rw [hW0] at HW ⊢
  clear hW0
  have hw := HW.out
  clear HW
  obtain ⟨x0, x1, x2, x3, x4, x5, x6, x7, x8, x9, x10⟩ := hw.bx.cells
  go_wp2_with fail
  refine (K1.out _ hw).mono ?_
  rintro e W1 ⟨rfl, b1⟩
  replace hw := hw.later b1
  clear b1 x0 x1 x2 x3 x4 x5 x6 x7 x8 x9 x10
  obtain ⟨x0, x1, x2, x3, x4, x5, x6, x7, x8, x9, x10⟩ := hw.bx.cells
  go_wp2_with fail
  refine (K2.out _ hw).mono ?_
  rintro e W2 ⟨rfl, b2⟩
  replace hw := hw.later b2
  clear b2 x0 x1 x2 x3 x4 x5 x6 x7 x8 x9 x10
  go_upto_region 3 with fail
  have hS : CW w A x W2.drew := hw.later (Below.refl _ _).drew
  clear hw
  refine wp_region_noPanic ?_
  refine wp_region_linGM (S := fun X => CW w A x X) (R := fun _ => True) [] (by kernel_rfl) (by kernel_rfl) [(0, none, 0), (2, none, 0), (1, none, 2), (3, none, 2), (4, none, 1), (5, none, 1), (6, some (22, true), 1), (7, some (22, true), 1), (8, some (22, true), 1), (9, none, 1), (10, none, 1), (11, some (27, true), 1), (12, some (27, true), 1), (13, some (27, true), 1), (14, none, 1), (15, none, 1)] (by kernel_rfl) (by kernel_rfl) (fun _ _ _ _ _ h => h) (by exact trivial) (by exact hS) (fun ops' Q' hops hQ' => ?_)
  refine wpLinG_read (o := { dst := some 17, op := Go.Op.load 25 (Go.Operand.tmp 1), type := 25, pos := "law.go:372", after := #[], guard := none }) (v := ?vx0) (by rw [hops]; rfl) (by first | exact trivial | rfl) hS ?ex0 ?hx0
  case ex0 => intro w' hw'; obtain ⟨x0, x1, x2, x3, x4, x5, x6, x7, x8, x9, x10⟩ := hw'.bx.cells; clear hw'; go_simp; (try rfl)
  (try simp only [Act.put, List.setIfInBounds_toArray, List.set_cons_zero, List.set_cons_succ])
  refine wpLinG_read (o := { dst := some 19, op := Go.Op.load 25 (Go.Operand.tmp 1), type := 25, pos := "law.go:372", after := #[], guard := none }) (v := ?vx1) (by rw [hops]; rfl) (by first | exact trivial | rfl) hS ?ex1 ?hx1
  case ex1 => intro w' hw'; obtain ⟨x0, x1, x2, x3, x4, x5, x6, x7, x8, x9, x10⟩ := hw'.bx.cells; clear hw'; go_simp; (try rfl)
  (try simp only [Act.put, List.setIfInBounds_toArray, List.set_cons_zero, List.set_cons_succ])
  refine wpLinG_do (o := { dst := some 18, op := Go.Op.call { callee := Go.Callee.value (Go.Operand.func 6), args := #[Go.Operand.tmp 17], argTypes := #[25] }, type := 26, pos := "law.go:372", after := #[{ on := 0, ground := Go.Ground.data }], guard := none }) (by rw [hops]; rfl) (by first | exact trivial | rfl) (fun K hK => ?_)
  go_simp
  refine (K3.out _ hS).mono ?_
  rintro e X1 ⟨rfl, hb⟩
  replace hS := hS.later hb
  clear hb
  refine hK _ _ trivial hS ?_
  clear hK K
  (try simp only [Act.put, List.setIfInBounds_toArray, List.set_cons_zero, List.set_cons_succ])
  refine wpLinG_do (o := { dst := some 20, op := Go.Op.call { callee := Go.Callee.value (Go.Operand.func 7), args := #[Go.Operand.tmp 19], argTypes := #[25] }, type := 26, pos := "law.go:372", after := #[{ on := 2, ground := Go.Ground.data }, { on := 1, ground := Go.Ground.chain }], guard := none }) (by rw [hops]; rfl) (by first | exact trivial | rfl) (fun K hK => ?_)
  go_simp
  refine (K4.out _ hS).mono ?_
  rintro e X2 ⟨rfl, hb⟩
  replace hS := hS.later hb
  clear hb
  refine hK _ _ trivial hS ?_
  clear hK K
  (try simp only [Act.put, List.setIfInBounds_toArray, List.set_cons_zero, List.set_cons_succ])
  refine wpLinG_pure (o := { dst := some 21, op := Go.Op.binOp Go.BinOp.eql 26 (Go.Operand.tmp 18) (Go.Operand.tmp 20) 26, type := 4, pos := "law.go:372", after := #[{ on := 1, ground := Go.Ground.data }, { on := 3, ground := Go.Ground.data }], guard := none }) (v := ?vx4) (by rw [hops]; rfl) (by first | exact trivial | rfl) ?ex4 ?hx4
  case ex4 => intro w'; go_simp; (try rfl)
  (try simp only [Act.put, List.setIfInBounds_toArray, List.set_cons_zero, List.set_cons_succ])
  refine wpLinG_pure (o := { dst := some 22, op := Go.Op.move (Go.Operand.tmp 21), type := 4, pos := "law.go:372", after := #[{ on := 4, ground := Go.Ground.data }, { on := 3, ground := Go.Ground.chain }], guard := none }) (v := ?vx5) (by rw [hops]; rfl) (by first | exact trivial | rfl) ?ex5 ?hx5
  case ex5 => intro w'; go_simp; (try rfl)
  (try simp only [Act.put, List.setIfInBounds_toArray, List.set_cons_zero, List.set_cons_succ])
  refine wpLinG_pure (o := { dst := some 23, op := Go.Op.move (Go.Operand.tmp 3), type := 9, pos := "law.go:372", after := #[{ on := 5, ground := Go.Ground.guard }], guard := some (5, true) }) (v := ?vx6) (by rw [hops]; rfl) (by first | exact trivial | rfl) ?ex6 ?hx6
  case ex6 => intro w'; go_simp; (try rfl)
  (try simp only [Act.put, List.setIfInBounds_toArray, List.set_cons_zero, List.set_cons_succ])
  refine wpLinG_pure (o := { dst := some 24, op := Go.Op.move (Go.Operand.tmp 5), type := 9, pos := "law.go:372", after := #[{ on := 5, ground := Go.Ground.guard }], guard := some (5, true) }) (v := ?vx7) (by rw [hops]; rfl) (by first | exact trivial | rfl) ?ex7 ?hx7
  case ex7 => intro w'; go_simp; (try rfl)
  (try simp only [Act.put, List.setIfInBounds_toArray, List.set_cons_zero, List.set_cons_succ])
  refine wpLinG_pure (o := { dst := some 25, op := Go.Op.binOp Go.BinOp.eql 9 (Go.Operand.tmp 23) (Go.Operand.tmp 24) 9, type := 4, pos := "law.go:372", after := #[{ on := 6, ground := Go.Ground.data }, { on := 7, ground := Go.Ground.data }, { on := 5, ground := Go.Ground.guard }], guard := some (5, true) }) (v := ?vx8) (by rw [hops]; rfl) (by first | exact trivial | rfl) ?ex8 ?hx8
  case ex8 => intro w'; go_simp; (try rfl)
  (try simp only [Act.put, List.setIfInBounds_toArray, List.set_cons_zero, List.set_cons_succ])
  refine wpLinG_pure (o := { dst := some 26, op := Go.Op.pick (Go.Operand.tmp 22) (Go.Operand.tmp 25) (Go.Operand.const (Go.Value.bool false)), type := 4, pos := "law.go:372", after := #[{ on := 5, ground := Go.Ground.data }, { on := 8, ground := Go.Ground.data }], guard := none }) (v := ?vx9) (by rw [hops]; rfl) (by first | exact trivial | rfl) ?ex9 ?hx9
  case ex9 => intro w'; go_simp; (try rfl)
  (try simp only [Act.put, List.setIfInBounds_toArray, List.set_cons_zero, List.set_cons_succ])
  refine wpLinG_pure (o := { dst := some 27, op := Go.Op.move (Go.Operand.tmp 26), type := 4, pos := "law.go:372", after := #[{ on := 9, ground := Go.Ground.data }, { on := 5, ground := Go.Ground.chain }], guard := none }) (v := ?vx10) (by rw [hops]; rfl) (by first | exact trivial | rfl) ?ex10 ?hx10
  case ex10 => intro w'; go_simp; (try rfl)
  (try simp only [Act.put, List.setIfInBounds_toArray, List.set_cons_zero, List.set_cons_succ])
  refine wpLinG_pure (o := { dst := some 28, op := Go.Op.move (Go.Operand.tmp 4), type := 26, pos := "law.go:372", after := #[{ on := 10, ground := Go.Ground.guard }], guard := some (10, true) }) (v := ?vx11) (by rw [hops]; rfl) (by first | exact trivial | rfl) ?ex11 ?hx11
  case ex11 => intro w'; go_simp; (try rfl)
  (try simp only [Act.put, List.setIfInBounds_toArray, List.set_cons_zero, List.set_cons_succ])
  refine wpLinG_pure (o := { dst := some 29, op := Go.Op.move (Go.Operand.tmp 6), type := 26, pos := "law.go:372", after := #[{ on := 10, ground := Go.Ground.guard }], guard := some (10, true) }) (v := ?vx12) (by rw [hops]; rfl) (by first | exact trivial | rfl) ?ex12 ?hx12
  case ex12 => intro w'; go_simp; (try rfl)
  (try simp only [Act.put, List.setIfInBounds_toArray, List.set_cons_zero, List.set_cons_succ])
  refine wpLinG_pure (o := { dst := some 30, op := Go.Op.binOp Go.BinOp.eql 26 (Go.Operand.tmp 28) (Go.Operand.tmp 29) 26, type := 4, pos := "law.go:372", after := #[{ on := 11, ground := Go.Ground.data }, { on := 12, ground := Go.Ground.data }, { on := 10, ground := Go.Ground.guard }], guard := some (10, true) }) (v := ?vx13) (by rw [hops]; rfl) (by first | exact trivial | rfl) ?ex13 ?hx13
  case ex13 => intro w'; go_simp; (try rfl)
  (try simp only [Act.put, List.setIfInBounds_toArray, List.set_cons_zero, List.set_cons_succ])
  refine wpLinG_pure (o := { dst := some 31, op := Go.Op.pick (Go.Operand.tmp 27) (Go.Operand.tmp 30) (Go.Operand.const (Go.Value.bool false)), type := 4, pos := "law.go:372", after := #[{ on := 10, ground := Go.Ground.data }, { on := 13, ground := Go.Ground.data }], guard := none }) (v := ?vx14) (by rw [hops]; rfl) (by first | exact trivial | rfl) ?ex14 ?hx14
  case ex14 => intro w'; go_simp; (try rfl)
  (try simp only [Act.put, List.setIfInBounds_toArray, List.set_cons_zero, List.set_cons_succ])
  refine wpLinG_pure (o := { dst := some 2, op := Go.Op.assign (Go.Operand.tmp 31), type := 4, pos := "law.go:372", after := #[{ on := 14, ground := Go.Ground.data }, { on := 10, ground := Go.Ground.chain }, { on := 0, ground := Go.Ground.phase }, { on := 1, ground := Go.Ground.phase }, { on := 2, ground := Go.Ground.phase }, { on := 3, ground := Go.Ground.phase }, { on := 4, ground := Go.Ground.phase }, { on := 5, ground := Go.Ground.phase }, { on := 6, ground := Go.Ground.phase }, { on := 7, ground := Go.Ground.phase }, { on := 8, ground := Go.Ground.phase }, { on := 9, ground := Go.Ground.phase }, { on := 10, ground := Go.Ground.phase }, { on := 11, ground := Go.Ground.phase }, { on := 12, ground := Go.Ground.phase }, { on := 13, ground := Go.Ground.phase }, { on := 14, ground := Go.Ground.phase }], guard := none }) (v := ?vx15) (by rw [hops]; rfl) (by first | exact trivial | rfl) ?ex15 ?hx15
  case ex15 => intro w'; go_simp; (try rfl)
  (try simp only [Act.put, List.setIfInBounds_toArray, List.set_cons_zero, List.set_cons_succ])
  subst hQ'
  refine NoPanic.normal ?_
  clear hops
  have hB := hS.be
  clear hS
  go_wp2
  go_ret
  exact ⟨by first | rfl | simp, hB⟩
end Go.Proofs.YtmecghnemocdpaaDoor
