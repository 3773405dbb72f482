/- package cron: Text; plain.CronText, plain.CronCheck. -/
import Derived.Test.YtmecghnemocdpaaDoorCrnI
import Derived.Test.YtmecghnemocdpaaDoorCrnE0
import Derived.Test.YtmecghnemocdpaaDoorTabA
namespace Go.Proofs.YtmecghnemocdpaaDoor
open Go.RowKit Go.Shelf
set_option linter.unusedVariables false
set_option linter.unusedSimpArgs false

structure OkS (x : Crn.C) : Prop where
  mi : Sm x.mi
  ho : Sm x.ho
  mo : Sm x.mo
  da : Sm x.da
  near : Sm x.near
  wd : Sm x.wd
  lo : Sm x.lo
  nth : SmN x.nth
theorem ok_sm {x : Crn.C} (h : Crn.ok x = true) : OkS x := by
  rw [ok_parts] at h
  unfold listsB at h
  simp only [Bool.and_eq_true] at h
  obtain ⟨⟨⟨⟨⟨⟨⟨⟨h1, h2⟩, h3⟩, h4⟩, h5⟩, h6⟩, h7⟩, h8⟩, _⟩ := h
  exact ⟨sm_of h1 (by omega) (by omega), sm_of h2 (by omega) (by omega), sm_of h3 (by omega) (by omega), sm_of h4 (by omega) (by omega), sm_of h5 (by omega) (by omega), sm_of h6 (by omega) (by omega), sm_of h7 (by omega) (by omega), smN_of h8⟩
theorem word_size (n : Nat) (l : List Int) (hs : Sm l) : (Crn.word n l).size ≤ 5000 := by
  unfold Crn.word
  split
  · decide
  · have := its_join l ⟨#[]⟩ hs (by decide); omega
theorem dWord_size {x : Crn.C} (h : OkS x) : (Crn.dWord x).size ≤ 5000 := by
  unfold Crn.dWord
  cases x.any
  · have := dItems_bd x h.da h.near
    have := Crn.joinB_size (Crn.dItems x) 12 (fun y hy => (this.2 y hy).1)
    simp only [Bool.false_eq_true, if_false]
    omega
  · rw [if_pos rfl]; decide
theorem wWord_size {x : Crn.C} (h : OkS x) : (Crn.wWord x).size ≤ 5000 := by
  unfold Crn.wWord
  cases x.anyW
  · have := wItems_bd x h.wd h.lo h.nth
    have := Crn.joinB_size (Crn.wItems x) 12 (fun y hy => (this.2 y hy).1)
    simp only [Bool.false_eq_true, if_false]
    omega
  · rw [if_pos rfl]; decide
theorem join5 (a b c d e : ByteArray) : joinS ⟨#[32]⟩ [a, b, c, d, e] = a ++ Crn.sp ++ b ++ Crn.sp ++ c ++ Crn.sp ++ d ++ Crn.sp ++ e := Crn.text_join a b c d e
theorem own_five (w : World) (a b c d e : ByteArray) : (w.alloc (.cells #[.string a, .string b, .string c, .string d, .string e] 9)).ownsRow w.heap.size 9 1 (.slice (some ⟨w.heap.size, 0, none⟩) 5 5) [a, b, c, d, e].length (strs [a, b, c, d, e]) :=
  ⟨rfl, .inr ⟨w.heap.size, 5, #[.string a, .string b, .string c, .string d, .string e], rfl, Nat.le_refl _, World.alloc_heap_new w _, Nat.le_refl 5, by unfold maxLen; omega, rfl, rfl⟩⟩
set_option maxRecDepth 100000 in
set_option maxHeartbeats 4000000 in
theorem text_no (A : CAd) (x : Crn.C) (w : World) (hk : KT w) (hl : CL A x w) (hok : Crn.ok x = false) :
    Calls Tryd.prog 8 #[crV A x] w fun e w' => e = .returned (.tuple #[.string ⟨#[]⟩, .iface 26 (.int .i64 1)]) ∧ Below w.heap.size w w' := by
  have HW := hide (CW.new hk hl)
  have KC := hide (fun W (hw : CW w A x W) => check_any A x W hw.kt hw.cl)
  rw [hok] at KC
  clear hk hl hok
  go_enter Tryd.func8, Tryd.ntmps8
  go_upto_region 1 with fail
  obtain ⟨W0, hW0⟩ : ∃ W0, (w.alloc (.cells #[.slice A.m x.mi.length A.cm, .slice A.h x.ho.length A.ch, .slice A.o x.mo.length A.co, .bool x.any, .slice A.d x.da.length A.cd, .bool x.last, .slice A.n x.near.length A.cn, .bool x.anyW, .slice A.w x.wd.length A.cw, .slice A.l x.lo.length A.cl, .slice A.t x.nth.length A.ct] 25)) = W0 := ⟨_, rfl⟩
  rw [hW0] at HW ⊢
  clear hW0
  have hw := HW.out
  clear HW
  obtain ⟨x0, x1, x2, x3, x4, x5, x6, x7, x8, x9, x10⟩ := hw.bx.cells
  go_wp2_with fail
  refine (KC.out _ hw).mono ?_
  rintro e W1 ⟨rfl, b1⟩
  rw [show argV false = .iface 26 (.int .i64 1) from rfl]
  have hB := hw.be.trans (b1.mono hw.be.size)
  go_wp2
  go_ret2
  exact ⟨rfl, hB⟩
theorem keepK {w X X' : World} {A : CAd} {x : Crn.C} {g0 g1 g2 : Nat} {a0 b0 a1 b1 a2 b2 : Int} {s0 s1 s2 : ByteArray} {z0 z1 z2 : Int}
    (h : CW w A x X ∧ KAt X g0 a0 b0 s0 z0 ∧ KAt X g1 a1 b1 s1 z1 ∧ KAt X g2 a2 b2 s2 z2) (hb : Below X.heap.size X X') : CW w A x X' ∧ KAt X' g0 a0 b0 s0 z0 ∧ KAt X' g1 a1 b1 s1 z1 ∧ KAt X' g2 a2 b2 s2 z2 :=
  ⟨h.1.later hb, h.2.1.later hb, h.2.2.1.later hb, h.2.2.2.later hb⟩
set_option maxRecDepth 100000 in
set_option maxHeartbeats 8000000 in
theorem text_ok (A : CAd) (x : Crn.C) (w : World) (hk : KT w) (hl : CL A x w) (hok : Crn.ok x = true) :
    Calls Tryd.prog 8 #[crV A x] w fun e w' => e = .returned (.tuple #[.string (Crn.text x), .nilIface]) ∧ Below w.heap.size w w' := by
  have HW := hide (CW.new hk hl)
  have KC := hide (fun W (hw : CW w A x W) => check_any A x W hw.kt hw.cl)
  have hs := ok_sm hok
  rw [hok] at KC
  have KD := hide (fun W (hw : CW w A x W) => daysWord_any A x W hw.kt hw.cl hs.da hs.near)
  have KW := hide (fun W (hw : CW w A x W) => weekdaysWord_any A x W hw.kt hw.cl hs.wd hs.lo hs.nth)
  have KM := hide (fun W s z (hw : CW w A x W) => word_any 0 59 z s A.m A.cm 60 x.mi W hw.cl.mi hs.mi (by omega) (by omega) (by omega) (by omega))
  have KH := hide (fun W s z (hw : CW w A x W) => word_any 0 23 z s A.h A.ch 24 x.ho W hw.cl.ho hs.ho (by omega) (by omega) (by omega) (by omega))
  have KO := hide (fun W s z (hw : CW w A x W) => word_any 1 12 z s A.o A.co 12 x.mo W hw.cl.mo hs.mo (by omega) (by omega) (by omega) (by omega))
  have HT : Hid (Crn.text x = joinS ⟨#[32]⟩ [Crn.word 60 x.mi, Crn.word 24 x.ho, Crn.dWord x, Crn.word 12 x.mo, Crn.wWord x]) := by show _ = _; rw [join5]; rfl
  have z0 := word_size 60 x.mi hs.mi
  have z1 := word_size 24 x.ho hs.ho
  have z2 := dWord_size hs
  have z3 := word_size 12 x.mo hs.mo
  have z4 := wWord_size hs
  generalize Crn.text x = T at *
  generalize Crn.word 60 x.mi = t0 at *
  generalize Crn.word 24 x.ho = t1 at *
  generalize Crn.dWord x = t2 at *
  generalize Crn.word 12 x.mo = t3 at *
  generalize Crn.wWord x = t4 at *
  have KJ := hide (fun v W (ho : World.ownsRow W 0 9 1 v [t0, t1, t2, t3, t4].length (strs [t0, t1, t2, t3, t4])) => join_own 0 v [t0, t1, t2, t3, t4] ⟨#[32]⟩ W ho (by show 5 ≤ 1000; omega) (by
    rw [join5]
    have q : Crn.sp.size = 1 := rfl
    simp only [ByteArray.size_append, q]
    omega))
  clear hk hl hok hs z0 z1 z2 z3 z4
  go_enter Tryd.func8, Tryd.ntmps8
  go_upto_region 1 with fail
  obtain ⟨W0, hW0⟩ : ∃ W0, (w.alloc (.cells #[.slice A.m x.mi.length A.cm, .slice A.h x.ho.length A.ch, .slice A.o x.mo.length A.co, .bool x.any, .slice A.d x.da.length A.cd, .bool x.last, .slice A.n x.near.length A.cn, .bool x.anyW, .slice A.w x.wd.length A.cw, .slice A.l x.lo.length A.cl, .slice A.t x.nth.length A.ct] 25)) = W0 := ⟨_, rfl⟩
  rw [hW0] at HW ⊢
  clear hW0
  have hw := HW.out
  clear HW
  obtain ⟨x0, x1, x2, x3, x4, x5, x6, x7, x8, x9, x10⟩ := hw.bx.cells
  go_wp2_with fail
  refine (KC.out _ hw).mono ?_
  rintro e W1 ⟨rfl, b1⟩
  rw [show argV true = .nilIface from rfl]
  have hw := hw.later b1
  clear b1 x0 x1 x2 x3 x4 x5 x6 x7 x8 x9 x10
  go_upto_region 4 with fail
  obtain ⟨s0, z0, g0⟩ := hw.kt.mi
  obtain ⟨s1, z1, g1⟩ := hw.kt.ho
  obtain ⟨s2, z2, g2⟩ := hw.kt.mo
  have hS : CW w A x W1.drew ∧ KAt W1.drew 0 0 59 s0 z0 ∧ KAt W1.drew 1 0 23 s1 z1 ∧ KAt W1.drew 2 1 12 s2 z2 := ⟨hw.later (Below.refl _ _).drew, g0, g1, g2⟩
  clear g0 g1 g2
  refine wp_region_noPanic ?_
  refine wp_region_linGM (S := fun X => CW w A x X ∧ KAt X 0 0 59 s0 z0 ∧ KAt X 1 0 23 s1 z1 ∧ KAt X 2 1 12 s2 z2) (R := fun _ => True) [] (by kernel_rfl) (by kernel_rfl) [(0, none, 0), (1, none, 1), (2, none, 0), (4, none, 0), (5, none, 1), (6, none, 0), (8, none, 0), (10, none, 0), (11, none, 1), (12, none, 0), (14, none, 0), (3, none, 2), (7, none, 2), (9, none, 2), (13, none, 2), (15, none, 2), (16, none, 2), (17, none, 1)] (by kernel_rfl) (by kernel_rfl) (fun _ _ _ _ _ h => h) (by exact trivial) (by exact hS) (fun ops' Q' hops hQ' => ?_)
  refine wpLinG_read (o := { dst := some 11, op := Go.Op.load 46 (Go.Operand.global 0), type := 46, pos := "text.go:43", after := #[], guard := none }) (v := ?vx0) (by rw [hops]; rfl) (by first | exact trivial | rfl) hS ?ex0 ?hx0
  case ex0 => intro w' hw'; obtain ⟨hcw, ⟨k0, k1, k2, k3⟩, ⟨m0, m1, m2, m3⟩, ⟨o0, o1, o2, o3⟩⟩ := hw'; obtain ⟨x0, x1, x2, x3, x4, x5, x6, x7, x8, x9, x10⟩ := hcw.bx.cells; clear hcw; go_simp; (try rfl)
  (try simp only [Act.put, List.setIfInBounds_toArray, List.set_cons_zero, List.set_cons_succ])
  refine wpLinG_pure (o := { dst := some 12, op := Go.Op.fieldAddr 25 (Go.Operand.tmp 1) 0, type := 0, pos := "text.go:43", after := #[], guard := none }) (v := ?vx1) (by rw [hops]; rfl) (by first | exact trivial | rfl) ?ex1 ?hx1
  case ex1 => intro w'; go_simp; (try rfl)
  (try simp only [Act.put, List.setIfInBounds_toArray, List.set_cons_zero, List.set_cons_succ])
  refine wpLinG_read (o := { dst := some 13, op := Go.Op.load 22 (Go.Operand.tmp 12), type := 22, pos := "text.go:43", after := #[{ on := 1, ground := Go.Ground.data }], guard := none }) (v := ?vx2) (by rw [hops]; rfl) (by first | exact trivial | rfl) hS ?ex2 ?hx2
  case ex2 => intro w' hw'; obtain ⟨hcw, ⟨k0, k1, k2, k3⟩, ⟨m0, m1, m2, m3⟩, ⟨o0, o1, o2, o3⟩⟩ := hw'; obtain ⟨x0, x1, x2, x3, x4, x5, x6, x7, x8, x9, x10⟩ := hcw.bx.cells; clear hcw; go_simp; (try rfl)
  (try simp only [Act.put, List.setIfInBounds_toArray, List.set_cons_zero, List.set_cons_succ])
  refine wpLinG_read (o := { dst := some 15, op := Go.Op.load 46 (Go.Operand.global 1), type := 46, pos := "text.go:43", after := #[], guard := none }) (v := ?vx3) (by rw [hops]; rfl) (by first | exact trivial | rfl) hS ?ex3 ?hx3
  case ex3 => intro w' hw'; obtain ⟨hcw, ⟨k0, k1, k2, k3⟩, ⟨m0, m1, m2, m3⟩, ⟨o0, o1, o2, o3⟩⟩ := hw'; obtain ⟨x0, x1, x2, x3, x4, x5, x6, x7, x8, x9, x10⟩ := hcw.bx.cells; clear hcw; go_simp; (try rfl)
  (try simp only [Act.put, List.setIfInBounds_toArray, List.set_cons_zero, List.set_cons_succ])
  refine wpLinG_pure (o := { dst := some 16, op := Go.Op.fieldAddr 25 (Go.Operand.tmp 1) 1, type := 0, pos := "text.go:43", after := #[], guard := none }) (v := ?vx4) (by rw [hops]; rfl) (by first | exact trivial | rfl) ?ex4 ?hx4
  case ex4 => intro w'; go_simp; (try rfl)
  (try simp only [Act.put, List.setIfInBounds_toArray, List.set_cons_zero, List.set_cons_succ])
  refine wpLinG_read (o := { dst := some 17, op := Go.Op.load 22 (Go.Operand.tmp 16), type := 22, pos := "text.go:43", after := #[{ on := 5, ground := Go.Ground.data }], guard := none }) (v := ?vx5) (by rw [hops]; rfl) (by first | exact trivial | rfl) hS ?ex5 ?hx5
  case ex5 => intro w' hw'; obtain ⟨hcw, ⟨k0, k1, k2, k3⟩, ⟨m0, m1, m2, m3⟩, ⟨o0, o1, o2, o3⟩⟩ := hw'; obtain ⟨x0, x1, x2, x3, x4, x5, x6, x7, x8, x9, x10⟩ := hcw.bx.cells; clear hcw; go_simp; (try rfl)
  (try simp only [Act.put, List.setIfInBounds_toArray, List.set_cons_zero, List.set_cons_succ])
  refine wpLinG_read (o := { dst := some 19, op := Go.Op.load 25 (Go.Operand.tmp 1), type := 25, pos := "text.go:43", after := #[], guard := none }) (v := ?vx6) (by rw [hops]; rfl) (by first | exact trivial | rfl) hS ?ex6 ?hx6
  case ex6 => intro w' hw'; obtain ⟨hcw, ⟨k0, k1, k2, k3⟩, ⟨m0, m1, m2, m3⟩, ⟨o0, o1, o2, o3⟩⟩ := hw'; obtain ⟨x0, x1, x2, x3, x4, x5, x6, x7, x8, x9, x10⟩ := hcw.bx.cells; clear hcw; go_simp; (try rfl)
  (try simp only [Act.put, List.setIfInBounds_toArray, List.set_cons_zero, List.set_cons_succ])
  refine wpLinG_read (o := { dst := some 21, op := Go.Op.load 46 (Go.Operand.global 2), type := 46, pos := "text.go:43", after := #[], guard := none }) (v := ?vx7) (by rw [hops]; rfl) (by first | exact trivial | rfl) hS ?ex7 ?hx7
  case ex7 => intro w' hw'; obtain ⟨hcw, ⟨k0, k1, k2, k3⟩, ⟨m0, m1, m2, m3⟩, ⟨o0, o1, o2, o3⟩⟩ := hw'; obtain ⟨x0, x1, x2, x3, x4, x5, x6, x7, x8, x9, x10⟩ := hcw.bx.cells; clear hcw; go_simp; (try rfl)
  (try simp only [Act.put, List.setIfInBounds_toArray, List.set_cons_zero, List.set_cons_succ])
  refine wpLinG_pure (o := { dst := some 22, op := Go.Op.fieldAddr 25 (Go.Operand.tmp 1) 2, type := 0, pos := "text.go:43", after := #[], guard := none }) (v := ?vx8) (by rw [hops]; rfl) (by first | exact trivial | rfl) ?ex8 ?hx8
  case ex8 => intro w'; go_simp; (try rfl)
  (try simp only [Act.put, List.setIfInBounds_toArray, List.set_cons_zero, List.set_cons_succ])
  refine wpLinG_read (o := { dst := some 23, op := Go.Op.load 22 (Go.Operand.tmp 22), type := 22, pos := "text.go:43", after := #[{ on := 11, ground := Go.Ground.data }], guard := none }) (v := ?vx9) (by rw [hops]; rfl) (by first | exact trivial | rfl) hS ?ex9 ?hx9
  case ex9 => intro w' hw'; obtain ⟨hcw, ⟨k0, k1, k2, k3⟩, ⟨m0, m1, m2, m3⟩, ⟨o0, o1, o2, o3⟩⟩ := hw'; obtain ⟨x0, x1, x2, x3, x4, x5, x6, x7, x8, x9, x10⟩ := hcw.bx.cells; clear hcw; go_simp; (try rfl)
  (try simp only [Act.put, List.setIfInBounds_toArray, List.set_cons_zero, List.set_cons_succ])
  refine wpLinG_read (o := { dst := some 25, op := Go.Op.load 25 (Go.Operand.tmp 1), type := 25, pos := "text.go:43", after := #[], guard := none }) (v := ?vx10) (by rw [hops]; rfl) (by first | exact trivial | rfl) hS ?ex10 ?hx10
  case ex10 => intro w' hw'; obtain ⟨hcw, ⟨k0, k1, k2, k3⟩, ⟨m0, m1, m2, m3⟩, ⟨o0, o1, o2, o3⟩⟩ := hw'; obtain ⟨x0, x1, x2, x3, x4, x5, x6, x7, x8, x9, x10⟩ := hcw.bx.cells; clear hcw; go_simp; (try rfl)
  (try simp only [Act.put, List.setIfInBounds_toArray, List.set_cons_zero, List.set_cons_succ])
  refine wpLinG_do (o := { dst := some 14, op := Go.Op.call { callee := Go.Callee.value (Go.Operand.func 16), args := #[Go.Operand.tmp 11, Go.Operand.tmp 13], argTypes := #[46, 22] }, type := 9, pos := "text.go:44", after := #[{ on := 0, ground := Go.Ground.data }, { on := 2, ground := Go.Ground.data }], guard := none }) (by rw [hops]; rfl) (by first | exact trivial | rfl) (fun K hK => ?_)
  go_simp
  refine (KM.out _ _ _ hS.1).mono ?_
  rintro e X1 ⟨rfl, hb⟩
  replace hS := keepK hS hb
  clear hb
  refine hK _ _ trivial hS ?_
  clear hK K
  (try simp only [Act.put, List.setIfInBounds_toArray, List.set_cons_zero, List.set_cons_succ])
  refine wpLinG_do (o := { dst := some 18, op := Go.Op.call { callee := Go.Callee.value (Go.Operand.func 16), args := #[Go.Operand.tmp 15, Go.Operand.tmp 17], argTypes := #[46, 22] }, type := 9, pos := "text.go:45", after := #[{ on := 4, ground := Go.Ground.data }, { on := 6, ground := Go.Ground.data }, { on := 3, ground := Go.Ground.chain }], guard := none }) (by rw [hops]; rfl) (by first | exact trivial | rfl) (fun K hK => ?_)
  go_simp
  refine (KH.out _ _ _ hS.1).mono ?_
  rintro e X2 ⟨rfl, hb⟩
  replace hS := keepK hS hb
  clear hb
  refine hK _ _ trivial hS ?_
  clear hK K
  (try simp only [Act.put, List.setIfInBounds_toArray, List.set_cons_zero, List.set_cons_succ])
  refine wpLinG_do (o := { dst := some 20, op := Go.Op.call { callee := Go.Callee.value (Go.Operand.func 17), args := #[Go.Operand.tmp 19], argTypes := #[25] }, type := 9, pos := "text.go:46", after := #[{ on := 8, ground := Go.Ground.data }, { on := 7, ground := Go.Ground.chain }], guard := none }) (by rw [hops]; rfl) (by first | exact trivial | rfl) (fun K hK => ?_)
  go_simp
  refine (KD.out _ hS.1).mono ?_
  rintro e X3 ⟨rfl, hb⟩
  replace hS := keepK hS hb
  clear hb
  refine hK _ _ trivial hS ?_
  clear hK K
  (try simp only [Act.put, List.setIfInBounds_toArray, List.set_cons_zero, List.set_cons_succ])
  refine wpLinG_do (o := { dst := some 24, op := Go.Op.call { callee := Go.Callee.value (Go.Operand.func 16), args := #[Go.Operand.tmp 21, Go.Operand.tmp 23], argTypes := #[46, 22] }, type := 9, pos := "text.go:47", after := #[{ on := 10, ground := Go.Ground.data }, { on := 12, ground := Go.Ground.data }, { on := 9, ground := Go.Ground.chain }], guard := none }) (by rw [hops]; rfl) (by first | exact trivial | rfl) (fun K hK => ?_)
  go_simp
  refine (KO.out _ _ _ hS.1).mono ?_
  rintro e X4 ⟨rfl, hb⟩
  replace hS := keepK hS hb
  clear hb
  refine hK _ _ trivial hS ?_
  clear hK K
  (try simp only [Act.put, List.setIfInBounds_toArray, List.set_cons_zero, List.set_cons_succ])
  refine wpLinG_do (o := { dst := some 26, op := Go.Op.call { callee := Go.Callee.value (Go.Operand.func 18), args := #[Go.Operand.tmp 25], argTypes := #[25] }, type := 9, pos := "text.go:48", after := #[{ on := 14, ground := Go.Ground.data }, { on := 13, ground := Go.Ground.chain }], guard := none }) (by rw [hops]; rfl) (by first | exact trivial | rfl) (fun K hK => ?_)
  go_simp
  refine (KW.out _ hS.1).mono ?_
  rintro e X5 ⟨rfl, hb⟩
  replace hS := keepK hS hb
  clear hb
  refine hK _ _ trivial hS ?_
  clear hK K
  (try simp only [Act.put, List.setIfInBounds_toArray, List.set_cons_zero, List.set_cons_succ])
  refine wpLinG_do (o := { dst := some 27, op := Go.Op.buildSlice 48 5 #[(0, Go.Operand.tmp 14), (1, Go.Operand.tmp 18), (2, Go.Operand.tmp 20), (3, Go.Operand.tmp 24), (4, Go.Operand.tmp 26)], type := 48, pos := "text.go:43", after := #[{ on := 3, ground := Go.Ground.data }, { on := 7, ground := Go.Ground.data }, { on := 9, ground := Go.Ground.data }, { on := 13, ground := Go.Ground.data }, { on := 15, ground := Go.Ground.data }], guard := none }) (by rw [hops]; rfl) (by first | exact trivial | rfl) (fun K hK => ?_)
  go_simp
  have hJ := (own_five X5 t0 t1 t2 t3 t4).mono0 (Nat.zero_le _)
  have hB5 := hS.1.be.alloc hS.1.be.size (.cells #[.string t0, .string t1, .string t2, .string t3, .string t4] 9)
  replace hS := keepK hS ((Below.refl _ X5).alloc (Nat.le_refl _) (.cells #[.string t0, .string t1, .string t2, .string t3, .string t4] 9))
  refine hK _ _ trivial hS ?_
  clear hK K
  (try simp only [Act.put, List.setIfInBounds_toArray, List.set_cons_zero, List.set_cons_succ])
  refine wpLinG_pure (o := { dst := some 5, op := Go.Op.assign (Go.Operand.tmp 27), type := 48, pos := "text.go:43", after := #[{ on := 16, ground := Go.Ground.data }, { on := 15, ground := Go.Ground.chain }, { on := 0, ground := Go.Ground.phase }, { on := 1, ground := Go.Ground.phase }, { on := 2, ground := Go.Ground.phase }, { on := 3, ground := Go.Ground.phase }, { on := 4, ground := Go.Ground.phase }, { on := 5, ground := Go.Ground.phase }, { on := 6, ground := Go.Ground.phase }, { on := 7, ground := Go.Ground.phase }, { on := 8, ground := Go.Ground.phase }, { on := 9, ground := Go.Ground.phase }, { on := 10, ground := Go.Ground.phase }, { on := 11, ground := Go.Ground.phase }, { on := 12, ground := Go.Ground.phase }, { on := 13, ground := Go.Ground.phase }, { on := 14, ground := Go.Ground.phase }, { on := 15, ground := Go.Ground.phase }, { on := 16, ground := Go.Ground.phase }], guard := none }) (v := ?vx17) (by rw [hops]; rfl) (by first | exact trivial | rfl) ?ex17 ?hx17
  case ex17 => intro w'; go_simp; (try rfl)
  (try simp only [Act.put, List.setIfInBounds_toArray, List.set_cons_zero, List.set_cons_succ])
  subst hQ'
  refine NoPanic.normal ?_
  clear hops hS
  go_wp2_with fail
  refine (KJ.out _ _ hJ).mono ?_
  rintro e W3 ⟨rfl, b4⟩
  rw [← HT.out]
  have hB6 := hB5.trans (b4.mono hB5.size)
  go_wp2
  go_ret2
  exact ⟨rfl, hB6⟩
/-- what plain.CronText tells -/
def txE (x : Crn.C) : Int := argN (Crn.ok x)
def txT (x : Crn.C) : ByteArray := if Crn.ok x then Crn.text x else ⟨#[]⟩
set_option maxRecDepth 100000 in
set_option maxHeartbeats 4000000 in
theorem ptext_any (A : CAd) (x : Crn.C) (w : World) (hd : Hd w) (hk : KT w) (hl : CL A x w) :
    Calls Tryd.prog 4 #[crV A x] w fun e w' => e = .returned (.tuple #[.string (txT x), .int .i64 (argN (Crn.ok x))]) ∧ Below w.heap.size w w' := by
  have HW := hide (CW.new hk hl)
  have HH := hide (fun W (hw : CW w A x W) => hd.later (hw.be))
  unfold txT
  cases hok : Crn.ok x
  · have KC := hide (fun W (hw : CW w A x W) => text_no A x W hw.kt hw.cl hok)
    clear hk hl hok hd
    go_enter Tryd.func4, Tryd.ntmps4
    go_upto_region 1 with fail
    obtain ⟨W0, hW0⟩ : ∃ W0, (w.alloc (.cells #[.slice A.m x.mi.length A.cm, .slice A.h x.ho.length A.ch, .slice A.o x.mo.length A.co, .bool x.any, .slice A.d x.da.length A.cd, .bool x.last, .slice A.n x.near.length A.cn, .bool x.anyW, .slice A.w x.wd.length A.cw, .slice A.l x.lo.length A.cl, .slice A.t x.nth.length A.ct] 25)) = W0 := ⟨_, rfl⟩
    rw [hW0] at HW ⊢
    clear hW0
    have hw := HW.out
    clear HW
    obtain ⟨x0, x1, x2, x3, x4, x5, x6, x7, x8, x9, x10⟩ := hw.bx.cells
    go_wp2_with fail
    refine (KC.out _ hw).mono ?_
    rintro e W1 ⟨rfl, b1⟩
    replace hw := hw.later b1
    clear x0 x1 x2 x3 x4 x5 x6 x7 x8 x9 x10 b1
    go_wp2_with fail
    refine (tell_err 1 _ (HH.out _ hw)).mono ?_
    rintro e W2 ⟨rfl, b2⟩
    have hB := hw.be.trans (b2.mono hw.be.size)
    go_wp2
    go_ret2
    exact ⟨rfl, hB⟩
  · have KC := hide (fun W (hw : CW w A x W) => text_ok A x W hw.kt hw.cl hok)
    clear hk hl hok hd
    go_enter Tryd.func4, Tryd.ntmps4
    go_upto_region 1 with fail
    obtain ⟨W0, hW0⟩ : ∃ W0, (w.alloc (.cells #[.slice A.m x.mi.length A.cm, .slice A.h x.ho.length A.ch, .slice A.o x.mo.length A.co, .bool x.any, .slice A.d x.da.length A.cd, .bool x.last, .slice A.n x.near.length A.cn, .bool x.anyW, .slice A.w x.wd.length A.cw, .slice A.l x.lo.length A.cl, .slice A.t x.nth.length A.ct] 25)) = W0 := ⟨_, rfl⟩
    rw [hW0] at HW ⊢
    clear hW0
    have hw := HW.out
    clear HW
    obtain ⟨x0, x1, x2, x3, x4, x5, x6, x7, x8, x9, x10⟩ := hw.bx.cells
    go_wp2_with fail
    refine (KC.out _ hw).mono ?_
    rintro e W1 ⟨rfl, b1⟩
    replace hw := hw.later b1
    clear x0 x1 x2 x3 x4 x5 x6 x7 x8 x9 x10 b1
    go_wp2_with fail
    refine (tell_nil _).mono ?_
    rintro e W2 ⟨rfl, b2⟩
    have hB := hw.be.trans (b2.mono hw.be.size)
    go_wp2
    go_ret2
    exact ⟨rfl, hB⟩
set_option maxRecDepth 100000 in
set_option maxHeartbeats 4000000 in
theorem pcheck_any (A : CAd) (x : Crn.C) (w : World) (hd : Hd w) (hk : KT w) (hl : CL A x w) :
    Calls Tryd.prog 6 #[crV A x] w fun e w' => e = .returned (.int .i64 (argN (Crn.ok x))) ∧ Below w.heap.size w w' := by
  have HW := hide (CW.new hk hl)
  have HH := hide (fun W (hw : CW w A x W) => hd.later (hw.be))
  have KC := hide (fun W (hw : CW w A x W) => check_any A x W hw.kt hw.cl)
  clear hk hl hd
  cases hok : Crn.ok x
  · rw [hok] at KC
    clear hok
    go_enter Tryd.func6, Tryd.ntmps6
    go_upto_region 1 with fail
    obtain ⟨W0, hW0⟩ : ∃ W0, (w.alloc (.cells #[.slice A.m x.mi.length A.cm, .slice A.h x.ho.length A.ch, .slice A.o x.mo.length A.co, .bool x.any, .slice A.d x.da.length A.cd, .bool x.last, .slice A.n x.near.length A.cn, .bool x.anyW, .slice A.w x.wd.length A.cw, .slice A.l x.lo.length A.cl, .slice A.t x.nth.length A.ct] 25)) = W0 := ⟨_, rfl⟩
    rw [hW0] at HW ⊢
    clear hW0
    have hw := HW.out
    clear HW
    obtain ⟨x0, x1, x2, x3, x4, x5, x6, x7, x8, x9, x10⟩ := hw.bx.cells
    go_wp2_with fail
    refine (KC.out _ hw).mono ?_
    rintro e W1 ⟨rfl, b1⟩
    replace hw := hw.later b1
    clear x0 x1 x2 x3 x4 x5 x6 x7 x8 x9 x10 b1
    rw [show argV false = .iface 26 (.int .i64 1) from rfl]
    go_wp2_with fail
    refine (tell_err 1 _ (HH.out _ hw)).mono ?_
    rintro e W2 ⟨rfl, b2⟩
    have hB := hw.be.trans (b2.mono hw.be.size)
    go_wp2
    go_ret
    exact ⟨rfl, hB⟩
  · rw [hok] at KC
    clear hok
    go_enter Tryd.func6, Tryd.ntmps6
    go_upto_region 1 with fail
    obtain ⟨W0, hW0⟩ : ∃ W0, (w.alloc (.cells #[.slice A.m x.mi.length A.cm, .slice A.h x.ho.length A.ch, .slice A.o x.mo.length A.co, .bool x.any, .slice A.d x.da.length A.cd, .bool x.last, .slice A.n x.near.length A.cn, .bool x.anyW, .slice A.w x.wd.length A.cw, .slice A.l x.lo.length A.cl, .slice A.t x.nth.length A.ct] 25)) = W0 := ⟨_, rfl⟩
    rw [hW0] at HW ⊢
    clear hW0
    have hw := HW.out
    clear HW
    obtain ⟨x0, x1, x2, x3, x4, x5, x6, x7, x8, x9, x10⟩ := hw.bx.cells
    go_wp2_with fail
    refine (KC.out _ hw).mono ?_
    rintro e W1 ⟨rfl, b1⟩
    replace hw := hw.later b1
    clear x0 x1 x2 x3 x4 x5 x6 x7 x8 x9 x10 b1
    rw [show argV true = .nilIface from rfl]
    go_wp2_with fail
    refine (tell_nil _).mono ?_
    rintro e W2 ⟨rfl, b2⟩
    have hB := hw.be.trans (b2.mono hw.be.size)
    go_wp2
    go_ret
    exact ⟨rfl, hB⟩
end Go.Proofs.YtmecghnemocdpaaDoor
