/- package cron: fitsByMonth's closure; slices.ContainsFunc with it. -/
import Derived.Test.YtgbbplkpepaidaaGreatDoorMCronTimes21
import Derived.RangeFuncBox
import Derived.RangeFuncNested
namespace Go.Proofs.YtgbbplkpepaidaaGreatDoor
open Go.RowKit
set_option linter.unusedVariables false
set_option linter.unusedSimpArgs false

/-- is a weekday that is nearest to t the n-th day? -/
def isN (a L n t : Int) : Bool := decide (t ≤ L) && (nrst a L t == n)
structure CloW (Bm Bn : Nat) (q a L n : Int) (W : World) : Prop where
  m : MBox W Bm q a L
  n : Boxed W Bn 3 (.int .i64 n)
theorem CloW.later {Bm Bn : Nat} {q a L n : Int} {W W' : World} (h : CloW Bm Bn q a L n W) (hb : Below W.heap.size W W') : CloW Bm Bn q a L n W' := ⟨h.m.later hb, (hb.block _ h.n.lt).trans h.n⟩
set_option maxRecDepth 100000 in
set_option maxHeartbeats 4000000 in
theorem isNearest_any (Bm Bn : Nat) (q a L n t : Int) (w : World) (h : CloW Bm Bn q a L n w) (a1 : -5000000 ≤ a) (a2 : a ≤ 5000000) (n1 : -1000 ≤ t) (n2 : t ≤ 1000) :
    Calls Tryz.prog 56 #[.int .i64 t, .pointer (some ⟨Bm, 0, none⟩), .pointer (some ⟨Bn, 0, none⟩)] w fun e w' => e = .returned (.bool (isN a L n t)) ∧ Below w.heap.size w w' := by
  have KN := hide (fun W => nearest_any q a L t W a1 a2 n1 n2)
  have HI : Hid (isN a L n t = (decide (t ≤ L) && (nrst a L t == n))) := rfl
  generalize isN a L n t = R at *
  generalize nrst a L t = v at *
  obtain ⟨c0, c1, c2⟩ := h.m.cells
  have d0 := h.n.cell
  by_cases ht : t ≤ L
  · have hR : R = (v == n) := by rw [HI.out, decide_eq_true ht, Bool.true_and]
    have q1 : decide (t ≤ L) = true := decide_eq_true ht
    subst hR
    clear HI
    go_enter Tryz.func56, Tryz.ntmps56
    go_upto_region 1 with fail
    have hS : CloW Bm Bn q a L n w.drew ∧ Below w.heap.size w w.drew := ⟨h.later (Below.refl _ _).drew, (Below.refl _ _).drew⟩
    clear c0 c1 c2 d0 h
    refine wp_region_noPanic ?_
    refine wp_region_linGM (S := fun X => CloW Bm Bn q a L n X ∧ Below w.heap.size w X) (R := fun _ => True) [] (by kernel_rfl) (by kernel_rfl) [(0, none, 1), (1, none, 1), (2, none, 0), (3, none, 1), (4, none, 1), (5, some (9, true), 0), (6, some (9, true), 1), (8, some (9, true), 0), (7, some (9, true), 2), (9, some (9, true), 1), (10, none, 1), (11, none, 1)] (by kernel_rfl) (by kernel_rfl) (fun _ _ _ _ _ h => h) (by exact trivial) (by exact hS) (fun ops' Q' hops hQ' => ?_)
    refine wpLinG_pure (o := { dst := some 5, op := Go.Op.move (Go.Operand.tmp 0), type := 3, pos := "month.go:60", after := #[], guard := none }) (v := ?vx0) (by rw [hops]; rfl) (by first | exact trivial | rfl) ?ex0 ?hx0
    case ex0 => intro w'; go_simp; (try rfl)
    (try simp only [Act.put, List.setIfInBounds_toArray, List.set_cons_zero, List.set_cons_succ])
    refine wpLinG_pure (o := { dst := some 6, op := Go.Op.fieldAddr 49 (Go.Operand.tmp 1) 2, type := 0, pos := "month.go:60", after := #[], guard := none }) (v := ?vx1) (by rw [hops]; rfl) (by first | exact trivial | rfl) ?ex1 ?hx1
    case ex1 => intro w'; go_simp; (try rfl)
    (try simp only [Act.put, List.setIfInBounds_toArray, List.set_cons_zero, List.set_cons_succ])
    refine wpLinG_read (o := { dst := some 7, op := Go.Op.load 3 (Go.Operand.tmp 6), type := 3, pos := "month.go:60", after := #[{ on := 1, ground := Go.Ground.data }], guard := none }) (v := ?vx2) (by rw [hops]; rfl) (by first | exact trivial | rfl) hS ?ex2 ?hx2
    case ex2 => intro w' hw'; obtain ⟨hcl, _⟩ := hw'; obtain ⟨c0, c1, c2⟩ := hcl.m.cells; have d0 := hcl.n.cell; clear hcl; go_simp; (try rfl)
    (try simp only [Act.put, List.setIfInBounds_toArray, List.set_cons_zero, List.set_cons_succ])
    refine wpLinG_pure (o := { dst := some 8, op := Go.Op.binOp Go.BinOp.leq 3 (Go.Operand.tmp 5) (Go.Operand.tmp 7) 3, type := 4, pos := "month.go:60", after := #[{ on := 0, ground := Go.Ground.data }, { on := 2, ground := Go.Ground.data }], guard := none }) (v := ?vx3) (by rw [hops]; rfl) (by first | exact trivial | rfl) ?ex3 ?hx3
    case ex3 => intro w'; go_simp; (try rfl)
    (try simp only [Act.put, List.setIfInBounds_toArray, List.set_cons_zero, List.set_cons_succ])
    refine wpLinG_pure (o := { dst := some 9, op := Go.Op.move (Go.Operand.tmp 8), type := 4, pos := "month.go:60", after := #[{ on := 3, ground := Go.Ground.data }], guard := none }) (v := ?vx4) (by rw [hops]; rfl) (by first | exact trivial | rfl) ?ex4 ?hx4
    case ex4 => intro w'; go_simp; (try rfl)
    (try simp only [Act.put, List.setIfInBounds_toArray, List.set_cons_zero, List.set_cons_succ])
    refine wpLinG_read (o := { dst := some 10, op := Go.Op.load 49 (Go.Operand.tmp 1), type := 49, pos := "month.go:60", after := #[{ on := 4, ground := Go.Ground.guard }], guard := some (4, true) }) (v := ?vx5) (by rw [hops]; rfl) (by first | exact trivial | rfl) hS ?ex5 ?hx5
    case ex5 => intro w' hw'; obtain ⟨hcl, _⟩ := hw'; obtain ⟨c0, c1, c2⟩ := hcl.m.cells; have d0 := hcl.n.cell; clear hcl; go_simp; (try rfl)
    (try simp only [Act.put, List.setIfInBounds_toArray, List.set_cons_zero, List.set_cons_succ])
    refine wpLinG_pure (o := { dst := some 11, op := Go.Op.move (Go.Operand.tmp 0), type := 3, pos := "month.go:60", after := #[{ on := 4, ground := Go.Ground.guard }], guard := some (4, true) }) (v := ?vx6) (by rw [hops]; rfl) (by first | exact trivial | rfl) ?ex6 ?hx6
    case ex6 => intro w'; go_simp; (try rfl)
    (try simp only [Act.put, List.setIfInBounds_toArray, List.set_cons_zero, List.set_cons_succ])
    refine wpLinG_read (o := { dst := some 13, op := Go.Op.load 3 (Go.Operand.tmp 2), type := 3, pos := "month.go:60", after := #[{ on := 4, ground := Go.Ground.guard }], guard := some (4, true) }) (v := ?vx7) (by rw [hops]; rfl) (by first | exact trivial | rfl) hS ?ex7 ?hx7
    case ex7 => intro w' hw'; obtain ⟨hcl, _⟩ := hw'; obtain ⟨c0, c1, c2⟩ := hcl.m.cells; have d0 := hcl.n.cell; clear hcl; go_simp; (try rfl)
    (try simp only [Act.put, List.setIfInBounds_toArray, List.set_cons_zero, List.set_cons_succ])
    refine wpLinG_do (o := { dst := some 12, op := Go.Op.call { callee := Go.Callee.value (Go.Operand.func 57), args := #[Go.Operand.tmp 10, Go.Operand.tmp 11], argTypes := #[49, 3] }, type := 3, pos := "month.go:60", after := #[{ on := 5, ground := Go.Ground.data }, { on := 6, ground := Go.Ground.data }, { on := 4, ground := Go.Ground.chain }, { on := 4, ground := Go.Ground.guard }], guard := some (4, true) }) (by rw [hops]; rfl) (by first | exact trivial | rfl) (fun K hK => ?_)
    go_simp
    refine (KN.out _).mono ?_
    rintro e X ⟨rfl, hb⟩
    replace hS : CloW Bm Bn q a L n X ∧ Below w.heap.size w X := ⟨hS.1.later hb, hS.2.trans (hb.mono hS.2.size)⟩
    clear hb
    refine hK _ _ trivial hS ?_
    clear hK K
    (try simp only [Act.put, List.setIfInBounds_toArray, List.set_cons_zero, List.set_cons_succ])
    refine wpLinG_pure (o := { dst := some 14, op := Go.Op.binOp Go.BinOp.eql 3 (Go.Operand.tmp 12) (Go.Operand.tmp 13) 3, type := 4, pos := "month.go:60", after := #[{ on := 7, ground := Go.Ground.data }, { on := 8, ground := Go.Ground.data }, { on := 4, ground := Go.Ground.guard }], guard := some (4, true) }) (v := ?vx9) (by rw [hops]; rfl) (by first | exact trivial | rfl) ?ex9 ?hx9
    case ex9 => intro w'; go_simp; (try rfl)
    (try simp only [Act.put, List.setIfInBounds_toArray, List.set_cons_zero, List.set_cons_succ])
    refine wpLinG_pure (o := { dst := some 15, op := Go.Op.pick (Go.Operand.tmp 9) (Go.Operand.tmp 14) (Go.Operand.const (Go.Value.bool false)), type := 4, pos := "month.go:60", after := #[{ on := 4, ground := Go.Ground.data }, { on := 9, ground := Go.Ground.data }], guard := none }) (v := ?vx10) (by rw [hops]; rfl) (by first | exact trivial | rfl) ?ex10 ?hx10
    case ex10 => intro w'; go_simp; (try rfl)
    (try simp only [Act.put, List.setIfInBounds_toArray, List.set_cons_zero, List.set_cons_succ])
    refine wpLinG_pure (o := { dst := some 4, op := Go.Op.assign (Go.Operand.tmp 15), type := 4, pos := "month.go:60", after := #[{ on := 10, ground := Go.Ground.data }, { on := 7, ground := Go.Ground.chain }, { on := 0, ground := Go.Ground.phase }, { on := 1, ground := Go.Ground.phase }, { on := 2, ground := Go.Ground.phase }, { on := 3, ground := Go.Ground.phase }, { on := 4, ground := Go.Ground.phase }, { on := 5, ground := Go.Ground.phase }, { on := 6, ground := Go.Ground.phase }, { on := 7, ground := Go.Ground.phase }, { on := 8, ground := Go.Ground.phase }, { on := 9, ground := Go.Ground.phase }, { on := 10, ground := Go.Ground.phase }], guard := none }) (v := ?vx11) (by rw [hops]; rfl) (by first | exact trivial | rfl) ?ex11 ?hx11
    case ex11 => intro w'; go_simp; (try rfl)
    (try simp only [Act.put, List.setIfInBounds_toArray, List.set_cons_zero, List.set_cons_succ])
    subst hQ'
    refine NoPanic.normal ?_
    clear hops
    have hB := hS.2
    clear hS
    go_wp2
    go_ret
    exact ⟨by first | rfl | simp, hB⟩
  · have hR : R = false := by rw [HI.out, decide_eq_false ht]; rfl
    have q1 : decide (t ≤ L) = false := decide_eq_false ht
    subst hR
    clear HI KN h
    go_enter Tryz.func56, Tryz.ntmps56
    go_wp2_with fail
    go_quiet (fail)
    have HBD := hide (below_dr (Below.refl w.heap.size w) nq)
    go_wp2
    go_ret
    exact ⟨rfl, HBD.out⟩
set_option maxRecDepth 100000 in
set_option maxHeartbeats 4000000 in
theorem indexF_any (Bm Bn : Nat) (q a L n : Int) (A : Option Addr) (c : Nat) (l : List Int) (w : World) (h : IL A l w) (hn : l.length ≤ 1000) (hl : ∀ k, k < l.length → -1000 ≤ l.getD k 0 ∧ l.getD k 0 ≤ 1000) (hc : CloW Bm Bn q a L n w) (a1 : -5000000 ≤ a) (a2 : a ≤ 5000000) :
    Calls Tryz.prog 86 #[.slice A l.length c, .func (.func 56) #[] #[.pointer (some ⟨Bm, 0, none⟩), .pointer (some ⟨Bn, 0, none⟩)]] w fun e w' => ∃ i : Int, e = .returned (.int .i64 i) ∧ decide (0 ≤ i) = anyN (fun k => isN a L n (l.getD k 0)) l.length ∧ Below w.heap.size w w' := by
  have HL := hide h
  have HC := hide hc
  have HB := hide hl
  have K := hide (fun t W (hc : CloW Bm Bn q a L n W) n1 n2 => isNearest_any Bm Bn q a L n t W hc a1 a2 n1 n2)
  have HY : Hid (∀ k, k < l.length → isN a L n (l.getD k 0) = true → anyN (fun k => isN a L n (l.getD k 0)) l.length = true) := fun k hk hv => anyN_yes hv hk
  have HN : Hid (Crn.allB (fun k => !(isN a L n (l.getD k 0))) l.length = true → anyN (fun k => isN a L n (l.getD k 0)) l.length = false) := fun h => anyN_no h
  generalize anyN (fun k => isN a L n (l.getD k 0)) l.length = R at *
  clear h hc hl
  go_enter Tryz.func86, Tryz.ntmps86
  go_wp2_with fail
  go_loopw [8] (fun i wr => ∃ k : Nat, k ≤ l.length ∧ i = .int .i64 k ∧ Crn.allB (fun k => !(isN a L n (l.getD k 0))) k = true ∧ Below w.heap.size w wr) (fun i _ => l.length - (intOf i).toNat)
  case atStart => exact ⟨0, by omega, rfl, rfl, Below.refl _ _⟩
  case round =>
    obtain ⟨k, hk, rfl, hall, hb⟩ := hrel
    by_cases hlt : k < l.length
    · have hki : (k : Int) < l.length := by omega
      obtain ⟨ad, rfl, hc⟩ := (HL.out.later hb) k hlt
      have hy := HY.out k hlt
      have hst : Crn.allB (fun k => !(isN a L n (l.getD k 0))) (k + 1) = (Crn.allB (fun k => !(isN a L n (l.getD k 0))) k && !(isN a L n (l.getD k 0))) := rfl
      rw [hall, Bool.true_and] at hst
      have HH := hide (And.intro hy hst)
      have hbd := HB.out k hlt
      have hX := hide (K.out (l.getD k 0) wr (HC.out.later hb) hbd.1 hbd.2)
      clear hy hst hall
      generalize isN a L n (l.getD k 0) = o at *
      generalize l.getD k 0 = v at *
      go_wp2_with fail
      refine hX.out.mono ?_
      rintro e W ⟨rfl, b⟩
      have hb2 := hb.trans (b.mono hb.size)
      clear hX hb b
      cases o
      · have HST := hide HH.out.2
        clear HH
        go_wp2
        go_roundw
        case rel => exact ⟨k + 1, by omega, by go_num, HST.out, hb2⟩
        case measure => simp [intOf]; omega
      · have hR := HH.out.1 rfl
        subst hR
        go_wp2
        go_ret
        exact ⟨k, rfl, by simp, hb2⟩
    · have hkn : k = l.length := by omega
      have hki : (l.length : Int) ≤ k := by omega
      rw [hkn] at hall
      have hR := HN.out hall
      subst hR
      go_wp2
      go_ret
      exact ⟨-1, rfl, by simp, hb⟩
set_option maxHeartbeats 1000000 in
theorem containsF_any (Bm Bn : Nat) (q a L n : Int) (A : Option Addr) (c : Nat) (l : List Int) (w : World) (h : IL A l w) (hn : l.length ≤ 1000) (hl : ∀ k, k < l.length → -1000 ≤ l.getD k 0 ∧ l.getD k 0 ≤ 1000) (hc : CloW Bm Bn q a L n w) (a1 : -5000000 ≤ a) (a2 : a ≤ 5000000) :
    Calls Tryz.prog 58 #[.slice A l.length c, .func (.func 56) #[] #[.pointer (some ⟨Bm, 0, none⟩), .pointer (some ⟨Bn, 0, none⟩)]] w fun e w' => e = .returned (.bool (anyN (fun k => isN a L n (l.getD k 0)) l.length)) ∧ Below w.heap.size w w' := by
  have K := hide (indexF_any Bm Bn q a L n A c l w h hn hl hc a1 a2)
  clear h hl hc
  generalize anyN (fun k => isN a L n (l.getD k 0)) l.length = R at *
  go_enter Tryz.func58, Tryz.ntmps58
  go_wp2_with fail
  refine K.out.mono ?_
  rintro e W ⟨i, rfl, hi, hb⟩
  go_wp2
  go_ret
  exact ⟨ret_bool (by first | exact hi | rw [← hi] | (rw [← hi]; simp)), hb⟩
end Go.Proofs.YtgbbplkpepaidaaGreatDoor
