/- plan: gap, soonestBy, soonest, place, end. (Written by gen/plnb.py.) -/
import Derived.Test.YtjmjabdokckdlaaDoorPlnA
import Derived.Test.YtjmjabdokckdlaaDoorLinG
import Derived.Deep.RegionHeld3
namespace Go.Proofs.YtjmjabdokckdlaaDoor
open Go.RowKit
set_option linter.unusedVariables false
set_option linter.unusedSimpArgs false

/-- a row of spans from a block's beginning on -/
def SpAt (q n : Nat) (s : Sp) (w : World) : Prop := ∀ t, t < n → w.cell? ⟨q, t * 2, none⟩ = some (.int .i64 (s t).1) ∧ w.cell? ⟨q, t * 2 + 1, none⟩ = some (.int .i64 (s t).2)
theorem SpAt.below {w w' : World} {q n : Nat} {s : Sp} (h : SpAt q n s w) (hB : Below w.heap.size w w') : SpAt q n s w' := fun t ht => ⟨(hB.cell (World.block_lt_of_cell? w _ (h t ht).1)).trans (h t ht).1, (hB.cell (World.block_lt_of_cell? w _ (h t ht).2)).trans (h t ht).2⟩
/-- spans within what numbers bear -/
def SpBd (n : Nat) (s : Sp) : Prop := ∀ t, t < n → -4000000000000 ≤ (s t).1 ∧ (s t).1 ≤ 4000000000000 ∧ -4000000000000 ≤ (s t).2 ∧ (s t).2 ≤ 4000000000000
theorem i64_id {x : Int} (h1 : -9223372036854775808 ≤ x) (h2 : x ≤ 9223372036854775807) : IntKind.i64.wrap x = x := by
  simp [IntKind.wrap, IntKind.signed, IntKind.bits]; omega
set_option maxHeartbeats 1000000 in
theorem gap_any (x : Lk) (len oth : Int) (w : World) (hk : 1 ≤ x.k ∧ x.k ≤ 4) (hg : -1000000 ≤ x.g ∧ x.g ≤ 1000000) (hl : 0 ≤ len ∧ len ≤ 1000000) (ho : 0 ≤ oth ∧ oth ≤ 1000000) :
    Calls Tryd.prog 62 #[.agg #[.int .i64 x.t, .int .i64 x.k, .int .i64 x.g], .int .i64 len, .int .i64 oth] w fun e w' => e = .returned (.int .i64 (x.gap len oth)) ∧ Below w.heap.size w w' := by
  obtain ⟨t, k, g⟩ := x
  dsimp only at *
  have hB : Below w.heap.size w (w.alloc (.cells #[.int .i64 t, .int .i64 k, .int .i64 g] 47)) := (Below.refl _ w).alloc (Nat.le_refl _) _
  have HB := hide hB
  clear hB
  have e1 := wrap64_id (x := g + oth) (by omega) (by omega)
  have e2 := wrap64_id (x := g - len) (by omega) (by omega)
  have e3 := wrap64_id (x := g + oth - len) (by omega) (by omega)
  have hk4 : k = 1 ∨ k = 2 ∨ k = 3 ∨ k = 4 := by omega
  rcases hk4 with rfl | rfl | rfl | rfl
  all_goals
    go_enter Tryd.func62, Tryd.ntmps62
    go_wp2
    go_ret
    exact ⟨ret_int (by unfold Lk.gap; simp), HB.out⟩
/-- what soonestBy reads -/
structure SbS (w : World) (B t : Nat) (k g : Int) (q : Nat) (a : Int) (p1 : Addr) (l1 : Int) (p2 : Addr) (l2 : Int) (X : World) : Prop where
  c0 : X.cell? ⟨B, 0, none⟩ = some (.int .i64 (t : Int))
  c1 : X.cell? ⟨B, 1, none⟩ = some (.int .i64 k)
  c2 : X.cell? ⟨B, 2, none⟩ = some (.int .i64 g)
  c3 : X.cell? ⟨q, t * 2, none⟩ = some (.int .i64 a)
  c4 : X.cell? p1 = some (.int .i64 l1)
  c5 : X.cell? p2 = some (.int .i64 l2)
  b : Below w.heap.size w X
theorem SbS.step {w : World} {B t : Nat} {k g : Int} {q : Nat} {a : Int} {p1 : Addr} {l1 : Int} {p2 : Addr} {l2 : Int} {X X' : World} (h : SbS w B t k g q a p1 l1 p2 l2 X) (hb : Below X.heap.size X X') : SbS w B t k g q a p1 l1 p2 l2 X' :=
  have c {p : Addr} {v : Value} (e : X.cell? p = some v) : X'.cell? p = some v := (hb.cell (World.block_lt_of_cell? X _ e)).trans e
  ⟨c h.c0, c h.c1, c h.c2, c h.c3, c h.c4, c h.c5, h.b.trans (hb.mono h.b.size)⟩
set_option maxRecDepth 100000 in
set_option maxHeartbeats 4000000 in
theorem soonestBy_any {P : List Tk} (hG : Good P) (i : Nat) (hi : i < P.length) (x : Lk) (hx : x ∈ (tk P i).links) (s : Sp) (hs : SpBd P.length s) (v : Value) (q c : Nat) (w : World) (hv : TsAt w v P) (hq : SpAt q P.length s w) :
    Calls Tryd.prog 65 #[v, .int .i64 (i : Int), .agg #[.int .i64 x.t, .int .i64 x.k, .int .i64 x.g], .slice (some ⟨q, 0, none⟩) P.length c] w fun e w' => e = .returned (.int .i64 (byL P i s x)) ∧ Below w.heap.size w w' := by
  have hl := hG.link i hi x hx
  have hg := hG.gp i hi x hx
  have hle := hG.len i hi
  unfold byL
  unfold gp at hg ⊢
  obtain ⟨xt, xk, xg⟩ := x
  dsimp only at *
  obtain ⟨t, rfl⟩ : ∃ t : Nat, xt = (t : Int) := ⟨xt.toNat, by omega⟩
  rw [Int.toNat_natCast] at hg ⊢
  have ht : t < P.length := by omega
  have hlo := hG.len t ht
  have hsb := hs t ht
  obtain ⟨ad, cap, rfl, hall⟩ := hv
  obtain ⟨g0, o, lv, uv, rfl, h0, _⟩ := hall i hi
  obtain ⟨g1, o1, lv1, uv1, e, h1, _⟩ := hall t ht
  obtain ⟨rfl, rfl⟩ : g0 = g1 ∧ o = o1 := by simpa using e
  have hqt := (hq t ht).1
  have hii : (i : Int) < (P.length : Int) := by omega
  have hti : (t : Int) < (P.length : Int) := by omega
  have KG := hide (fun W => gap_any ⟨(t : Int), xk, xg⟩ (tk P i).len (tk P t).len W ⟨hl.2.2.1, hl.2.2.2.1⟩ ⟨hl.2.2.2.2.1, hl.2.2.2.2.2.1⟩ hle hlo)
  have e1 := i64_id (x := (s t).1 + (⟨(t : Int), xk, xg⟩ : Lk).gap (tk P i).len (tk P t).len) (by omega) (by omega)
  have HE := hide e1
  have hS : SbS w w.heap.size t xk xg q (s t).1 ⟨g0, o + i * 4, none⟩ (tk P i).len ⟨g0, o + t * 4, none⟩ (tk P t).len (w.alloc (.cells #[.int .i64 (t : Int), .int .i64 xk, .int .i64 xg] 47)) := by
    have c {p : Addr} {v : Value} (e : w.cell? p = some v) : (w.alloc (.cells #[.int .i64 (t : Int), .int .i64 xk, .int .i64 xg] 47)).cell? p = some v := (((Below.refl _ w).alloc (Nat.le_refl _) _).cell (World.block_lt_of_cell? w _ e)).trans e
    exact ⟨by simp, by simp, by simp, c hqt, c h0, c h1, (Below.refl _ w).alloc (Nat.le_refl _) _⟩
  clear hs hall e e1 h0 h1 hqt hq hx hG
  generalize hgg : (⟨(t : Int), xk, xg⟩ : Lk).gap (tk P i).len (tk P t).len = gg at *
  generalize (tk P i).len = li at *
  generalize (tk P t).len = lt' at *
  generalize (s t).1 = st at *
  go_enter Tryd.func65, Tryd.ntmps65
  go_wp2_with fail
  obtain ⟨W0, hW0⟩ : ∃ W0, w.alloc (.cells #[.int .i64 (t : Int), .int .i64 xk, .int .i64 xg] 47) = W0 := ⟨_, rfl⟩
  rw [hW0] at hS ⊢
  clear hW0
  replace hS := hS.step (Below.drew (Below.refl _ W0))
  refine wp_region_noPanic ?_
  refine wp_region_linGM (S := fun X => SbS w w.heap.size t xk xg q st ⟨g0, o + i * 4, none⟩ li ⟨g0, o + t * 4, none⟩ lt' X) (R := fun _ => True) [] (by kernel_rfl) (by kernel_rfl) [(0, none, 1), (1, none, 1), (2, none, 0), (3, none, 1), (4, none, 1), (5, none, 0), (6, none, 0), (7, none, 1), (8, none, 1), (9, none, 1), (10, none, 1), (11, none, 0), (12, none, 1), (13, none, 1), (14, none, 0), (15, none, 1), (16, none, 1), (17, none, 0), (18, none, 2), (19, none, 1), (20, none, 1)] (by kernel_rfl) (by kernel_rfl) (fun _ _ _ _ _ h => h) (by exact trivial) (by exact hS) (fun ops' Q' hops hQ' => ?_)
  refine wpLinG_pure (o := { dst := some 9, op := Go.Op.move (Go.Operand.tmp 3), type := 23, pos := "times.go:23", after := #[], guard := none }) (v := ?vx0) (by rw [hops]; rfl) (by first | exact trivial | rfl) ?ex0 ?hx0
  case ex0 => intro w'; go_simp; (try rfl)
  (try simp only [Act.put, List.setIfInBounds_toArray, List.set_cons_zero, List.set_cons_succ])
  refine wpLinG_pure (o := { dst := some 10, op := Go.Op.fieldAddr 47 (Go.Operand.tmp 6) 0, type := 0, pos := "times.go:23", after := #[], guard := none }) (v := ?vx1) (by rw [hops]; rfl) (by first | exact trivial | rfl) ?ex1 ?hx1
  case ex1 => intro w'; go_simp; (try rfl)
  (try simp only [Act.put, List.setIfInBounds_toArray, List.set_cons_zero, List.set_cons_succ])
  refine wpLinG_read (o := { dst := some 11, op := Go.Op.load 3 (Go.Operand.tmp 10), type := 3, pos := "times.go:23", after := #[{ on := 1, ground := Go.Ground.data }], guard := none }) (v := ?vx2) (by rw [hops]; rfl) (by first | exact trivial | rfl) hS ?ex2 ?hx2
  case ex2 => intro w' hw'; obtain ⟨c0, c1, c2, c3, c4, c5, _⟩ := hw'; go_simp; (try rfl)
  (try simp only [Act.put, List.setIfInBounds_toArray, List.set_cons_zero, List.set_cons_succ])
  refine wpLinG_pure (o := { dst := some 12, op := Go.Op.indexAddr 23 (Go.Operand.tmp 9) (Go.Operand.tmp 11), type := 0, pos := "times.go:23", after := #[{ on := 0, ground := Go.Ground.data }, { on := 2, ground := Go.Ground.data }], guard := none }) (v := ?vx3) (by rw [hops]; rfl) (by first | exact trivial | rfl) ?ex3 ?hx3
  case ex3 => intro w'; go_simp; (try rfl)
  (try simp only [Act.put, List.setIfInBounds_toArray, List.set_cons_zero, List.set_cons_succ])
  refine wpLinG_pure (o := { dst := some 13, op := Go.Op.fieldAddr 37 (Go.Operand.tmp 12) 0, type := 0, pos := "times.go:23", after := #[{ on := 3, ground := Go.Ground.data }], guard := none }) (v := ?vx4) (by rw [hops]; rfl) (by first | exact trivial | rfl) ?ex4 ?hx4
  case ex4 => intro w'; go_simp; (try rfl)
  (try simp only [Act.put, List.setIfInBounds_toArray, List.set_cons_zero, List.set_cons_succ])
  refine wpLinG_read (o := { dst := some 14, op := Go.Op.load 3 (Go.Operand.tmp 13), type := 3, pos := "times.go:23", after := #[{ on := 4, ground := Go.Ground.data }], guard := none }) (v := ?vx5) (by rw [hops]; rfl) (by first | exact trivial | rfl) hS ?ex5 ?hx5
  case ex5 => intro w' hw'; obtain ⟨c0, c1, c2, c3, c4, c5, _⟩ := hw'; go_simp; (try rfl)
  (try simp only [Act.put, List.setIfInBounds_toArray, List.set_cons_zero, List.set_cons_succ])
  refine wpLinG_read (o := { dst := some 15, op := Go.Op.load 47 (Go.Operand.tmp 6), type := 47, pos := "times.go:23", after := #[], guard := none }) (v := ?vx6) (by rw [hops]; rfl) (by first | exact trivial | rfl) hS ?ex6 ?hx6
  case ex6 => intro w' hw'; obtain ⟨c0, c1, c2, c3, c4, c5, _⟩ := hw'; go_simp; (try rfl)
  (try simp only [Act.put, List.setIfInBounds_toArray, List.set_cons_zero, List.set_cons_succ])
  refine wpLinG_pure (o := { dst := some 16, op := Go.Op.move (Go.Operand.tmp 0), type := 22, pos := "times.go:23", after := #[], guard := none }) (v := ?vx7) (by rw [hops]; rfl) (by first | exact trivial | rfl) ?ex7 ?hx7
  case ex7 => intro w'; go_simp; (try rfl)
  (try simp only [Act.put, List.setIfInBounds_toArray, List.set_cons_zero, List.set_cons_succ])
  refine wpLinG_pure (o := { dst := some 17, op := Go.Op.move (Go.Operand.tmp 1), type := 3, pos := "times.go:23", after := #[], guard := none }) (v := ?vx8) (by rw [hops]; rfl) (by first | exact trivial | rfl) ?ex8 ?hx8
  case ex8 => intro w'; go_simp; (try rfl)
  (try simp only [Act.put, List.setIfInBounds_toArray, List.set_cons_zero, List.set_cons_succ])
  refine wpLinG_pure (o := { dst := some 18, op := Go.Op.indexAddr 22 (Go.Operand.tmp 16) (Go.Operand.tmp 17), type := 0, pos := "times.go:23", after := #[{ on := 7, ground := Go.Ground.data }, { on := 8, ground := Go.Ground.data }], guard := none }) (v := ?vx9) (by rw [hops]; rfl) (by first | exact trivial | rfl) ?ex9 ?hx9
  case ex9 => intro w'; go_simp; (try rfl)
  (try simp only [Act.put, List.setIfInBounds_toArray, List.set_cons_zero, List.set_cons_succ])
  refine wpLinG_pure (o := { dst := some 19, op := Go.Op.fieldAddr 45 (Go.Operand.tmp 18) 0, type := 0, pos := "times.go:23", after := #[{ on := 9, ground := Go.Ground.data }], guard := none }) (v := ?vx10) (by rw [hops]; rfl) (by first | exact trivial | rfl) ?ex10 ?hx10
  case ex10 => intro w'; go_simp; (try rfl)
  (try simp only [Act.put, List.setIfInBounds_toArray, List.set_cons_zero, List.set_cons_succ])
  refine wpLinG_read (o := { dst := some 20, op := Go.Op.load 3 (Go.Operand.tmp 19), type := 3, pos := "times.go:23", after := #[{ on := 10, ground := Go.Ground.data }], guard := none }) (v := ?vx11) (by rw [hops]; rfl) (by first | exact trivial | rfl) hS ?ex11 ?hx11
  case ex11 => intro w' hw'; obtain ⟨c0, c1, c2, c3, c4, c5, _⟩ := hw'; go_simp; (try rfl)
  (try simp only [Act.put, List.setIfInBounds_toArray, List.set_cons_zero, List.set_cons_succ])
  refine wpLinG_pure (o := { dst := some 21, op := Go.Op.move (Go.Operand.tmp 0), type := 22, pos := "times.go:23", after := #[], guard := none }) (v := ?vx12) (by rw [hops]; rfl) (by first | exact trivial | rfl) ?ex12 ?hx12
  case ex12 => intro w'; go_simp; (try rfl)
  (try simp only [Act.put, List.setIfInBounds_toArray, List.set_cons_zero, List.set_cons_succ])
  refine wpLinG_pure (o := { dst := some 22, op := Go.Op.fieldAddr 47 (Go.Operand.tmp 6) 0, type := 0, pos := "times.go:23", after := #[], guard := none }) (v := ?vx13) (by rw [hops]; rfl) (by first | exact trivial | rfl) ?ex13 ?hx13
  case ex13 => intro w'; go_simp; (try rfl)
  (try simp only [Act.put, List.setIfInBounds_toArray, List.set_cons_zero, List.set_cons_succ])
  refine wpLinG_read (o := { dst := some 23, op := Go.Op.load 3 (Go.Operand.tmp 22), type := 3, pos := "times.go:23", after := #[{ on := 13, ground := Go.Ground.data }], guard := none }) (v := ?vx14) (by rw [hops]; rfl) (by first | exact trivial | rfl) hS ?ex14 ?hx14
  case ex14 => intro w' hw'; obtain ⟨c0, c1, c2, c3, c4, c5, _⟩ := hw'; go_simp; (try rfl)
  (try simp only [Act.put, List.setIfInBounds_toArray, List.set_cons_zero, List.set_cons_succ])
  refine wpLinG_pure (o := { dst := some 24, op := Go.Op.indexAddr 22 (Go.Operand.tmp 21) (Go.Operand.tmp 23), type := 0, pos := "times.go:23", after := #[{ on := 12, ground := Go.Ground.data }, { on := 14, ground := Go.Ground.data }], guard := none }) (v := ?vx15) (by rw [hops]; rfl) (by first | exact trivial | rfl) ?ex15 ?hx15
  case ex15 => intro w'; go_simp; (try rfl)
  (try simp only [Act.put, List.setIfInBounds_toArray, List.set_cons_zero, List.set_cons_succ])
  refine wpLinG_pure (o := { dst := some 25, op := Go.Op.fieldAddr 45 (Go.Operand.tmp 24) 0, type := 0, pos := "times.go:23", after := #[{ on := 15, ground := Go.Ground.data }], guard := none }) (v := ?vx16) (by rw [hops]; rfl) (by first | exact trivial | rfl) ?ex16 ?hx16
  case ex16 => intro w'; go_simp; (try rfl)
  (try simp only [Act.put, List.setIfInBounds_toArray, List.set_cons_zero, List.set_cons_succ])
  refine wpLinG_read (o := { dst := some 26, op := Go.Op.load 3 (Go.Operand.tmp 25), type := 3, pos := "times.go:23", after := #[{ on := 16, ground := Go.Ground.data }], guard := none }) (v := ?vx17) (by rw [hops]; rfl) (by first | exact trivial | rfl) hS ?ex17 ?hx17
  case ex17 => intro w' hw'; obtain ⟨c0, c1, c2, c3, c4, c5, _⟩ := hw'; go_simp; (try rfl)
  (try simp only [Act.put, List.setIfInBounds_toArray, List.set_cons_zero, List.set_cons_succ])
  refine wpLinG_do (o := { dst := some 27, op := Go.Op.call { callee := Go.Callee.value (Go.Operand.func 62), args := #[Go.Operand.tmp 15, Go.Operand.tmp 20, Go.Operand.tmp 26], argTypes := #[47, 3, 3] }, type := 3, pos := "times.go:23", after := #[{ on := 6, ground := Go.Ground.data }, { on := 11, ground := Go.Ground.data }, { on := 17, ground := Go.Ground.data }], guard := none }) (by rw [hops]; rfl) (by first | exact trivial | rfl) (fun K hK => ?_)
  go_simp
  refine (KG.out _).mono ?_
  rintro e X ⟨rfl, hb⟩
  replace hS := hS.step hb
  clear hb
  refine hK _ _ trivial hS ?_
  clear hK K
  (try simp only [Act.put, List.setIfInBounds_toArray, List.set_cons_zero, List.set_cons_succ])
  refine wpLinG_pure (o := { dst := some 28, op := Go.Op.binOp Go.BinOp.add 3 (Go.Operand.tmp 14) (Go.Operand.tmp 27) 3, type := 3, pos := "times.go:23", after := #[{ on := 5, ground := Go.Ground.data }, { on := 18, ground := Go.Ground.data }], guard := none }) (v := ?vx19) (by rw [hops]; rfl) (by first | exact trivial | rfl) ?ex19 ?hx19
  case ex19 => intro w'; go_simp; (try rfl)
  (try simp only [Act.put, List.setIfInBounds_toArray, List.set_cons_zero, List.set_cons_succ])
  refine wpLinG_pure (o := { dst := some 8, op := Go.Op.assign (Go.Operand.tmp 28), type := 3, pos := "times.go:23", after := #[{ on := 19, ground := Go.Ground.data }, { on := 18, ground := Go.Ground.chain }, { on := 0, ground := Go.Ground.phase }, { on := 1, ground := Go.Ground.phase }, { on := 2, ground := Go.Ground.phase }, { on := 3, ground := Go.Ground.phase }, { on := 4, ground := Go.Ground.phase }, { on := 5, ground := Go.Ground.phase }, { on := 6, ground := Go.Ground.phase }, { on := 7, ground := Go.Ground.phase }, { on := 8, ground := Go.Ground.phase }, { on := 9, ground := Go.Ground.phase }, { on := 10, ground := Go.Ground.phase }, { on := 11, ground := Go.Ground.phase }, { on := 12, ground := Go.Ground.phase }, { on := 13, ground := Go.Ground.phase }, { on := 14, ground := Go.Ground.phase }, { on := 15, ground := Go.Ground.phase }, { on := 16, ground := Go.Ground.phase }, { on := 17, ground := Go.Ground.phase }, { on := 18, ground := Go.Ground.phase }, { on := 19, ground := Go.Ground.phase }], guard := none }) (v := ?vx20) (by rw [hops]; rfl) (by first | exact trivial | rfl) ?ex20 ?hx20
  case ex20 => intro w'; go_simp; (try rfl)
  (try simp only [Act.put, List.setIfInBounds_toArray, List.set_cons_zero, List.set_cons_succ])
  subst hQ'
  refine NoPanic.normal ?_
  have hB := hS.b
  clear hops
  go_wp2
  go_ret
  exact ⟨ret_int HE.out, hB⟩
theorem max_if (b y : Int) : (if b < y then y else b) = max b y := by split <;> omega
theorem soonL_snoc (P : List Tk) (i : Nat) (s : Sp) (b : Int) (l : List Lk) (m : Nat) (h : m < l.length) : soonL P i s b (l.take (m + 1)) = max (soonL P i s b (l.take m)) (byL P i s (lk l m)) := by
  unfold soonL
  rw [List.take_succ_eq_append_getElem h, List.foldl_append, lk_at l m h]
  rfl
set_option maxRecDepth 100000 in
set_option maxHeartbeats 4000000 in
theorem soonest_any {P : List Tk} (hG : Good P) (i : Nat) (hi : i < P.length) (s : Sp) (hs : SpBd P.length s) (v : Value) (q c : Nat) (w : World) (hv : TsAt w v P) (hq : SpAt q P.length s w) :
    Calls Tryd.prog 56 #[v, .int .i64 (i : Int), .slice (some ⟨q, 0, none⟩) P.length c] w fun e w' => e = .returned (.int .i64 (soon P i s)) ∧ Below w.heap.size w w' := by
  have hv' := hv
  obtain ⟨ad, cap, rfl, hall⟩ := hv
  obtain ⟨g0, o, lv, uv, rfl, h0, h1, h2, h3, hl, hu⟩ := hall i hi
  obtain ⟨la, lc, rfl, hls⟩ := hl
  have hii : (i : Int) < (P.length : Int) := by omega
  have KS := hide (fun (x : Lk) (hx : x ∈ (tk P i).links) (W : World) (hW : TsAt W (.slice (some ⟨g0, o, none⟩) P.length cap) P) (hQ : SpAt q P.length s W) => soonestBy_any hG i hi x hx s hs _ q c W hW hQ)
  have HV := hide (And.intro hv' hq)
  have HL := hide hls
  have h60 := (hG.cnt i hi).1
  clear hall hv' hq hls h0 hu hG hs
  go_enter Tryd.func56, Tryd.ntmps56
  go_wp2_with fail
  go_loopw [7, 21] (fun b j wr => ∃ m : Nat, m ≤ (tk P i).links.length ∧ j = .int .i64 m ∧ b = .int .i64 (soonL P i s (tk P i).nb ((tk P i).links.take m)) ∧ Below w.heap.size w wr) (fun _ j _ => (tk P i).links.length - (intOf j).toNat)
  case atStart => exact ⟨0, by omega, rfl, by simp [soonL], Below.refl _ _⟩
  case round =>
    obtain ⟨m, hm, rfl, rfl, hB⟩ := hrel
    by_cases hlt : m < (tk P i).links.length
    · have hmi : (m : Int) < ((tk P i).links.length : Int) := by omega
      obtain ⟨g1, o1, rfl, y0, y1, y2⟩ := HL.out m hlt
      have hy0 := (hB.cell (World.block_lt_of_cell? w _ y0)).trans y0
      have hy1 := (hB.cell (World.block_lt_of_cell? w _ y1)).trans y1
      have hy2 := (hB.cell (World.block_lt_of_cell? w _ y2)).trans y2
      have hmem := lk_mem _ m hlt
      have hst := soonL_snoc P i s (tk P i).nb _ m hlt
      have HB := hide hB
      have KX := hide (fun W (hb : Below w.heap.size w W) => KS.out _ hmem W (HV.out.1.below hb) (HV.out.2.below hb))
      clear y0 y1 y2 hB hmem
      generalize lk (tk P i).links m = x at *
      generalize hbb : soonL P i s (tk P i).nb (List.take m (tk P i).links) = b at *
      obtain ⟨xt, xk, xg⟩ := x
      dsimp only at *
      generalize hyy : byL P i s ⟨xt, xk, xg⟩ = y at *
      have HN := hide (HB.out.alloc HB.out.size (.cells #[.int .i64 xt, .int .i64 xk, .int .i64 xg] 47))
      go_wp2_with (go_at_call 65; refine (KX.out _ HN.out).mono ?_; rintro e X ⟨rfl, hx⟩)
      go_roundw
      case rel => exact ⟨m + 1, by omega, by go_num, by rw [hst, max_if], HN.out.trans (hx.mono HN.out.size)⟩
      case measure => simp [intOf]; omega
    · obtain rfl : m = (tk P i).links.length := by omega
      rw [List.take_length]
      have HB := hide hB
      clear hB
      go_wp2_with fail
      go_ret
      exact ⟨rfl, HB.out⟩
theorem place_any (a b c' d : Value) (len x : Int) (w : World) (h1 : -4000000000000 ≤ x ∧ x ≤ 4000000000000) (h2 : 0 ≤ len ∧ len ≤ 1000000) :
    Calls Tryd.prog 55 #[.agg #[.int .i64 len, b, c', d], .int .i64 x] w fun e w' => e = .returned (.agg #[.int .i64 x, .int .i64 (x + len)]) ∧ Below w.heap.size w w' := by
  have e1 := wrap64_id (x := x + len) (by omega) (by omega)
  have hB : Below w.heap.size w ((w.alloc (.cells #[.int .i64 len, b, c', d] 45)).alloc (.cells #[.int .i64 x, .int .i64 (x + len)] 37)) := ((Below.refl _ w).alloc (Nat.le_refl _) _).alloc (by simp) _
  have HB := hide hB
  clear hB
  go_enter Tryd.func55, Tryd.ntmps55
  go_wp2
  refine bodyPost_ret (v := .agg #[.int .i64 x, .int .i64 (x + len)]) ?_ rfl ⟨rfl, HB.out⟩
  simp [results, Tryd.results55, go_sem]
set_option maxHeartbeats 2000000 in
theorem end_any (n : Nat) (s : Sp) (q c : Nat) (w : World) (hn : n ≤ 1000000) (hq : SpAt q n s w) :
    Calls Tryd.prog 42 #[.slice (some ⟨q, 0, none⟩) n c] w fun e w' => e = .returned (.int .i64 (endS n s)) ∧ Below w.heap.size w w' := by
  have HQ := hide hq
  clear hq
  go_enter Tryd.func42, Tryd.ntmps42
  go_wp2_with fail
  go_loopw [3, 8] (fun b j wr => ∃ m : Nat, m ≤ n ∧ j = .int .i64 m ∧ b = .int .i64 (endS m s) ∧ Below w.heap.size w wr) (fun _ j _ => n - (intOf j).toNat)
  case atStart => exact ⟨0, by omega, rfl, rfl, Below.refl _ _⟩
  case round =>
    obtain ⟨m, hm, rfl, rfl, hB⟩ := hrel
    by_cases hlt : m < n
    · have hmi : (m : Int) < (n : Int) := by omega
      obtain ⟨y0, y1⟩ := HQ.out m hlt
      have hy0 := (hB.cell (World.block_lt_of_cell? w _ y0)).trans y0
      have hy1 := (hB.cell (World.block_lt_of_cell? w _ y1)).trans y1
      have hst := endS_succ m s
      have HB := hide hB
      clear y0 y1 hB
      generalize endS m s = b at *
      generalize (s m).1 = u at *
      generalize (s m).2 = z at *
      go_wp2_with fail
      go_roundw
      case rel => exact ⟨m + 1, by omega, by go_num, by rw [hst, max_if], HB.out.alloc HB.out.size _⟩
      case measure => simp [intOf]; omega
    · obtain rfl : m = n := by omega
      have HB := hide hB
      clear hB
      go_wp2_with fail
      go_ret
      exact ⟨rfl, HB.out⟩
end Go.Proofs.YtjmjabdokckdlaaDoor
