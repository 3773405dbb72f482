/- plan: lastOf, waitsFor. (Written by gen/plno.py.) -/
import Derived.Test.YtjmjabdokckdlaaDoorPlnN
namespace Go.Proofs.YtjmjabdokckdlaaDoor
open Go.RowKit Go.Shelf
set_option linter.unusedVariables false
set_option linter.unusedSimpArgs false

/-- the first of those that end the last -/
def laI (s : Sp) : Nat → Nat
  | 0 => 0
  | m + 1 => if (s (laI s m)).2 < (s m).2 then m else laI s m
theorem laI_lt (s : Sp) : ∀ m, 0 < m → laI s m < m
  | 1, _ => by unfold laI; split <;> simp [laI]
  | m + 2, _ => by
    have := laI_lt s (m + 1) (by omega)
    unfold laI
    split <;> omega
theorem laI_ge (s : Sp) : ∀ m i, i < m → (s i).2 ≤ (s (laI s m)).2
  | m + 1, i, hi => by
    have hp := laI_ge s m
    unfold laI
    by_cases e : i = m
    · subst e; split <;> omega
    · have := hp i (by omega)
      split <;> omega
set_option maxRecDepth 100000 in
set_option maxHeartbeats 4000000 in
theorem lastOf_any (n : Nat) (s : Sp) (q c : Nat) (w : World) (h1 : 0 < n) (hn : n ≤ 1000000) (hq : SpAt q n s w) :
    Calls Tryd.prog 44 #[.slice (some ⟨q, 0, none⟩) n c] w fun e w' => e = .returned (.int .i64 (laI s n : Nat)) ∧ Below w.heap.size w w' := by
  have HQ := hide hq
  clear hq
  go_enter Tryd.func44, Tryd.ntmps44
  go_wp2_with fail
  go_loopw [3, 8] (fun b j wr => ∃ m : Nat, m ≤ n ∧ j = .int .i64 m ∧ b = .int .i64 (laI s m : Nat) ∧ Below w.heap.size w wr) (fun _ j _ => n - (intOf j).toNat)
  case atStart => exact ⟨0, by omega, rfl, rfl, Below.refl _ _⟩
  case round =>
    obtain ⟨m, hm, rfl, rfl, hB⟩ := hrel
    by_cases hlt : m < n
    · have hmi : (m : Int) < (n : Int) := by omega
      have hln : laI s m < n := by
        by_cases e : m = 0
        · subst e; simpa [laI] using h1
        · have := laI_lt s m (by omega); omega
      have hlni : ((laI s m : Nat) : Int) < (n : Int) := by omega
      have hl0 : (0 : Int) ≤ ((laI s m : Nat) : Int) := by omega
      have hQ := HQ.out.below hB
      have y0 := (hQ m hlt).1
      have y1 := (hQ m hlt).2
      have z1 := (hQ (laI s m) hln).2
      have hst : laI s (m + 1) = if (s (laI s m)).2 < (s m).2 then m else laI s m := rfl
      have hqz : q < wr.heap.size := World.block_lt_of_cell? wr _ y0
      have hBn := hB.alloc hB.size (.cells #[.int .i64 (s m).1, .int .i64 (s m).2] 37)
      have HB := hide hBn
      clear hB hQ hBn
      generalize laI s m = k at *
      by_cases hc : (s k).2 < (s m).2
      · rw [if_pos hc] at hst
        have d1 : decide ((s k).2 < (s m).2) = true := decide_eq_true hc
        generalize (s m).1 = a at *
        generalize (s m).2 = b at *
        generalize (s k).2 = d at *
        go_wp2_with fail
        go_quiet (fail)
        go_wp2_with fail
        go_roundw
        case rel => exact ⟨m + 1, by omega, by go_num, by rw [hst], by repeat (first | exact HB.out | apply bdr)⟩
        case measure => simp [intOf]; omega
      · rw [if_neg hc] at hst
        have d1 : decide ((s k).2 < (s m).2) = false := decide_eq_false hc
        generalize (s m).1 = a at *
        generalize (s m).2 = b at *
        generalize (s k).2 = d at *
        go_wp2_with fail
        go_quiet (fail)
        go_wp2_with fail
        go_roundw
        case rel => exact ⟨m + 1, by omega, by go_num, by rw [hst], by repeat (first | exact HB.out | apply bdr)⟩
        case measure => simp [intOf]; omega
    · obtain rfl : m = n := by omega
      have HB := hide hB
      clear hB
      go_wp2_with fail
      go_ret
      exact ⟨rfl, HB.out⟩
/-- what the closure of waitsFor lies on -/
structure WfX (z : Nat) (v : Value) (i : Nat) (u : Value) (X : World) : Prop where
  c0 : X.cell? ⟨z, 0, none⟩ = some v
  c1 : X.cell? ⟨z + 1, 0, none⟩ = some (.int .i64 (i : Int))
  c2 : X.cell? ⟨z + 1 + 1, 0, none⟩ = some u
theorem WfX.step {z : Nat} {v : Value} {i : Nat} {u : Value} {X X' : World} (h : WfX z v i u X) (hb : Below X.heap.size X X') : WfX z v i u X' :=
  have e {p : Addr} {v : Value} (e : X.cell? p = some v) : X'.cell? p = some v := (hb.cell (World.block_lt_of_cell? X _ e)).trans e
  ⟨e h.c0, e h.c1, e h.c2⟩
set_option maxRecDepth 100000 in
set_option maxHeartbeats 4000000 in
theorem wf1_any {P : List Tk} (hG : Good P) (i : Nat) (hi : i < P.length) (x : Lk) (hx : x ∈ (tk P i).links) (s : Sp) (hs : SpBd P.length s) (ad : Option Addr) (c : Nat) (q c' z : Nat) (w : World) (hv : TsAt w (.slice ad P.length c) P) (hq : SpAt q P.length s w) (hz : WfX z (.slice ad P.length c) i (.slice (some ⟨q, 0, none⟩) P.length c') w) :
    Calls Tryd.prog 64 #[.agg #[.int .i64 x.t, .int .i64 x.k, .int .i64 x.g], .pointer (some ⟨z, 0, none⟩), .pointer (some ⟨z + 1, 0, none⟩), .pointer (some ⟨z + 1 + 1, 0, none⟩)] w fun e w' => e = .returned (.bool (decide (byL P i s x = (s i).1))) ∧ Below w.heap.size w w' := by
  have KS := hide (fun W (hb : Below w.heap.size w W) => soonestBy_any hG i hi x hx s hs _ q c' W (hv.below hb) (hq.below hb))
  have hqi := (hq i hi).1
  have hii : (i : Int) < (P.length : Int) := by omega
  obtain ⟨xt, xk, xg⟩ := x
  dsimp only at KS ⊢
  have hn := (Below.refl _ w).alloc (Nat.le_refl _) (.cells #[.int .i64 xt, .int .i64 xk, .int .i64 xg] 47)
  have hS : (WfX z (.slice ad P.length c) i (.slice (some ⟨q, 0, none⟩) P.length c') (w.alloc (.cells #[.int .i64 xt, .int .i64 xk, .int .i64 xg] 47)) ∧ (w.alloc (.cells #[.int .i64 xt, .int .i64 xk, .int .i64 xg] 47)).cell? ⟨w.heap.size, 0, none⟩ = some (.int .i64 xt) ∧ (w.alloc (.cells #[.int .i64 xt, .int .i64 xk, .int .i64 xg] 47)).cell? ⟨w.heap.size, 1, none⟩ = some (.int .i64 xk) ∧ (w.alloc (.cells #[.int .i64 xt, .int .i64 xk, .int .i64 xg] 47)).cell? ⟨w.heap.size, 2, none⟩ = some (.int .i64 xg) ∧ (w.alloc (.cells #[.int .i64 xt, .int .i64 xk, .int .i64 xg] 47)).cell? ⟨q, i * 2, none⟩ = some (.int .i64 (s i).1)) ∧ Below w.heap.size w (w.alloc (.cells #[.int .i64 xt, .int .i64 xk, .int .i64 xg] 47)) :=
    ⟨⟨hz.step hn, by simp, by simp, by simp, (hn.cell (World.block_lt_of_cell? w _ hqi)).trans hqi⟩, hn⟩
  clear hv hq hz hqi hn hx hs hG
  generalize byL P i s ⟨xt, xk, xg⟩ = y at *
  generalize (s i).1 = si at *
  go_enter Tryd.func64, Tryd.ntmps64
  go_wp2_with fail
  generalize w.alloc (.cells #[.int .i64 xt, .int .i64 xk, .int .i64 xg] 47) = W0 at *
  generalize hzz : w.heap.size = zz at *
  have hstep : ∀ X X' : World, Below X.heap.size X X' → ((WfX z (.slice ad P.length c) i (.slice (some ⟨q, 0, none⟩) P.length c') X ∧ X.cell? ⟨zz, 0, none⟩ = some (.int .i64 xt) ∧ X.cell? ⟨zz, 1, none⟩ = some (.int .i64 xk) ∧ X.cell? ⟨zz, 2, none⟩ = some (.int .i64 xg) ∧ X.cell? ⟨q, i * 2, none⟩ = some (.int .i64 si)) ∧ Below zz w X) → ((WfX z (.slice ad P.length c) i (.slice (some ⟨q, 0, none⟩) P.length c') X' ∧ X'.cell? ⟨zz, 0, none⟩ = some (.int .i64 xt) ∧ X'.cell? ⟨zz, 1, none⟩ = some (.int .i64 xk) ∧ X'.cell? ⟨zz, 2, none⟩ = some (.int .i64 xg) ∧ X'.cell? ⟨q, i * 2, none⟩ = some (.int .i64 si)) ∧ Below zz w X') := fun X X' hb ⟨⟨h1, h2, h3, h4, h5⟩, h6⟩ =>
    have e {p : Addr} {v : Value} (e : X.cell? p = some v) : X'.cell? p = some v := (hb.cell (World.block_lt_of_cell? X _ e)).trans e
    ⟨⟨h1.step hb, e h2, e h3, e h4, e h5⟩, h6.trans (hb.mono (by have := h6.size; omega))⟩
  replace hS := hstep _ _ (Below.drew (Below.refl _ W0)) hS
  refine wp_region_noPanic ?_
  refine wp_region_linGM (S := fun X => (WfX z (.slice ad P.length c) i (.slice (some ⟨q, 0, none⟩) P.length c') X ∧ X.cell? ⟨zz, 0, none⟩ = some (.int .i64 xt) ∧ X.cell? ⟨zz, 1, none⟩ = some (.int .i64 xk) ∧ X.cell? ⟨zz, 2, none⟩ = some (.int .i64 xg) ∧ X.cell? ⟨q, i * 2, none⟩ = some (.int .i64 si)) ∧ Below zz w X) (R := fun _ => True) [] (by kernel_rfl) (by kernel_rfl) [(0, none, 0), (1, none, 0), (2, none, 0), (3, none, 0), (5, none, 0), (6, none, 0), (7, none, 1), (8, none, 1), (9, none, 0), (4, none, 2), (10, none, 1), (11, none, 1)] (by kernel_rfl) (by kernel_rfl) (fun _ _ _ _ _ h => h) (by exact trivial) (by exact hS) (fun ops' Q' hops hQ' => ?_)
  refine wpLinG_read (o := { dst := some 6, op := Go.Op.load 22 (Go.Operand.tmp 1), type := 22, pos := "path.go:39", after := #[], guard := none }) (v := ?vx0) (by rw [hops]; rfl) (by first | exact trivial | rfl) hS ?ex0 ?hx0
  case ex0 => intro w' hw'; obtain ⟨⟨⟨k0, k1, k2⟩, k3, k4, k5, k6⟩, _⟩ := hw'; go_simp; (try rfl)
  (try simp only [Act.put, List.setIfInBounds_toArray, List.set_cons_zero, List.set_cons_succ])
  refine wpLinG_read (o := { dst := some 7, op := Go.Op.load 3 (Go.Operand.tmp 2), type := 3, pos := "path.go:39", after := #[], guard := none }) (v := ?vx1) (by rw [hops]; rfl) (by first | exact trivial | rfl) hS ?ex1 ?hx1
  case ex1 => intro w' hw'; obtain ⟨⟨⟨k0, k1, k2⟩, k3, k4, k5, k6⟩, _⟩ := hw'; go_simp; (try rfl)
  (try simp only [Act.put, List.setIfInBounds_toArray, List.set_cons_zero, List.set_cons_succ])
  refine wpLinG_read (o := { dst := some 8, op := Go.Op.load 47 (Go.Operand.tmp 4), type := 47, pos := "path.go:39", after := #[], guard := none }) (v := ?vx2) (by rw [hops]; rfl) (by first | exact trivial | rfl) hS ?ex2 ?hx2
  case ex2 => intro w' hw'; obtain ⟨⟨⟨k0, k1, k2⟩, k3, k4, k5, k6⟩, _⟩ := hw'; go_simp; (try rfl)
  (try simp only [Act.put, List.setIfInBounds_toArray, List.set_cons_zero, List.set_cons_succ])
  refine wpLinG_read (o := { dst := some 9, op := Go.Op.load 23 (Go.Operand.tmp 3), type := 23, pos := "path.go:39", after := #[], guard := none }) (v := ?vx3) (by rw [hops]; rfl) (by first | exact trivial | rfl) hS ?ex3 ?hx3
  case ex3 => intro w' hw'; obtain ⟨⟨⟨k0, k1, k2⟩, k3, k4, k5, k6⟩, _⟩ := hw'; go_simp; (try rfl)
  (try simp only [Act.put, List.setIfInBounds_toArray, List.set_cons_zero, List.set_cons_succ])
  refine wpLinG_read (o := { dst := some 11, op := Go.Op.load 23 (Go.Operand.tmp 3), type := 23, pos := "path.go:39", after := #[], guard := none }) (v := ?vx4) (by rw [hops]; rfl) (by first | exact trivial | rfl) hS ?ex4 ?hx4
  case ex4 => intro w' hw'; obtain ⟨⟨⟨k0, k1, k2⟩, k3, k4, k5, k6⟩, _⟩ := hw'; go_simp; (try rfl)
  (try simp only [Act.put, List.setIfInBounds_toArray, List.set_cons_zero, List.set_cons_succ])
  refine wpLinG_read (o := { dst := some 12, op := Go.Op.load 3 (Go.Operand.tmp 2), type := 3, pos := "path.go:39", after := #[], guard := none }) (v := ?vx5) (by rw [hops]; rfl) (by first | exact trivial | rfl) hS ?ex5 ?hx5
  case ex5 => intro w' hw'; obtain ⟨⟨⟨k0, k1, k2⟩, k3, k4, k5, k6⟩, _⟩ := hw'; go_simp; (try rfl)
  (try simp only [Act.put, List.setIfInBounds_toArray, List.set_cons_zero, List.set_cons_succ])
  refine wpLinG_pure (o := { dst := some 13, op := Go.Op.indexAddr 23 (Go.Operand.tmp 11) (Go.Operand.tmp 12), type := 0, pos := "path.go:39", after := #[{ on := 5, ground := Go.Ground.data }, { on := 6, ground := Go.Ground.data }], guard := none }) (v := ?vx6) (by rw [hops]; rfl) (by first | exact trivial | rfl) ?ex6 ?hx6
  case ex6 => intro w'; go_simp; (try rfl)
  (try simp only [Act.put, List.setIfInBounds_toArray, List.set_cons_zero, List.set_cons_succ])
  refine wpLinG_pure (o := { dst := some 14, op := Go.Op.fieldAddr 37 (Go.Operand.tmp 13) 0, type := 0, pos := "path.go:39", after := #[{ on := 7, ground := Go.Ground.data }], guard := none }) (v := ?vx7) (by rw [hops]; rfl) (by first | exact trivial | rfl) ?ex7 ?hx7
  case ex7 => intro w'; go_simp; (try rfl)
  (try simp only [Act.put, List.setIfInBounds_toArray, List.set_cons_zero, List.set_cons_succ])
  refine wpLinG_read (o := { dst := some 15, op := Go.Op.load 3 (Go.Operand.tmp 14), type := 3, pos := "path.go:39", after := #[{ on := 8, ground := Go.Ground.data }], guard := none }) (v := ?vx8) (by rw [hops]; rfl) (by first | exact trivial | rfl) hS ?ex8 ?hx8
  case ex8 => intro w' hw'; obtain ⟨⟨⟨k0, k1, k2⟩, k3, k4, k5, k6⟩, _⟩ := hw'; go_simp; (try rfl)
  (try simp only [Act.put, List.setIfInBounds_toArray, List.set_cons_zero, List.set_cons_succ])
  refine wpLinG_do (o := { dst := some 10, op := Go.Op.call { callee := Go.Callee.value (Go.Operand.func 65), args := #[Go.Operand.tmp 6, Go.Operand.tmp 7, Go.Operand.tmp 8, Go.Operand.tmp 9], argTypes := #[22, 3, 47, 23] }, type := 3, pos := "path.go:39", after := #[{ on := 0, ground := Go.Ground.data }, { on := 1, ground := Go.Ground.data }, { on := 2, ground := Go.Ground.data }, { on := 3, ground := Go.Ground.data }], guard := none }) (by rw [hops]; rfl) (by first | exact trivial | rfl) (fun K hK => ?_)
  go_simp
  refine (KS.out _ hS.2).mono ?_
  rintro e X ⟨rfl, hb⟩
  replace hS := hstep _ _ hb hS
  clear hb
  refine hK _ _ trivial hS ?_
  clear hK K
  (try simp only [Act.put, List.setIfInBounds_toArray, List.set_cons_zero, List.set_cons_succ])
  refine wpLinG_pure (o := { dst := some 16, op := Go.Op.binOp Go.BinOp.eql 3 (Go.Operand.tmp 10) (Go.Operand.tmp 15) 3, type := 4, pos := "path.go:39", after := #[{ on := 4, ground := Go.Ground.data }, { on := 9, ground := Go.Ground.data }], guard := none }) (v := ?vx10) (by rw [hops]; rfl) (by first | exact trivial | rfl) ?ex10 ?hx10
  case ex10 => intro w'; go_simp; (try rfl)
  (try simp only [Act.put, List.setIfInBounds_toArray, List.set_cons_zero, List.set_cons_succ])
  refine wpLinG_pure (o := { dst := some 5, op := Go.Op.assign (Go.Operand.tmp 16), type := 4, pos := "path.go:39", after := #[{ on := 10, ground := Go.Ground.data }, { on := 4, ground := Go.Ground.chain }, { on := 0, ground := Go.Ground.phase }, { on := 1, ground := Go.Ground.phase }, { on := 2, ground := Go.Ground.phase }, { on := 3, ground := Go.Ground.phase }, { on := 4, ground := Go.Ground.phase }, { on := 5, ground := Go.Ground.phase }, { on := 6, ground := Go.Ground.phase }, { on := 7, ground := Go.Ground.phase }, { on := 8, ground := Go.Ground.phase }, { on := 9, ground := Go.Ground.phase }, { on := 10, ground := Go.Ground.phase }], guard := none }) (v := ?vx11) (by rw [hops]; rfl) (by first | exact trivial | rfl) ?ex11 ?hx11
  case ex11 => intro w'; go_simp; (try rfl)
  (try simp only [Act.put, List.setIfInBounds_toArray, List.set_cons_zero, List.set_cons_succ])
  subst hQ'
  refine NoPanic.normal ?_
  have hB := hS.2
  clear hops
  go_wp2
  go_ret
  exact ⟨by first | rfl | (congr 1), by rw [hzz]; exact hB⟩
set_option maxRecDepth 100000 in
set_option maxHeartbeats 4000000 in
theorem wfIdx_any {P : List Tk} (hG : Good P) (i : Nat) (hi : i < P.length) (s : Sp) (hs : SpBd P.length s) (ad : Option Addr) (c : Nat) (lv : Value) (q c' z : Nat) (w : World) (hv : TsAt w (.slice ad P.length c) P) (hl : LsAt w lv (tk P i).links) (hq : SpAt q P.length s w) (hz : WfX z (.slice ad P.length c) i (.slice (some ⟨q, 0, none⟩) P.length c') w)
    (hex : ∃ x ∈ (tk P i).links, byL P i s x = (s i).1) :
    Calls Tryd.prog 63 #[lv, .func (.func 64) #[] #[.pointer (some ⟨z, 0, none⟩), .pointer (some ⟨z + 1, 0, none⟩), .pointer (some ⟨z + 1 + 1, 0, none⟩)]] w fun e w' => ∃ k : Nat, k < (tk P i).links.length ∧ e = .returned (.int .i64 k) ∧ byL P i s (lk (tk P i).links k) = (s i).1 ∧ (∀ j, j < k → byL P i s (lk (tk P i).links j) ≠ (s i).1) ∧ Below w.heap.size w w' := by
  have h60 := (hG.cnt i hi).1
  have K := hide (fun (j : Nat) (hj : j < (tk P i).links.length) W (hb : Below w.heap.size w W) => wf1_any hG i hi _ (lk_mem _ j hj) s hs ad c q c' z W (hv.below hb) (hq.below hb) ⟨(hb.cell (World.block_lt_of_cell? w _ hz.c0)).trans hz.c0, (hb.cell (World.block_lt_of_cell? w _ hz.c1)).trans hz.c1, (hb.cell (World.block_lt_of_cell? w _ hz.c2)).trans hz.c2⟩)
  have hall : ¬ ∀ j, j < (tk P i).links.length → byL P i s (lk (tk P i).links j) ≠ (s i).1 := fun h => by
    obtain ⟨x, hx, he⟩ := hex
    obtain ⟨j, hj, rfl⟩ := List.getElem_of_mem hx
    exact h j hj (by rw [lk_at _ j hj]; exact he)
  obtain ⟨la, lc, rfl, hls⟩ := hl
  have HL := hide hls
  clear hv hq hz hs hG hls hex
  generalize (tk P i).links = L at *
  go_enter Tryd.func63, Tryd.ntmps63
  go_wp2_with fail
  go_loopw [8] (fun j wr => ∃ m : Nat, m ≤ L.length ∧ j = .int .i64 m ∧ (∀ j, j < m → byL P i s (lk L j) ≠ (s i).1) ∧ Below w.heap.size w wr) (fun j _ => L.length - (intOf j).toNat)
  case atStart => exact ⟨0, by omega, rfl, fun j hj => absurd hj (Nat.not_lt_zero _), Below.refl _ _⟩
  case round =>
    obtain ⟨m, hm, rfl, hno, hB⟩ := hrel
    by_cases hlt : m < L.length
    · have hmi : (m : Int) < (L.length : Int) := by omega
      obtain ⟨g, o, rfl, y0, y1, y2⟩ := HL.out m hlt
      have x0 := (hB.cell (World.block_lt_of_cell? w _ y0)).trans y0
      have x1 := (hB.cell (World.block_lt_of_cell? w _ y1)).trans y1
      have x2 := (hB.cell (World.block_lt_of_cell? w _ y2)).trans y2
      have KX := hide (K.out m hlt wr hB)
      have HB := hide hB
      have HN := hide hno
      clear y0 y1 y2 hB hno hall
      by_cases he : byL P i s (lk L m) = (s i).1
      · rw [decide_eq_true he] at KX
        generalize (lk L m).t = a at *
        generalize (lk L m).k = b at *
        generalize (lk L m).g = d at *
        go_wp2_with (go_at_call 64; refine KX.out.mono ?_; rintro e X ⟨rfl, hx⟩)
        go_ret
        exact ⟨m, hlt, rfl, he, HN.out, HB.out.trans (hx.mono HB.out.size)⟩
      · rw [decide_eq_false he] at KX
        generalize (lk L m).t = a at *
        generalize (lk L m).k = b at *
        generalize (lk L m).g = d at *
        go_wp2_with (go_at_call 64; refine KX.out.mono ?_; rintro e X ⟨rfl, hx⟩)
        go_roundw
        case rel => exact ⟨m + 1, by omega, by go_num, fun j hj => (by
          by_cases e : j = m
          · subst e; exact he
          · exact HN.out j (by omega)), HB.out.trans (hx.mono HB.out.size)⟩
        case measure => simp [intOf]; omega
    · obtain rfl : m = L.length := by omega
      exact absurd hno hall
set_option maxRecDepth 100000 in
set_option maxHeartbeats 4000000 in
theorem waitsFor_any {P : List Tk} (hG : Good P) (i : Nat) (hi : i < P.length) (s : Sp) (hs : SpBd P.length s) (v : Value) (q c' : Nat) (w : World) (hv : TsAt w v P) (hq : SpAt q P.length s w) (hex : ∃ x ∈ (tk P i).links, byL P i s x = (s i).1) :
    Calls Tryd.prog 45 #[v, .int .i64 (i : Int), .slice (some ⟨q, 0, none⟩) P.length c'] w fun e w' => ∃ k : Nat, k < (tk P i).links.length ∧ e = .returned (.int .i64 (lk (tk P i).links k).t) ∧ byL P i s (lk (tk P i).links k) = (s i).1 ∧ (∀ j, j < k → byL P i s (lk (tk P i).links j) ≠ (s i).1) ∧ Below w.heap.size w w' := by
  have hv' := hv
  have hii : (i : Int) < (P.length : Int) := by omega
  obtain ⟨ad, c, rfl, hall⟩ := hv
  obtain ⟨g, o, lv, uv, rfl, y0, y1, y2, y3, hls, hus⟩ := hall i hi
  have hls' := hls
  obtain ⟨la, lc, rfl, hlx⟩ := hls
  have hn1 := (Below.refl _ w).alloc (Nat.le_refl _) (.cells #[.slice (some ⟨g, o, none⟩) P.length c] 22)
  have hn2 := hn1.alloc hn1.size (.cells #[.int .i64 (i : Int)] 3)
  have hn3 := hn2.alloc hn2.size (.cells #[.slice (some ⟨q, 0, none⟩) P.length c'] 23)
  have hwf : WfX w.heap.size (.slice (some ⟨g, o, none⟩) P.length c) i (.slice (some ⟨q, 0, none⟩) P.length c') (((w.alloc (.cells #[.slice (some ⟨g, o, none⟩) P.length c] 22)).alloc (.cells #[.int .i64 (i : Int)] 3)).alloc (.cells #[.slice (some ⟨q, 0, none⟩) P.length c'] 23)) := by
    have b0 := ((Boxed.new w 22 (.slice (some ⟨g, o, none⟩) P.length c)).alloc (.cells #[.int .i64 (i : Int)] 3)).alloc (.cells #[.slice (some ⟨q, 0, none⟩) P.length c'] 23)
    have b1 := (Boxed.new (w.alloc (.cells #[.slice (some ⟨g, o, none⟩) P.length c] 22)) 3 (.int .i64 (i : Int))).alloc (.cells #[.slice (some ⟨q, 0, none⟩) P.length c'] 23)
    have b2 := Boxed.new ((w.alloc (.cells #[.slice (some ⟨g, o, none⟩) P.length c] 22)).alloc (.cells #[.int .i64 (i : Int)] 3)) 23 (.slice (some ⟨q, 0, none⟩) P.length c')
    rw [World.size_alloc] at b1 b2
    rw [World.size_alloc] at b2
    exact ⟨b0.cell, b1.cell, b2.cell⟩
  have K := hide (wfIdx_any hG i hi s hs _ c _ q c' w.heap.size _ (hv'.below hn3) (hls'.below hn3) (hq.below hn3) hwf hex)
  have hx2 := (hn3.cell (World.block_lt_of_cell? w _ y2)).trans y2
  have HX := hide hlx
  have HN := hide (And.intro hn3 hwf)
  have h0 := hwf.c0
  have h1 := hwf.c1
  clear hv' hq hex hs y0 y1 y2 y3 hls' hlx hn1 hn2 hn3 hwf hG hus hall
  generalize (tk P i).links = L at *
  go_enter Tryd.func45, Tryd.ntmps45
  go_wp2_with (go_at_call 63; refine K.out.mono ?_; rintro e X ⟨k, hk, rfl, he, hno, hb⟩; obtain ⟨g1, o1, rfl, z0, z1, z2⟩ := HX.out k hk; have hc0 := (hb.cell (World.block_lt_of_cell? _ _ h0)).trans h0; have hc1 := (hb.cell (World.block_lt_of_cell? _ _ h1)).trans h1; have hc2 := (hb.cell (World.block_lt_of_cell? _ _ hx2)).trans hx2; have hbw := HN.out.1.trans (hb.mono HN.out.1.size); have hcz := (hbw.cell (World.block_lt_of_cell? w _ z0)).trans z0; have hki : (k : Int) < (L.length : Int) := (by omega))
  go_ret
  exact ⟨k, hk, rfl, he, hno, hbw⟩
end Go.Proofs.YtjmjabdokckdlaaDoor
