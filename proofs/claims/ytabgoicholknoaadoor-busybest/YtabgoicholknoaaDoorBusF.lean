/- busy: who of those that must be there can't; how many meetings there may be. (Written by gen/busf.py.) -/
import Derived.Test.YtabgoicholknoaaDoorBusE
namespace Go.Proofs.YtabgoicholknoaaDoor
open Go.RowKit Go.Shelf Go.Maps
set_option linter.unusedVariables false
set_option linter.unusedSimpArgs false

/-- what the closure of Find has: a meeting, and people -/
structure FW (Bm Bp : Nat) (t n : Int) (pd : Option Addr) (pc : Nat) (Ps : List (List (Int × Int))) (W : World) : Prop where
  m0 : W.cell? ⟨Bm, 0, none⟩ = some (.int .i64 t)
  m1 : W.cell? ⟨Bm, 1, none⟩ = some (.int .i64 n)
  p0 : W.cell? ⟨Bp, 0, none⟩ = some (.slice pd Ps.length pc)
  ps : PsAt W (.slice pd Ps.length pc) Ps
theorem FW.later {Bm Bp : Nat} {t n : Int} {pd : Option Addr} {pc : Nat} {Ps : List (List (Int × Int))} {W W' : World} (h : FW Bm Bp t n pd pc Ps W) (hb : Below W.heap.size W W') : FW Bm Bp t n pd pc Ps W' :=
  ⟨(hb.cell (World.block_lt_of_cell? W _ h.m0)).trans h.m0, (hb.cell (World.block_lt_of_cell? W _ h.m1)).trans h.m1, (hb.cell (World.block_lt_of_cell? W _ h.p0)).trans h.p0, h.ps.below hb⟩
theorem PsAt.form {W : World} {pd : Option Addr} {pc : Nat} {Ps : List (List (Int × Int))} (h : PsAt W (.slice pd Ps.length pc) Ps) {k : Nat} (hk : k < Ps.length) : ∃ g a l c, pd = some ⟨g, 0, none⟩ ∧ W.cell? ⟨g, k, none⟩ = some (.slice a l c) ∧ SetAt W (.slice a l c) (Ps.getD k []) := by
  obtain ⟨ad, c, e, hj⟩ := h
  cases e
  exact hj k hk

set_option maxRecDepth 100000 in
set_option maxHeartbeats 4000000 in
theorem fclo_any (Bm Bp : Nat) (t n : Int) (t1 : -1000000000000 ≤ t) (t2 : t ≤ 1000000000000) (n1 : 0 ≤ n) (n2 : n ≤ 1000000000000) (pd : Option Addr) (pc : Nat) (Ps : List (List (Int × Int))) (hPs : PsOk Ps) (k : Nat) (hk : k < Ps.length) (w : World) (h : FW Bm Bp t n pd pc Ps w) :
    Calls Tryd.prog 25 #[.int .i64 k, .pointer (some ⟨Bm, 0, none⟩), .pointer (some ⟨Bp, 0, none⟩)] w fun e w' => e = .returned (.bool (bads t n Ps k)) ∧ Below w.heap.size w w' := by
  obtain ⟨g2, a, l, c, rfl, hy, hset⟩ := h.ps.form hk
  have hok := hPs.at' hk
  have hpe : bads t n Ps (k : Int) = bz t n (Ps.getD k []) := by unfold bads psn; rw [Int.toNat_natCast]
  rw [hpe]
  have hX := hide (fun W (hb : Below w.heap.size w W) => meets_any t n t1 t2 n1 n2 _ hok.1 hok.2 a l c W (hset.below hb))
  have hS : (w.drew.cell? ⟨Bm, 0, none⟩ = some (.int .i64 t) ∧ w.drew.cell? ⟨Bm, 1, none⟩ = some (.int .i64 n) ∧ w.drew.cell? ⟨Bp, 0, none⟩ = some (.slice (some ⟨g2, 0, none⟩) Ps.length pc) ∧ w.drew.cell? ⟨g2, k, none⟩ = some (.slice a l c)) ∧ Below w.heap.size w w.drew := ⟨⟨h.m0, h.m1, h.p0, hy⟩, (Below.refl _ w).drew⟩
  have hk0 : (0 : Int) ≤ k := by omega
  have hk1 : (k : Int) < Ps.length := by omega
  clear hy hset hok h hpe
  generalize bz t n (Ps.getD k []) = bb at *
  go_enter Tryd.func25, Tryd.ntmps25
  go_wp2_with fail
  refine wp_region_noPanic ?_
  refine wp_region_linGM (S := fun X => (X.cell? ⟨Bm, 0, none⟩ = some (.int .i64 t) ∧ X.cell? ⟨Bm, 1, none⟩ = some (.int .i64 n) ∧ X.cell? ⟨Bp, 0, none⟩ = some (.slice (some ⟨g2, 0, none⟩) Ps.length pc) ∧ X.cell? ⟨g2, k, none⟩ = some (.slice a l c)) ∧ Below w.heap.size w X) (R := fun _ => True) [] (by kernel_rfl) (by kernel_rfl) [(0, none, 0), (1, none, 0), (2, none, 1), (3, none, 1), (4, none, 0), (5, none, 2), (6, none, 1)] (by kernel_rfl) (by kernel_rfl) (fun _ _ _ _ _ h => h) (by exact trivial) (by exact hS) (fun ops' Q' hops hQ' => ?_)
  refine wpLinG_read (o := { dst := some 5, op := Go.Op.load 72 (Go.Operand.tmp 1), type := 72, pos := "find.go:18", after := #[], guard := none }) (v := ?vx0) (by rw [hops]; rfl) (by first | exact trivial | rfl) hS ?ex0 ?hx0
  case ex0 => intro w' hw'; obtain ⟨⟨e1, e2, e3, e4⟩, _⟩ := hw'; go_simp; (try rfl)
  (try simp only [Act.put, List.setIfInBounds_toArray, List.set_cons_zero, List.set_cons_succ])
  refine wpLinG_read (o := { dst := some 6, op := Go.Op.load 48 (Go.Operand.tmp 2), type := 48, pos := "find.go:18", after := #[], guard := none }) (v := ?vx1) (by rw [hops]; rfl) (by first | exact trivial | rfl) hS ?ex1 ?hx1
  case ex1 => intro w' hw'; obtain ⟨⟨e1, e2, e3, e4⟩, _⟩ := hw'; go_simp; (try rfl)
  (try simp only [Act.put, List.setIfInBounds_toArray, List.set_cons_zero, List.set_cons_succ])
  refine wpLinG_pure (o := { dst := some 7, op := Go.Op.move (Go.Operand.tmp 0), type := 3, pos := "find.go:18", after := #[], guard := none }) (v := ?vx2) (by rw [hops]; rfl) (by first | exact trivial | rfl) ?ex2 ?hx2
  case ex2 => intro w'; go_simp; (try rfl)
  (try simp only [Act.put, List.setIfInBounds_toArray, List.set_cons_zero, List.set_cons_succ])
  refine wpLinG_pure (o := { dst := some 8, op := Go.Op.indexAddr 48 (Go.Operand.tmp 6) (Go.Operand.tmp 7), type := 0, pos := "find.go:18", after := #[{ on := 1, ground := Go.Ground.data }, { on := 2, ground := Go.Ground.data }], guard := none }) (v := ?vx3) (by rw [hops]; rfl) (by first | exact trivial | rfl) ?ex3 ?hx3
  case ex3 => intro w'; go_simp; (try rfl)
  (try simp only [Act.put, List.setIfInBounds_toArray, List.set_cons_zero, List.set_cons_succ])
  refine wpLinG_read (o := { dst := some 9, op := Go.Op.load 30 (Go.Operand.tmp 8), type := 30, pos := "find.go:18", after := #[{ on := 3, ground := Go.Ground.data }], guard := none }) (v := ?vx4) (by rw [hops]; rfl) (by first | exact trivial | rfl) hS ?ex4 ?hx4
  case ex4 => intro w' hw'; obtain ⟨⟨e1, e2, e3, e4⟩, _⟩ := hw'; go_simp; (try rfl)
  (try simp only [Act.put, List.setIfInBounds_toArray, List.set_cons_zero, List.set_cons_succ])
  refine wpLinG_do (o := { dst := some 10, op := Go.Op.call { callee := Go.Callee.value (Go.Operand.func 26), args := #[Go.Operand.tmp 5, Go.Operand.tmp 9], argTypes := #[72, 30] }, type := 4, pos := "find.go:18", after := #[{ on := 0, ground := Go.Ground.data }, { on := 4, ground := Go.Ground.data }], guard := none }) (by rw [hops]; rfl) (by first | exact trivial | rfl) (fun K hK => ?_)
  go_simp
  have hq := hS.2
  refine (hX.out _ hq).mono ?_
  rintro e X ⟨rfl, hb⟩
  replace hS : (X.cell? ⟨Bm, 0, none⟩ = some (.int .i64 t) ∧ X.cell? ⟨Bm, 1, none⟩ = some (.int .i64 n) ∧ X.cell? ⟨Bp, 0, none⟩ = some (.slice (some ⟨g2, 0, none⟩) Ps.length pc) ∧ X.cell? ⟨g2, k, none⟩ = some (.slice a l c)) ∧ Below w.heap.size w X := ⟨⟨(hb.cell (World.block_lt_of_cell? _ _ hS.1.1)).trans hS.1.1, (hb.cell (World.block_lt_of_cell? _ _ hS.1.2.1)).trans hS.1.2.1, (hb.cell (World.block_lt_of_cell? _ _ hS.1.2.2.1)).trans hS.1.2.2.1, (hb.cell (World.block_lt_of_cell? _ _ hS.1.2.2.2)).trans hS.1.2.2.2⟩, hq.trans (hb.mono hq.size)⟩
  clear hb hq
  refine hK _ _ trivial hS ?_
  clear hK K
  (try simp only [Act.put, List.setIfInBounds_toArray, List.set_cons_zero, List.set_cons_succ])
  refine wpLinG_pure (o := { dst := some 4, op := Go.Op.assign (Go.Operand.tmp 10), type := 4, pos := "find.go:18", after := #[{ on := 5, ground := Go.Ground.data }, { on := 5, ground := Go.Ground.chain }, { on := 0, ground := Go.Ground.phase }, { on := 1, ground := Go.Ground.phase }, { on := 2, ground := Go.Ground.phase }, { on := 3, ground := Go.Ground.phase }, { on := 4, ground := Go.Ground.phase }, { on := 5, ground := Go.Ground.phase }], guard := none }) (v := ?vx6) (by rw [hops]; rfl) (by first | exact trivial | rfl) ?ex6 ?hx6
  case ex6 => intro w'; go_simp; (try rfl)
  (try simp only [Act.put, List.setIfInBounds_toArray, List.set_cons_zero, List.set_cons_succ])
  subst hQ'
  refine NoPanic.normal ?_
  clear hops
  have hB := hS.2
  clear hS
  go_wp2
  go_ret
  exact ⟨rfl, hB⟩
def anyTo (f : Nat → Bool) : Nat → Bool
  | 0 => false
  | k + 1 => anyTo f k || f k
theorem anyTo_list (f : Int → Bool) (l : List Int) : ∀ k, k ≤ l.length → anyTo (fun j => f (l.getD j 0)) k = (l.take k).any f
  | 0, _ => by simp [anyTo]
  | k + 1, h => by
    rw [anyTo, anyTo_list f l k (by omega), List.take_succ_eq_append_getElem (by omega), List.any_append, getD_at l k 0 (by omega)]; simp
theorem anyTo_yes {f : Nat → Bool} : ∀ {n k : Nat}, k < n → f k = true → anyTo f n = true
  | n + 1, k, hk, h => by
    rw [anyTo]
    by_cases e : k = n
    · subst e; rw [h, Bool.or_true]
    · rw [anyTo_yes (show k < n by omega) h, Bool.true_or]
set_option maxRecDepth 100000 in
set_option maxHeartbeats 4000000 in
theorem findex_any (Bm Bp : Nat) (t n : Int) (t1 : -1000000000000 ≤ t) (t2 : t ≤ 1000000000000) (n1 : 0 ≤ n) (n2 : n ≤ 1000000000000) (pd : Option Addr) (pc : Nat) (Ps : List (List (Int × Int))) (hPs : PsOk Ps) (who : List Int) (hwho : ∀ x ∈ who, 0 ≤ x ∧ x < Ps.length) (v : Value) (w : World) (hI : IsAt w v who) (h : FW Bm Bp t n pd pc Ps w) :
    Calls Tryd.prog 36 #[v, .func (.func 25) #[] #[.pointer (some ⟨Bm, 0, none⟩), .pointer (some ⟨Bp, 0, none⟩)]] w fun e w' => ∃ i : Int, e = .returned (.int .i64 i) ∧ decide (0 ≤ i) = anyTo (fun j => bads t n Ps (who.getD j 0)) who.length ∧ Below w.heap.size w w' := by
  obtain ⟨ad, cap, rfl, hlen, hall⟩ := hI
  have HALL := hide hall
  have HF := hide h
  have HW := hide hwho
  obtain ⟨R, hR⟩ : ∃ R, anyTo (fun j => bads t n Ps (who.getD j 0)) who.length = R := ⟨_, rfl⟩
  rw [hR]
  have HR := hide hR
  clear hR
  have K := hide (fun k hk W hW => fclo_any Bm Bp t n t1 t2 n1 n2 pd pc Ps hPs k hk W hW)
  clear hall h hwho
  go_enter Tryd.func36, Tryd.ntmps36
  go_wp2_with fail
  go_loopw [8] (fun i wr => ∃ m : Nat, m ≤ who.length ∧ i = .int .i64 m ∧ anyTo (fun j => bads t n Ps (who.getD j 0)) m = false ∧ Below w.heap.size w wr) (fun i _ => who.length - (intOf i).toNat)
  case atStart => exact ⟨0, by omega, rfl, rfl, Below.refl _ _⟩
  case round =>
    obtain ⟨m, hm, rfl, hno, hb⟩ := hrel
    by_cases hlt : m < who.length
    · have hmi : (m : Int) < (who.length : Int) := by omega
      have hm0 : (0 : Int) ≤ m := by omega
      obtain ⟨g, og, rfl, hx⟩ := HALL.out m hlt
      have hx0 := (hb.cell (World.block_lt_of_cell? w _ hx)).trans hx
      have hwx := HW.out (who.getD m 0) (by rw [getD_at who m 0 hlt]; exact List.getElem_mem hlt)
      have hst : anyTo (fun j => bads t n Ps (who.getD j 0)) (m + 1) = (anyTo (fun j => bads t n Ps (who.getD j 0)) m || bads t n Ps (who.getD m 0)) := rfl
      have hyes : bads t n Ps (who.getD m 0) = true → R = true := fun h => HR.out ▸ anyTo_yes hlt h
      rw [hno, Bool.false_or] at hst
      generalize who.getD m 0 = x at hx0 hwx hst hyes
      obtain ⟨k, rfl⟩ : ∃ k : Nat, x = k := ⟨x.toNat, by omega⟩
      have hX := hide (K.out k (by omega) wr (HF.out.later hb))
      have HH := hide (And.intro hst hyes)
      clear hst hyes hno hx
      generalize bads t n Ps (k : Int) = o at *
      go_wp2_with fail
      refine hX.out.mono ?_
      rintro e W ⟨rfl, b⟩
      have hb2 := hb.trans (b.mono hb.size)
      clear hX hb b
      cases o
      · go_wp2
        go_roundw
        case rel => exact ⟨m + 1, by omega, by go_num, HH.out.1, hb2⟩
        case measure => simp [intOf]; omega
      · go_wp2
        go_ret
        refine ⟨_, rfl, ?_, hb2⟩
        rw [HH.out.2 (by first | rfl | trivial)]
        exact decide_eq_true hm0
    · obtain rfl : m = who.length := by omega
      have hmi : ¬ (who.length : Int) < (who.length : Int) := by omega
      have HH := hide hno
      clear hno
      go_wp2
      go_ret
      exact ⟨_, rfl, by rw [← HR.out, HH.out]; rfl, hb⟩
set_option maxRecDepth 100000 in
set_option maxHeartbeats 4000000 in
theorem fcont_any (Bm Bp : Nat) (t n : Int) (t1 : -1000000000000 ≤ t) (t2 : t ≤ 1000000000000) (n1 : 0 ≤ n) (n2 : n ≤ 1000000000000) (pd : Option Addr) (pc : Nat) (Ps : List (List (Int × Int))) (hPs : PsOk Ps) (who : List Int) (hwho : ∀ x ∈ who, 0 ≤ x ∧ x < Ps.length) (v : Value) (w : World) (hI : IsAt w v who) (h : FW Bm Bp t n pd pc Ps w) :
    Calls Tryd.prog 24 #[v, .func (.func 25) #[] #[.pointer (some ⟨Bm, 0, none⟩), .pointer (some ⟨Bp, 0, none⟩)]] w fun e w' => e = .returned (.bool (who.any (bads t n Ps))) ∧ Below w.heap.size w w' := by
  have K := hide (findex_any Bm Bp t n t1 t2 n1 n2 pd pc Ps hPs who hwho v w hI h)
  clear hI h
  go_enter Tryd.func24, Tryd.ntmps24
  go_wp2_with (go_at_call 36; refine K.out.mono ?_; rintro e W ⟨i, rfl, hi, hb⟩; (have HI := hide hi); clear hi)
  go_ret
  refine ⟨?_, hb⟩
  have := anyTo_list (bads t n Ps) who who.length (Nat.le_refl _)
  rw [List.take_length] at this
  rw [← this, ← HI.out]
  rfl
set_option maxHeartbeats 2000000 in
theorem meetings_any (W : Wn) (mv sv : Value) (f1 : -1000000000000 ≤ W.from') (f2 : W.from' ≤ 1000000000000) (t1 : -1000000000000 ≤ W.to') (t2 : W.to' ≤ 1000000000000) (l1 : 0 ≤ W.len) (l2 : W.len ≤ 1000000000000) (s1 : 1 ≤ W.step) (w : World) :
    Calls Tryd.prog 23 #[wantV W mv sv] w fun e w' => e = .returned (.int .i64 W.many) ∧ Below w.heap.size w w' := by
  have hw1 : wrap64 (W.to' - W.from') = W.to' - W.from' := by rw [wrap64_id] <;> omega
  have hw2 : wrap64 (W.to' - W.from' - W.len) = W.to' - W.from' - W.len := by rw [wrap64_id] <;> omega
  have hst : W.step ≠ 0 := by omega
  have hbx : Below w.heap.size w (w.alloc (wantC W mv sv)) := (Below.refl _ w).alloc (Nat.le_refl _) _
  unfold wantV
  by_cases h : W.to' - W.from' - W.len < 0
  · have hV : W.many = 0 := by unfold Wn.many; rw [if_pos h]
    rw [hV]
    clear hV
    go_enter Tryd.func23, Tryd.ntmps23
    go_wp2
    go_ret
    exact ⟨rfl, hbx⟩
  · have hq : (W.to' - W.from' - W.len).tdiv W.step = (W.to' - W.from' - W.len) / W.step := Int.tdiv_eq_ediv_of_nonneg (by omega)
    have hqb : 0 ≤ (W.to' - W.from' - W.len) / W.step := Int.ediv_nonneg (by omega) (by omega)
    have hqc : (W.to' - W.from' - W.len) / W.step ≤ W.to' - W.from' - W.len := Int.ediv_le_self _ (by omega)
    have hw3 : wrap64 ((W.to' - W.from' - W.len) / W.step) = (W.to' - W.from' - W.len) / W.step := by rw [wrap64_id] <;> omega
    have hw4 : wrap64 ((W.to' - W.from' - W.len) / W.step + 1) = (W.to' - W.from' - W.len) / W.step + 1 := by rw [wrap64_id] <;> omega
    have hV : (W.many : Int) = (W.to' - W.from' - W.len) / W.step + 1 := by unfold Wn.many; rw [if_neg h]; omega
    rw [hV]
    clear hV
    go_enter Tryd.func23, Tryd.ntmps23
    go_wp2
    go_ret
    exact ⟨rfl, hbx⟩
end Go.Proofs.YtabgoicholknoaaDoor
