/- busy: (meeting).missing. (Written by gen/busd.py.) -/
import Derived.Test.YtabgoicholknoaaDoorBusC
import Derived.Test.YtabgoicholknoaaDoorSh
import Derived.Sort.OwnSortedInts
import Derived.Test.YtabgoicholknoaaDoorLinG
namespace Go.Proofs.YtabgoicholknoaaDoor
open Go.RowKit Go.Shelf Go.Maps Go.Sort
set_option linter.unusedVariables false
set_option linter.unusedSimpArgs false

/-- sets that are of the form of sets -/
def PsOk (Ps : List (List (Int × Int))) : Prop := ∀ p ∈ Ps, InvL p ∧ p.length ≤ 1000000
theorem PsOk.at' {Ps : List (List (Int × Int))} (h : PsOk Ps) {m : Nat} (hm : m < Ps.length) : InvL (Ps.getD m []) ∧ (Ps.getD m []).length ≤ 1000000 := by
  rw [getD_at Ps m _ hm]; exact h _ (List.getElem_mem hm)
def bads (t n : Int) (Ps : List (List (Int × Int))) (i : Int) : Bool := bz t n (psn Ps i)
theorem int_info : (Tryd.prog.info? 3).map (fun i => (i.zero, i.size, i.bytes)) = some (some (.int .i64 0), 1, 8) := by kernel_rfl
theorem filter_take (f : Int → Bool) (l : List Int) (m : Nat) (h : m < l.length) : (l.take (m + 1)).filter f = (l.take m).filter f ++ (if f (l.getD m 0) = true then [l.getD m 0] else []) := by
  rw [List.take_succ_eq_append_getElem h, List.filter_append, getD_at l m 0 h]
  congr 1
  cases hf : f l[m] <;> simp [hf]
theorem le_trans_b : ∀ a b c : Int, decide (a ≤ b) = true → decide (b ≤ c) = true → decide (a ≤ c) = true := fun a b c h1 h2 => by
  simp only [decide_eq_true_eq] at *; omega
theorem le_total_b : ∀ a b : Int, (decide (a ≤ b) || decide (b ≤ a)) = true := fun a b => by
  simp only [Bool.or_eq_true, decide_eq_true_eq]; omega
theorem sorted_merge (l : List Int) : (l.mergeSort fun x y => decide (x ≤ y)).Pairwise (· ≤ ·) := by
  have h := List.pairwise_mergeSort (le := fun x y : Int => decide (x ≤ y)) le_trans_b le_total_b l
  exact h.imp fun {a b} hab => of_decide_eq_true hab
theorem own_bel {w w' : World} {base z n : Nat} {v : Value} {ty : TypeId} {xs : List Value} (h : w.ownsRow base ty z v n xs) (hb : Below w.heap.size w w') : w'.ownsRow base ty z v n xs :=
  ⟨h.1, h.2.imp id fun ⟨g, cap, cur, h1, h2, h3, h4⟩ => ⟨g, cap, cur, h1, h2, (hb.block g (Array.getElem?_eq_some_iff.1 h3).1).trans h3, h4⟩⟩
theorem msP_perm (bad : Int → Bool) (l : List Int) (hd : l.Nodup) : ((l.filter bad).mergeSort fun x y => decide (x ≤ y)) = msP bad l :=
  sorted_ms bad l _ hd (sorted_merge _) (List.mergeSort_perm _ _)
/-- numbers of one's own, sorted -/
theorem sort_own (b : Nat) (v : Value) (zs : List Int) (w : World) (hown : w.ownsRow b 3 1 v zs.length (zs.map (Value.int .i64))) (hlen : zs.length ≤ 1000000000000) (hb : b ≤ w.heap.size) :
    Calls Tryd.prog 38 #[v] w fun e w' => e = .returned (.tuple #[]) ∧ w'.ownsRow b 3 1 v zs.length ((zs.mergeSort fun x y => decide (x ≤ y)).map (Value.int .i64)) ∧ Below b w w' := by
  have hown' := hown
  rcases hown.2 with ⟨rfl, hn⟩ | ⟨g, cap, cur, rfl, hbg, hg, hnc, hcm, hcs, htake⟩
  · have h0 : zs = [] := List.eq_nil_of_length_eq_zero hn
    subst h0
    exact (Tryd.slices_Sort_int_none none 0 w).mono fun e w' ⟨he, hw⟩ => ⟨he, by subst hw; simpa using hown', by subst hw; exact Below.refl _ _⟩
  · have hgl : g < w.heap.size := (Array.getElem?_eq_some_iff.1 hg).1
    have hH : Holds (Value.int .i64) w g 0 zs.toArray := holds_of_blockI hg (by simpa using htake)
    refine (Tryd.slices_Sort_int g 0 cap zs w hH hgl (by omega)).mono ?_
    rintro e w' ⟨he, n, os, rfl⟩
    refine ⟨he, ownsRow_sortedI (List.length_mergeSort _) hbg hg hnc hcm hcs, ?_⟩
    have hgb := grownBy_sortedI (w := w) (g := g) (n := n) (os := os) (zs.mergeSort fun x y => decide (x ≤ y)).toArray
    exact (Below.refl b w).grown hgb hb fun j hj => by cases hj; exact hbg

set_option maxRecDepth 100000 in
set_option maxHeartbeats 4000000 in
theorem missing_any (t n : Int) (t1 : -1000000000000 ≤ t) (t2 : t ≤ 1000000000000) (n1 : 0 ≤ n) (n2 : n ≤ 1000000000000) (who : List Int) (Ps : List (List (Int × Int))) (hPs : PsOk Ps) (hwho : ∀ x ∈ who, 0 ≤ x ∧ x < Ps.length) (hnd : who.Nodup) (hsm : who.length ≤ 1000000) (v pv : Value) (w : World) (hI : IsAt w v who) (hP : PsAt w pv Ps) :
    Calls Tryd.prog 28 #[.agg #[.int .i64 t, .int .i64 n], v, pv] w fun e w' => ∃ r, e = .returned r ∧ w'.ownsRow (w.heap.size + 1) 3 1 r (msP (bads t n Ps) who).length ((msP (bads t n Ps) who).map (Value.int .i64)) ∧ Below w.heap.size w w' := by
  obtain ⟨ad, cap, rfl, _, hall⟩ := hI
  have hlen := hsm
  obtain ⟨pd, pcap, rfl, hpall⟩ := hP
  obtain ⟨i0, hi, hz0, hz1, hz2⟩ := info_parts int_info
  have hb0 : Below w.heap.size w (w.alloc (.cells #[.int .i64 t, .int .i64 n] 72)) := (Below.refl _ w).alloc (Nat.le_refl _) _
  have hc0 : (w.alloc (.cells #[.int .i64 t, .int .i64 n] 72)).cell? ⟨w.heap.size, 0, none⟩ = some (.int .i64 t) := by simp
  have hc1 : (w.alloc (.cells #[.int .i64 t, .int .i64 n] 72)).cell? ⟨w.heap.size, 1, none⟩ = some (.int .i64 n) := by simp
  have HB0 := hide (And.intro hb0 (And.intro hc0 hc1))
  have HALL := hide hall
  have HP := hide hpall
  have HW := hide (And.intro hwho hnd)
  clear hb0 hc0 hc1 hall hpall hwho hnd
  go_enter Tryd.func28, Tryd.ntmps28
  go_wp2_with fail
  go_loopw [7, 12] (fun r i wr => ∃ m : Nat, m ≤ who.length ∧ i = .int .i64 m ∧ wr.ownsRow (w.heap.size + 1) 3 1 r ((who.take m).filter (bads t n Ps)).length (((who.take m).filter (bads t n Ps)).map (Value.int .i64)) ∧ Below (w.heap.size + 1) (w.alloc (.cells #[.int .i64 t, .int .i64 n] 72)) wr) (fun _ i _ => who.length - (intOf i).toNat)
  case atStart => exact ⟨0, by omega, rfl, World.ownsRow_nil _ _ _ _, by simpa using Below.refl _ _⟩
  case round =>
    obtain ⟨m, hm, rfl, hown, hB⟩ := hrel
    by_cases hlt : m < who.length
    · have hmi : (m : Int) < (who.length : Int) := by omega
      obtain ⟨g, og, rfl, hx⟩ := HALL.out m hlt
      have hwx := HW.out.1 (who.getD m 0) (by rw [getD_at who m 0 hlt]; exact List.getElem_mem hlt)
      have hb1 : Below w.heap.size w wr := HB0.out.1.trans (hB.mono (by omega))
      have hx0 := (hb1.cell (World.block_lt_of_cell? w _ hx)).trans hx
      have hft := filter_take (bads t n Ps) who m hlt
      generalize hxe : who.getD m 0 = x at hx0 hwx hft
      obtain ⟨k, rfl⟩ : ∃ k : Nat, x = k := ⟨x.toNat, by omega⟩
      have hk : k < Ps.length := by omega
      obtain ⟨g2, a, l, c, rfl, hy, hset⟩ := HP.out k hk
      have hy0 := (hb1.cell (World.block_lt_of_cell? w _ hy)).trans hy
      have hok := hPs.at' hk
      have hset' := hset.below hb1
      have hpe : psn Ps (k : Int) = Ps.getD k [] := by unfold psn; rw [Int.toNat_natCast]
      have hd0 := (hB.cell (p := ⟨w.heap.size, 0, none⟩) (by simp)).trans HB0.out.2.1
      have hd1 := (hB.cell (p := ⟨w.heap.size, 1, none⟩) (by simp)).trans HB0.out.2.2
      have hX := hide (fun W (h : Below wr.heap.size wr W) => meets_any t n t1 t2 n1 n2 _ hok.1 hok.2 a l c W (hset'.below h))
      have HBB := hide (And.intro hb1 hB)
      have HO := hide (And.intro hown hft)
      have hk0 : (0 : Int) ≤ k := by omega
      have hk1 : (k : Int) < Ps.length := by omega
      clear hx hy hset hset' hb1 hB hok hown hft
      go_wp2_with fail
      have hS : (wr.drew.cell? ⟨w.heap.size, 0, none⟩ = some (.int .i64 t) ∧ wr.drew.cell? ⟨w.heap.size, 1, none⟩ = some (.int .i64 n) ∧ wr.drew.cell? ⟨g2, k, none⟩ = some (.slice a l c)) ∧ Below wr.heap.size wr wr.drew := ⟨⟨hd0, hd1, hy0⟩, (Below.refl _ wr).drew⟩
      clear hd0 hd1 hy0 hx0
      refine wp_region_noPanic ?_
      refine wp_region_linGM (S := fun X => (X.cell? ⟨w.heap.size, 0, none⟩ = some (.int .i64 t) ∧ X.cell? ⟨w.heap.size, 1, none⟩ = some (.int .i64 n) ∧ X.cell? ⟨g2, k, none⟩ = some (.slice a l c)) ∧ Below wr.heap.size wr X) (R := fun _ => True) [] (by kernel_rfl) (by kernel_rfl) [(0, none, 0), (1, none, 1), (2, none, 1), (3, none, 1), (4, none, 0), (5, none, 2)] (by kernel_rfl) (by kernel_rfl) (fun _ _ _ _ _ h => h) (by exact trivial) (by exact hS) (fun ops' Q' hops hQ' => ?_)
      refine wpLinG_read (o := { dst := some 16, op := Go.Op.load 72 (Go.Operand.tmp 3), type := 72, pos := "find.go:61", after := #[], guard := none }) (v := ?vx0) (by rw [hops]; rfl) (by first | exact trivial | rfl) hS ?ex0 ?hx0
      case ex0 => intro w' hw'; obtain ⟨⟨e1, e2, e3⟩, _⟩ := hw'; go_simp; (try rfl)
      (try simp only [Act.put, List.setIfInBounds_toArray, List.set_cons_zero, List.set_cons_succ])
      refine wpLinG_pure (o := { dst := some 17, op := Go.Op.move (Go.Operand.tmp 2), type := 48, pos := "find.go:61", after := #[], guard := none }) (v := ?vx1) (by rw [hops]; rfl) (by first | exact trivial | rfl) ?ex1 ?hx1
      case ex1 => intro w'; go_simp; (try rfl)
      (try simp only [Act.put, List.setIfInBounds_toArray, List.set_cons_zero, List.set_cons_succ])
      refine wpLinG_pure (o := { dst := some 18, op := Go.Op.move (Go.Operand.tmp 9), type := 3, pos := "find.go:61", after := #[], guard := none }) (v := ?vx2) (by rw [hops]; rfl) (by first | exact trivial | rfl) ?ex2 ?hx2
      case ex2 => intro w'; go_simp; (try rfl)
      (try simp only [Act.put, List.setIfInBounds_toArray, List.set_cons_zero, List.set_cons_succ])
      refine wpLinG_pure (o := { dst := some 19, op := Go.Op.indexAddr 48 (Go.Operand.tmp 17) (Go.Operand.tmp 18), type := 0, pos := "find.go:61", after := #[{ on := 1, ground := Go.Ground.data }, { on := 2, ground := Go.Ground.data }], guard := none }) (v := ?vx3) (by rw [hops]; rfl) (by first | exact trivial | rfl) ?ex3 ?hx3
      case ex3 => intro w'; go_simp; (try rfl)
      (try simp only [Act.put, List.setIfInBounds_toArray, List.set_cons_zero, List.set_cons_succ])
      refine wpLinG_read (o := { dst := some 20, op := Go.Op.load 30 (Go.Operand.tmp 19), type := 30, pos := "find.go:61", after := #[{ on := 3, ground := Go.Ground.data }], guard := none }) (v := ?vx4) (by rw [hops]; rfl) (by first | exact trivial | rfl) hS ?ex4 ?hx4
      case ex4 => intro w' hw'; obtain ⟨⟨e1, e2, e3⟩, _⟩ := hw'; go_simp; (try rfl)
      (try simp only [Act.put, List.setIfInBounds_toArray, List.set_cons_zero, List.set_cons_succ])
      refine wpLinG_do (o := { dst := some 21, op := Go.Op.call { callee := Go.Callee.value (Go.Operand.func 26), args := #[Go.Operand.tmp 16, Go.Operand.tmp 20], argTypes := #[72, 30] }, type := 4, pos := "find.go:61", after := #[{ on := 0, ground := Go.Ground.data }, { on := 4, ground := Go.Ground.data }], guard := none }) (by rw [hops]; rfl) (by first | exact trivial | rfl) (fun K hK => ?_)
      go_simp
      have hq := hS.2
      refine (hX.out _ hq).mono ?_
      rintro e X ⟨rfl, hb⟩
      replace hS : (X.cell? ⟨w.heap.size, 0, none⟩ = some (.int .i64 t) ∧ X.cell? ⟨w.heap.size, 1, none⟩ = some (.int .i64 n) ∧ X.cell? ⟨g2, k, none⟩ = some (.slice a l c)) ∧ Below wr.heap.size wr X := ⟨⟨(hb.cell (World.block_lt_of_cell? _ _ hS.1.1)).trans hS.1.1, (hb.cell (World.block_lt_of_cell? _ _ hS.1.2.1)).trans hS.1.2.1, (hb.cell (World.block_lt_of_cell? _ _ hS.1.2.2)).trans hS.1.2.2⟩, hq.trans (hb.mono hq.size)⟩
      clear hb hq
      refine hK _ _ trivial hS ?_
      clear hK K
      (try simp only [Act.put, List.setIfInBounds_toArray, List.set_cons_zero, List.set_cons_succ])
      subst hQ'
      refine NoPanic.normal ?_
      have hq := hS.2
      have hbX : Below (w.heap.size + 1) (w.alloc (.cells #[.int .i64 t, .int .i64 n] 72)) X := HBB.out.2.trans (hq.mono (by have := HBB.out.2.size; simpa using this))
      have hownX := own_bel HO.out.1 hq
      have hlm : ((who.take m).filter (bads t n Ps)).length ≤ m := Nat.le_trans (List.length_filter_le _ _) (by rw [List.length_take]; omega)
      have hbe : bads t n Ps k = bz t n (Ps.getD k []) := by unfold bads; rw [hpe]
      have HH := hide (And.intro hS (And.intro hbX hbe))
      clear hS hq hbX hbe hops
      have hsz : w.heap.size + 1 ≤ X.heap.size := by have := HH.out.2.1.size; simpa using this
      generalize hbb : bz t n (Ps.getD k []) = bb
      cases bb with
      | false =>
        go_wp2
        go_roundw
        case rel => exact ⟨m + 1, by omega, by go_num, by rw [HO.out.2, HH.out.2.2, hbb, if_neg (by simp), List.append_nil]; exact hownX, HH.out.2.1⟩
        case measure => simp [intOf]; omega
      | true =>
        go_wp2_with (at_builtin; refine wpList_append_own _ rfl _ _ 23 rfl (w.heap.size + 1) 3 i0 (.int .i64 0) 1 8 Tryd.underlying23 hi hz0 hz1 hz2 rfl (by decide) _ _ _ rfl (hownX.alloc _) ⟨X.heap.size, 0, none⟩ 1 1 [.int .i64 k] rfl rfl (cell_one_new _ _ _) (ints_oneCell .i64 [(k : Int)]) (by unfold maxLen; omega) (by omega) (by simp; omega) ?_; intro v' w1 hown1 hgrow1 hnil1)
        have hr1 := hownX.alloc (.cells #[.int .i64 k] 3)
        have hbn : Below (w.heap.size + 1) (w.alloc (.cells #[.int .i64 t, .int .i64 n] 72)) w1 := (HH.out.2.1.alloc hsz _).grown hgrow1 (by simp; omega) (fun j hj => (hr1.lt j hj).1)
        go_roundw
        case rel => exact ⟨m + 1, by omega, by go_num, by rw [HO.out.2, HH.out.2.2, hbb, if_pos rfl, List.length_append, List.map_append]; exact hown1, hbn⟩
        case measure => simp [intOf]; omega
    · obtain rfl : m = who.length := by omega
      have hmi : ¬ (who.length : Int) < (who.length : Int) := by omega
      rw [List.take_length] at hown
      have hlm : (who.filter (bads t n Ps)).length ≤ who.length := List.length_filter_le _ _
      have hsz : w.heap.size + 1 ≤ wr.heap.size := by have := hB.size; simpa using this
      have hX := hide (sort_own (w.heap.size + 1) _ _ wr hown (by omega) hsz)
      have HB := hide hB
      clear hown hB
      go_wp2_with (go_at_call 38; refine hX.out.mono ?_; rintro e w1 ⟨rfl, hown1, hb1⟩)
      go_ret
      rw [msP_perm _ _ HW.out.2] at hown1
      have hl := (List.mergeSort_perm (who.filter (bads t n Ps)) fun x y => decide (x ≤ y)).length_eq
      rw [msP_perm _ _ HW.out.2] at hl
      rw [← hl] at hown1
      exact ⟨_, rfl, hown1, HB0.out.1.trans ((HB.out.trans hb1).mono (by omega))⟩
end Go.Proofs.YtabgoicholknoaaDoor
