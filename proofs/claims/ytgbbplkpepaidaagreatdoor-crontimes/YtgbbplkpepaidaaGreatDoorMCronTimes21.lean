/- package slices at numbers and weekdays of a month: Index, Contains; the reference's Member. -/
import Derived.Test.YtgbbplkpepaidaaGreatDoorMCronTimes20
import Derived.Test.YtgbbplkpepaidaaGreatDoorMCronTimes5
import Derived.Deep.RegionHeld3
import Derived.Deep.Cut
namespace Go.Proofs.YtgbbplkpepaidaaGreatDoor
open Go.RowKit
set_option linter.unusedVariables false
set_option linter.unusedSimpArgs false

/-- is it so of one of the first n? -/
def anyN (b : Nat → Bool) (n : Nat) : Bool := !(Crn.allB (fun k => !b k) n)
theorem anyN_yes {b : Nat → Bool} {k n : Nat} (h : b k = true) (hk : k < n) : anyN b n = true := by
  unfold anyN
  rw [Crn.allB_no (k := k) (by show (!b k) = false; rw [h]; rfl) n hk]; rfl
theorem anyN_no {b : Nat → Bool} {n : Nat} (h : Crn.allB (fun k => !b k) n = true) : anyN b n = false := by unfold anyN; rw [h]; rfl
/-- has the list the number? -/
def memB (l : List Int) (v : Int) : Bool := anyN (fun k => l.getD k 0 == v) l.length
def memN (l : List (Int × Int)) (v : Int × Int) : Bool := anyN (fun k => (l.getD k (0, 0)).1 == v.1 && (l.getD k (0, 0)).2 == v.2) l.length
set_option maxHeartbeats 2000000 in
theorem index_any (a : Option Addr) (c : Nat) (l : List Int) (v : Int) (w : World) (h : IL a l w) (hn : l.length ≤ 1000) :
    Calls Tryz.prog 36 #[.slice a l.length c, .int .i64 v] w fun e w' => ∃ i : Int, e = .returned (.int .i64 i) ∧ decide (0 ≤ i) = memB l v ∧ Below w.heap.size w w' := by
  have HL := hide h
  have HY : Hid (∀ k, k < l.length → (l.getD k 0 == v) = true → memB l v = true) := fun k hk hv => anyN_yes hv hk
  have HN : Hid (Crn.allB (fun k => !(l.getD k 0 == v)) l.length = true → memB l v = false) := fun h => anyN_no h
  generalize memB l v = R at *
  clear h
  go_enter Tryz.func36, Tryz.ntmps36
  go_wp2_with fail
  go_loopw [8] (fun i wr => ∃ k : Nat, k ≤ l.length ∧ i = .int .i64 k ∧ Crn.allB (fun k => !(l.getD k 0 == v)) k = true ∧ Below w.heap.size w wr) (fun i _ => l.length - (intOf i).toNat)
  case atStart => exact ⟨0, by omega, rfl, rfl, Below.refl _ _⟩
  case round =>
    obtain ⟨k, hk, rfl, hall, hb⟩ := hrel
    by_cases hlt : k < l.length
    · have hki : (k : Int) < l.length := by omega
      obtain ⟨ad, rfl, hc⟩ := (HL.out.later hb) k hlt
      have hy := HY.out k hlt
      have hst : Crn.allB (fun k => !(l.getD k 0 == v)) (k + 1) = (Crn.allB (fun k => !(l.getD k 0 == v)) k && !(l.getD k 0 == v)) := rfl
      rw [hall, Bool.true_and] at hst
      have HH := hide (And.intro hy hst)
      clear hy hst hall
      generalize l.getD k 0 = n at *
      by_cases hv : v = n
      · subst hv
        have hR := HH.out.1 (by simp)
        subst hR
        go_wp2
        go_ret
        exact ⟨k, rfl, by simp, hb⟩
      · have hq : (n == v) = false := by simp; exact fun e => hv e.symm
        have hst := HH.out.2
        rw [hq] at hst
        have HST := hide hst
        clear hst
        go_wp2
        go_roundw
        case rel => exact ⟨k + 1, by omega, by go_num, HST.out, hb⟩
        case measure => simp [intOf]; omega
    · have hkn : k = l.length := by omega
      have hki : (l.length : Int) ≤ k := by omega
      rw [hkn] at hall
      have hR := HN.out hall
      subst hR
      go_wp2
      go_ret
      exact ⟨-1, rfl, by simp, hb⟩
set_option maxHeartbeats 1000000 in
theorem contains_any (a : Option Addr) (c : Nat) (l : List Int) (v : Int) (w : World) (h : IL a l w) (hn : l.length ≤ 1000) :
    Calls Tryz.prog 18 #[.slice a l.length c, .int .i64 v] w fun e w' => e = .returned (.bool (memB l v)) ∧ Below w.heap.size w w' := by
  have K := hide (index_any a c l v w h hn)
  clear h
  go_enter Tryz.func18, Tryz.ntmps18
  go_wp2_with fail
  refine K.out.mono ?_
  rintro e W ⟨i, rfl, hi, hb⟩
  go_wp2
  go_ret
  exact ⟨ret_bool (by first | exact hi | rw [← hi] | (rw [← hi]; simp)), hb⟩
set_option maxHeartbeats 2000000 in
theorem member_any (a : Option Addr) (c : Nat) (l : List Int) (v : Int) (w : World) (h : IL a l w) (hn : l.length ≤ 1000) :
    Calls Tryz.prog 12 #[.slice a l.length c, .int .i64 v] w fun e w' => e = .returned (.bool (memB l v)) ∧ Below w.heap.size w w' := by
  have HL := hide h
  have HY : Hid (∀ k, k < l.length → (l.getD k 0 == v) = true → memB l v = true) := fun k hk hv => anyN_yes hv hk
  have HN : Hid (Crn.allB (fun k => !(l.getD k 0 == v)) l.length = true → memB l v = false) := fun h => anyN_no h
  generalize memB l v = R at *
  clear h
  go_enter Tryz.func12, Tryz.ntmps12
  go_wp2_with fail
  go_loopw [5] (fun i wr => ∃ k : Nat, k ≤ l.length ∧ i = .int .i64 k ∧ Crn.allB (fun k => !(l.getD k 0 == v)) k = true ∧ Below w.heap.size w wr) (fun i _ => l.length - (intOf i).toNat)
  case atStart => exact ⟨0, by omega, rfl, rfl, Below.refl _ _⟩
  case round =>
    obtain ⟨k, hk, rfl, hall, hb⟩ := hrel
    by_cases hlt : k < l.length
    · have hki : (k : Int) < l.length := by omega
      obtain ⟨ad, rfl, hc⟩ := (HL.out.later hb) k hlt
      have hy := HY.out k hlt
      have hst : Crn.allB (fun k => !(l.getD k 0 == v)) (k + 1) = (Crn.allB (fun k => !(l.getD k 0 == v)) k && !(l.getD k 0 == v)) := rfl
      rw [hall, Bool.true_and] at hst
      have HH := hide (And.intro hy hst)
      clear hy hst hall
      generalize l.getD k 0 = n at *
      by_cases hv : n = v
      · subst hv
        have hR := HH.out.1 (by simp)
        subst hR
        go_wp2
        go_ret
        exact ⟨rfl, hb⟩
      · have hq : (n == v) = false := by simp; exact hv
        have hst := HH.out.2
        rw [hq] at hst
        have HST := hide hst
        clear hst
        go_wp2
        go_roundw
        case rel => exact ⟨k + 1, by omega, by go_num, HST.out, hb⟩
        case measure => simp [intOf]; omega
    · have hkn : k = l.length := by omega
      have hki : (l.length : Int) ≤ k := by omega
      rw [hkn] at hall
      have hR := HN.out hall
      subst hR
      go_wp2
      go_ret
      exact ⟨rfl, hb⟩
set_option maxRecDepth 100000 in
set_option maxHeartbeats 4000000 in
theorem indexN_any (a : Option Addr) (c : Nat) (l : List (Int × Int)) (v : Int × Int) (w : World) (h : NL a l w) (hn : l.length ≤ 1000) :
    Calls Tryz.prog 85 #[.slice a l.length c, .agg #[.int .i64 v.1, .int .i64 v.2]] w fun e w' => ∃ i : Int, e = .returned (.int .i64 i) ∧ decide (0 ≤ i) = memN l v ∧ Below w.heap.size w w' := by
  have HL := hide h
  obtain ⟨v1, v2⟩ := v
  have HY : Hid (∀ k, k < l.length → ((l.getD k (0, 0)).1 == v1 && (l.getD k (0, 0)).2 == v2) = true → memN l (v1, v2) = true) := fun k hk hv => anyN_yes hv hk
  have HN : Hid (Crn.allB (fun k => !((l.getD k (0, 0)).1 == v1 && (l.getD k (0, 0)).2 == v2)) l.length = true → memN l (v1, v2) = false) := fun h => anyN_no h
  generalize memN l (v1, v2) = R at *
  have HX := hide (And.intro (NBox.new w (v1, v2)) ((Below.refl w.heap.size w).alloc (Nat.le_refl _) (.cells #[.int .i64 v1, .int .i64 v2] 55)))
  clear h
  go_enter Tryz.func85, Tryz.ntmps85
  go_wp2_with fail
  go_loopw [8] (fun i wr => ∃ k : Nat, k ≤ l.length ∧ i = .int .i64 k ∧ Crn.allB (fun k => !((l.getD k (0, 0)).1 == v1 && (l.getD k (0, 0)).2 == v2)) k = true ∧ NBox wr w.heap.size (v1, v2) ∧ Below w.heap.size w wr) (fun i _ => l.length - (intOf i).toNat)
  case atStart => exact ⟨0, by omega, rfl, rfl, HX.out.1, HX.out.2⟩
  case round =>
    clear HX
    obtain ⟨k, hk, rfl, hall, hx, hb⟩ := hrel
    by_cases hlt : k < l.length
    · have hki : (k : Int) < l.length := by omega
      obtain ⟨ad, rfl, hc, hc2⟩ := (HL.out.later hb) k hlt
      have hy := HY.out k hlt
      have hst : Crn.allB (fun k => !((l.getD k (0, 0)).1 == v1 && (l.getD k (0, 0)).2 == v2)) (k + 1) = (Crn.allB (fun k => !((l.getD k (0, 0)).1 == v1 && (l.getD k (0, 0)).2 == v2)) k && !((l.getD k (0, 0)).1 == v1 && (l.getD k (0, 0)).2 == v2)) := rfl
      rw [hall, Bool.true_and] at hst
      have HH := hide (And.intro hy hst)
      clear hy hst hall
      generalize l.getD k (0, 0) = n at *
      obtain ⟨n1, n2⟩ := n
      dsimp only at hc hc2 HH
      obtain ⟨y0, y1⟩ := hx.cells
      go_upto_region 4 with fail
      have hS : (wr.drew.cell? ⟨w.heap.size, 0, none⟩ = some (.int .i64 v1) ∧ wr.drew.cell? ⟨w.heap.size, 1, none⟩ = some (.int .i64 v2)) ∧ wr.drew.cell? (ad.add (k * 2)) = some (.int .i64 n1) ∧ wr.drew.cell? ⟨(ad.add (k * 2)).block, (ad.add (k * 2)).off + 1, none⟩ = some (.int .i64 n2) := ⟨⟨y0, y1⟩, hc, hc2⟩
      have hxd : NBox wr.drew w.heap.size (v1, v2) := hx
      have hbd : Below w.heap.size w wr.drew := hb.drew
      clear hx hb y0 y1 hc hc2
      by_cases h1 : v1 = n1
      · by_cases h2 : v2 = n2
        · have hR := HH.out.1 (by simp [h1, h2])
          subst hR
          clear HH
          refine wp_region_noPanic ?_
          refine wp_region_linGM (S := fun X => (X.cell? ⟨w.heap.size, 0, none⟩ = some (.int .i64 v1) ∧ X.cell? ⟨w.heap.size, 1, none⟩ = some (.int .i64 v2)) ∧ X.cell? (ad.add (k * 2)) = some (.int .i64 n1) ∧ X.cell? ⟨(ad.add (k * 2)).block, (ad.add (k * 2)).off + 1, none⟩ = some (.int .i64 n2)) (R := fun _ => True) [] (by kernel_rfl) (by kernel_rfl) [(0, none, 0), (1, none, 1), (2, none, 1), (3, none, 1), (4, none, 0), (5, none, 1)] (by kernel_rfl) (by kernel_rfl) (fun _ _ _ _ _ h => h) (by exact trivial) (by exact hS) (fun ops' Q' hops hQ' => ?_)
          refine wpLinG_read (o := { dst := some 11, op := Go.Op.load 55 (Go.Operand.tmp 3), type := 55, pos := "slices.go:98", after := #[], guard := none }) (v := ?vx0) (by rw [hops]; rfl) (by first | exact trivial | rfl) hS ?ex0 ?hx0
          case ex0 => intro w' hw'; obtain ⟨⟨e1, e2⟩, e3, e4⟩ := hw'; go_simp; (try rfl)
          (try simp only [Act.put, List.setIfInBounds_toArray, List.set_cons_zero, List.set_cons_succ])
          refine wpLinG_pure (o := { dst := some 12, op := Go.Op.move (Go.Operand.tmp 0), type := 23, pos := "slices.go:98", after := #[], guard := none }) (v := ?vx1) (by rw [hops]; rfl) (by first | exact trivial | rfl) ?ex1 ?hx1
          case ex1 => intro w'; go_simp; (try rfl)
          (try simp only [Act.put, List.setIfInBounds_toArray, List.set_cons_zero, List.set_cons_succ])
          refine wpLinG_pure (o := { dst := some 13, op := Go.Op.move (Go.Operand.tmp 5), type := 3, pos := "slices.go:98", after := #[], guard := none }) (v := ?vx2) (by rw [hops]; rfl) (by first | exact trivial | rfl) ?ex2 ?hx2
          case ex2 => intro w'; go_simp; (try rfl)
          (try simp only [Act.put, List.setIfInBounds_toArray, List.set_cons_zero, List.set_cons_succ])
          refine wpLinG_pure (o := { dst := some 14, op := Go.Op.indexAddr 23 (Go.Operand.tmp 12) (Go.Operand.tmp 13), type := 0, pos := "slices.go:98", after := #[{ on := 1, ground := Go.Ground.data }, { on := 2, ground := Go.Ground.data }], guard := none }) (v := ?vx3) (by rw [hops]; rfl) (by first | exact trivial | rfl) ?ex3 ?hx3
          case ex3 => intro w'; go_simp; (try rfl)
          (try simp only [Act.put, List.setIfInBounds_toArray, List.set_cons_zero, List.set_cons_succ])
          refine wpLinG_read (o := { dst := some 15, op := Go.Op.load 55 (Go.Operand.tmp 14), type := 55, pos := "slices.go:98", after := #[{ on := 3, ground := Go.Ground.data }], guard := none }) (v := ?vx4) (by rw [hops]; rfl) (by first | exact trivial | rfl) hS ?ex4 ?hx4
          case ex4 => intro w' hw'; obtain ⟨⟨e1, e2⟩, e3, e4⟩ := hw'; go_simp; (try rfl)
          (try simp only [Act.put, List.setIfInBounds_toArray, List.set_cons_zero, List.set_cons_succ])
          refine wpLinG_pure (o := { dst := some 16, op := Go.Op.binOp Go.BinOp.eql 55 (Go.Operand.tmp 11) (Go.Operand.tmp 15) 55, type := 4, pos := "slices.go:98", after := #[{ on := 0, ground := Go.Ground.data }, { on := 4, ground := Go.Ground.data }], guard := none }) (v := ?vx5) (by rw [hops]; rfl) (by first | exact trivial | rfl) ?ex5 ?hx5
          case ex5 => intro w'; go_simp; (try rfl)
          (try simp only [Act.put, List.setIfInBounds_toArray, List.set_cons_zero, List.set_cons_succ])
          subst hQ'
          refine NoPanic.normal ?_
          clear hops hS
          go_wp2
          go_ret
          exact ⟨k, rfl, by simp, hbd⟩
        · have hq : (n1 == v1 && n2 == v2) = false := by
            have : (n2 == v2) = false := by simp; exact fun e => h2 e.symm
            rw [this, Bool.and_false]
          have hst := HH.out.2
          rw [hq] at hst
          have HST := hide hst
          clear hst HH
          refine wp_region_noPanic ?_
          refine wp_region_linGM (S := fun X => (X.cell? ⟨w.heap.size, 0, none⟩ = some (.int .i64 v1) ∧ X.cell? ⟨w.heap.size, 1, none⟩ = some (.int .i64 v2)) ∧ X.cell? (ad.add (k * 2)) = some (.int .i64 n1) ∧ X.cell? ⟨(ad.add (k * 2)).block, (ad.add (k * 2)).off + 1, none⟩ = some (.int .i64 n2)) (R := fun _ => True) [] (by kernel_rfl) (by kernel_rfl) [(0, none, 0), (1, none, 1), (2, none, 1), (3, none, 1), (4, none, 0), (5, none, 1)] (by kernel_rfl) (by kernel_rfl) (fun _ _ _ _ _ h => h) (by exact trivial) (by exact hS) (fun ops' Q' hops hQ' => ?_)
          refine wpLinG_read (o := { dst := some 11, op := Go.Op.load 55 (Go.Operand.tmp 3), type := 55, pos := "slices.go:98", after := #[], guard := none }) (v := ?vy0) (by rw [hops]; rfl) (by first | exact trivial | rfl) hS ?ey0 ?hy0
          case ey0 => intro w' hw'; obtain ⟨⟨e1, e2⟩, e3, e4⟩ := hw'; go_simp; (try rfl)
          (try simp only [Act.put, List.setIfInBounds_toArray, List.set_cons_zero, List.set_cons_succ])
          refine wpLinG_pure (o := { dst := some 12, op := Go.Op.move (Go.Operand.tmp 0), type := 23, pos := "slices.go:98", after := #[], guard := none }) (v := ?vy1) (by rw [hops]; rfl) (by first | exact trivial | rfl) ?ey1 ?hy1
          case ey1 => intro w'; go_simp; (try rfl)
          (try simp only [Act.put, List.setIfInBounds_toArray, List.set_cons_zero, List.set_cons_succ])
          refine wpLinG_pure (o := { dst := some 13, op := Go.Op.move (Go.Operand.tmp 5), type := 3, pos := "slices.go:98", after := #[], guard := none }) (v := ?vy2) (by rw [hops]; rfl) (by first | exact trivial | rfl) ?ey2 ?hy2
          case ey2 => intro w'; go_simp; (try rfl)
          (try simp only [Act.put, List.setIfInBounds_toArray, List.set_cons_zero, List.set_cons_succ])
          refine wpLinG_pure (o := { dst := some 14, op := Go.Op.indexAddr 23 (Go.Operand.tmp 12) (Go.Operand.tmp 13), type := 0, pos := "slices.go:98", after := #[{ on := 1, ground := Go.Ground.data }, { on := 2, ground := Go.Ground.data }], guard := none }) (v := ?vy3) (by rw [hops]; rfl) (by first | exact trivial | rfl) ?ey3 ?hy3
          case ey3 => intro w'; go_simp; (try rfl)
          (try simp only [Act.put, List.setIfInBounds_toArray, List.set_cons_zero, List.set_cons_succ])
          refine wpLinG_read (o := { dst := some 15, op := Go.Op.load 55 (Go.Operand.tmp 14), type := 55, pos := "slices.go:98", after := #[{ on := 3, ground := Go.Ground.data }], guard := none }) (v := ?vy4) (by rw [hops]; rfl) (by first | exact trivial | rfl) hS ?ey4 ?hy4
          case ey4 => intro w' hw'; obtain ⟨⟨e1, e2⟩, e3, e4⟩ := hw'; go_simp; (try rfl)
          (try simp only [Act.put, List.setIfInBounds_toArray, List.set_cons_zero, List.set_cons_succ])
          refine wpLinG_pure (o := { dst := some 16, op := Go.Op.binOp Go.BinOp.eql 55 (Go.Operand.tmp 11) (Go.Operand.tmp 15) 55, type := 4, pos := "slices.go:98", after := #[{ on := 0, ground := Go.Ground.data }, { on := 4, ground := Go.Ground.data }], guard := none }) (v := ?vy5) (by rw [hops]; rfl) (by first | exact trivial | rfl) ?ey5 ?hy5
          case ey5 => intro w'; go_simp; (try rfl)
          (try simp only [Act.put, List.setIfInBounds_toArray, List.set_cons_zero, List.set_cons_succ])
          subst hQ'
          refine NoPanic.normal ?_
          clear hops hS
          go_wp2
          go_roundw
          case rel => exact ⟨k + 1, by omega, by go_num, HST.out, hxd, hbd⟩
          case measure => simp [intOf]; omega
      · have hq : (n1 == v1 && n2 == v2) = false := by
          have : (n1 == v1) = false := by simp; exact fun e => h1 e.symm
          rw [this, Bool.false_and]
        have hst := HH.out.2
        rw [hq] at hst
        have HST := hide hst
        clear hst HH
        refine wp_region_noPanic ?_
        refine wp_region_linGM (S := fun X => (X.cell? ⟨w.heap.size, 0, none⟩ = some (.int .i64 v1) ∧ X.cell? ⟨w.heap.size, 1, none⟩ = some (.int .i64 v2)) ∧ X.cell? (ad.add (k * 2)) = some (.int .i64 n1) ∧ X.cell? ⟨(ad.add (k * 2)).block, (ad.add (k * 2)).off + 1, none⟩ = some (.int .i64 n2)) (R := fun _ => True) [] (by kernel_rfl) (by kernel_rfl) [(0, none, 0), (1, none, 1), (2, none, 1), (3, none, 1), (4, none, 0), (5, none, 1)] (by kernel_rfl) (by kernel_rfl) (fun _ _ _ _ _ h => h) (by exact trivial) (by exact hS) (fun ops' Q' hops hQ' => ?_)
        refine wpLinG_read (o := { dst := some 11, op := Go.Op.load 55 (Go.Operand.tmp 3), type := 55, pos := "slices.go:98", after := #[], guard := none }) (v := ?vz0) (by rw [hops]; rfl) (by first | exact trivial | rfl) hS ?ez0 ?hz0
        case ez0 => intro w' hw'; obtain ⟨⟨e1, e2⟩, e3, e4⟩ := hw'; go_simp; (try rfl)
        (try simp only [Act.put, List.setIfInBounds_toArray, List.set_cons_zero, List.set_cons_succ])
        refine wpLinG_pure (o := { dst := some 12, op := Go.Op.move (Go.Operand.tmp 0), type := 23, pos := "slices.go:98", after := #[], guard := none }) (v := ?vz1) (by rw [hops]; rfl) (by first | exact trivial | rfl) ?ez1 ?hz1
        case ez1 => intro w'; go_simp; (try rfl)
        (try simp only [Act.put, List.setIfInBounds_toArray, List.set_cons_zero, List.set_cons_succ])
        refine wpLinG_pure (o := { dst := some 13, op := Go.Op.move (Go.Operand.tmp 5), type := 3, pos := "slices.go:98", after := #[], guard := none }) (v := ?vz2) (by rw [hops]; rfl) (by first | exact trivial | rfl) ?ez2 ?hz2
        case ez2 => intro w'; go_simp; (try rfl)
        (try simp only [Act.put, List.setIfInBounds_toArray, List.set_cons_zero, List.set_cons_succ])
        refine wpLinG_pure (o := { dst := some 14, op := Go.Op.indexAddr 23 (Go.Operand.tmp 12) (Go.Operand.tmp 13), type := 0, pos := "slices.go:98", after := #[{ on := 1, ground := Go.Ground.data }, { on := 2, ground := Go.Ground.data }], guard := none }) (v := ?vz3) (by rw [hops]; rfl) (by first | exact trivial | rfl) ?ez3 ?hz3
        case ez3 => intro w'; go_simp; (try rfl)
        (try simp only [Act.put, List.setIfInBounds_toArray, List.set_cons_zero, List.set_cons_succ])
        refine wpLinG_read (o := { dst := some 15, op := Go.Op.load 55 (Go.Operand.tmp 14), type := 55, pos := "slices.go:98", after := #[{ on := 3, ground := Go.Ground.data }], guard := none }) (v := ?vz4) (by rw [hops]; rfl) (by first | exact trivial | rfl) hS ?ez4 ?hz4
        case ez4 => intro w' hw'; obtain ⟨⟨e1, e2⟩, e3, e4⟩ := hw'; go_simp; (try rfl)
        (try simp only [Act.put, List.setIfInBounds_toArray, List.set_cons_zero, List.set_cons_succ])
        refine wpLinG_pure (o := { dst := some 16, op := Go.Op.binOp Go.BinOp.eql 55 (Go.Operand.tmp 11) (Go.Operand.tmp 15) 55, type := 4, pos := "slices.go:98", after := #[{ on := 0, ground := Go.Ground.data }, { on := 4, ground := Go.Ground.data }], guard := none }) (v := ?vz5) (by rw [hops]; rfl) (by first | exact trivial | rfl) ?ez5 ?hz5
        case ez5 => intro w'; go_simp; (try rfl)
        (try simp only [Act.put, List.setIfInBounds_toArray, List.set_cons_zero, List.set_cons_succ])
        subst hQ'
        refine NoPanic.normal ?_
        clear hops hS
        go_wp2
        go_roundw
        case rel => exact ⟨k + 1, by omega, by go_num, HST.out, hxd, hbd⟩
        case measure => simp [intOf]; omega
    · have hkn : k = l.length := by omega
      have hki : (l.length : Int) ≤ k := by omega
      rw [hkn] at hall
      have hR := HN.out hall
      subst hR
      go_wp2
      go_ret
      exact ⟨-1, rfl, by simp, hb⟩
set_option maxRecDepth 100000 in
set_option maxHeartbeats 2000000 in
theorem containsN_any (a : Option Addr) (c : Nat) (l : List (Int × Int)) (v : Int × Int) (w : World) (h : NL a l w) (hn : l.length ≤ 1000) :
    Calls Tryz.prog 55 #[.slice a l.length c, .agg #[.int .i64 v.1, .int .i64 v.2]] w fun e w' => e = .returned (.bool (memN l v)) ∧ Below w.heap.size w w' := by
  have K := hide (fun W (hb : Below w.heap.size w W) => indexN_any a c l v W (h.later hb) hn)
  obtain ⟨c0, c1⟩ := (NBox.new w v).cells
  have HB : Hid (Below w.heap.size w (w.alloc (.cells #[.int .i64 v.1, .int .i64 v.2] 55))) := (Below.refl _ w).alloc (Nat.le_refl _) _
  clear h
  go_enter Tryz.func55, Tryz.ntmps55
  go_wp2_with fail
  refine (K.out _ HB.out).mono ?_
  rintro e W ⟨i, rfl, hi, hb⟩
  have hB := HB.out.trans (hb.mono HB.out.size)
  go_wp2
  go_ret
  exact ⟨ret_bool (by first | exact hi | rw [← hi] | (rw [← hi]; simp)), hB⟩
end Go.Proofs.YtgbbplkpepaidaaGreatDoor
