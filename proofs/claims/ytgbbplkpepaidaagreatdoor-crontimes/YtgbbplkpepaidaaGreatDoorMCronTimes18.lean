/- package cron: nthRise. -/
import Derived.Test.YtgbbplkpepaidaaGreatDoorMCronTimes3
import Derived.BigQuiet
namespace Go.Proofs.YtgbbplkpepaidaaGreatDoor
open Go.RowKit
set_option linter.unusedVariables false
set_option linter.unusedSimpArgs false

theorem below_dr {w W : World} {B : Nat} (h : Below B w W) (n : Nat) : Below B w (W.drewN n) := ⟨h.os, h.tape, h.output, h.size, h.block⟩
set_option maxHeartbeats 2000000 in
theorem rrising_any (lo hi : Int) (a : Option Addr) (c : Nat) (l : List Int) (w : World) (h : IL a l w) (b0 : 0 ≤ lo) (b1 : hi ≤ 1000) :
    Calls Tryz.prog 21 #[.slice a l.length c, .int .i64 lo, .int .i64 hi] w fun e w' => e = .returned (.bool (Crn.rises lo hi l)) ∧ Below w.heap.size w w' := by
  have HL := hide h
  have HR : Hid (Crn.rises lo hi l = Crn.allB (Crn.okR lo hi l) l.length) := rfl
  generalize Crn.rises lo hi l = R at *
  clear h
  go_enter Tryz.func21, Tryz.ntmps21
  go_wp2_with fail
  go_loopw [7] (fun i wr => ∃ k : Nat, k ≤ l.length ∧ i = .int .i64 k ∧ Crn.allB (Crn.okR lo hi l) k = true ∧ Below w.heap.size w wr) (fun i _ => l.length - (intOf i).toNat)
  case atStart => exact ⟨0, by omega, rfl, rfl, Below.refl _ _⟩
  case round =>
    obtain ⟨k, hk, rfl, hall, hb⟩ := hrel
    by_cases hlt : k < l.length
    · have hki : (k : Int) < l.length := by omega
      obtain ⟨ad, rfl, hc⟩ := (HL.out.later hb) k hlt
      have hk1 := Crn.all_bd hall b0 b1
      have hno := fun h : Crn.okR lo hi l k = false => Crn.allB_no h l.length hlt
      have hstep : Crn.allB (Crn.okR lo hi l) (k + 1) = (Crn.allB (Crn.okR lo hi l) k && Crn.okR lo hi l k) := rfl
      rw [hall, Bool.true_and] at hstep
      have hdef : Crn.okR lo hi l k = decide (lo ≤ l.getD k 0 ∧ l.getD k 0 ≤ hi ∧ (k = 0 ∨ l.getD (k - 1) 0 < l.getD k 0)) := rfl
      generalize Crn.okR lo hi l k = o at *
      have HH := hide (And.intro hno (And.intro hstep hb))
      have hbd : Hid (Below w.heap.size w wr) := hb
      clear hno hstep hall hb
      by_cases h1 : l.getD k 0 < lo
      · obtain rfl : o = false := by rw [hdef]; exact decide_eq_false (by omega)
        clear hdef
        generalize l.getD k 0 = n at *
        have d1 : decide (n < lo) = true := decide_eq_true h1
        have e1 := HH.out.1 rfl
        go_wp2_with fail
        go_quiet (fail)
        have HBD := hide (below_dr hbd.out nq)
        go_wp2
        go_ret
        exact ⟨by rw [HR.out, e1]; rfl, HBD.out⟩
      · by_cases h2 : hi < l.getD k 0
        · obtain rfl : o = false := by rw [hdef]; exact decide_eq_false (by omega)
          clear hdef
          generalize l.getD k 0 = n at *
          have d1 : decide (n < lo) = false := decide_eq_false h1
          have d2 : decide (hi < n) = true := decide_eq_true h2
          have e1 := HH.out.1 rfl
          go_wp2_with fail
          go_quiet (fail)
          have HBD := hide (below_dr hbd.out nq)
          go_wp2
          go_ret
          exact ⟨by rw [HR.out, e1]; rfl, HBD.out⟩
        · by_cases h0 : k = 0
          · subst h0
            obtain rfl : o = true := by rw [hdef]; exact decide_eq_true (by omega)
            clear hdef
            generalize l.getD 0 0 = n at *
            rw [show ad.add 0 = ad from rfl] at hc
            have d1 : decide (n < lo) = false := decide_eq_false h1
            have d2 : decide (hi < n) = false := decide_eq_false h2
            go_wp2_with fail
            go_quiet (fail)
            have HBD := hide (below_dr hbd.out nq)
            go_wp2
            go_roundw
            case rel => exact ⟨1, by omega, by go_num, HH.out.2.1, HBD.out⟩
            case measure => simp [intOf]; omega
          · have hk0 : 0 < k := by omega
            obtain ⟨ad', had, hc0⟩ := (HL.out.later hbd.out) (k - 1) (by omega)
            obtain rfl := Option.some.inj had
            clear had
            have hki2 : (0 : Int) < k := by omega
            have hki3 : (k : Int) - 1 < l.length := by omega
            have hki4 : ((k : Int) - 1).toNat = k - 1 := by omega
            by_cases h3 : l.getD k 0 ≤ l.getD (k - 1) 0
            · obtain rfl : o = false := by rw [hdef]; exact decide_eq_false (by omega)
              clear hdef
              generalize l.getD k 0 = n at *
              generalize l.getD (k - 1) 0 = n0 at *
              have d1 : decide (n < lo) = false := decide_eq_false h1
              have d2 : decide (hi < n) = false := decide_eq_false h2
              have d3 : decide (n ≤ n0) = true := decide_eq_true h3
              have e1 := HH.out.1 rfl
              go_wp2_with fail
              go_quiet (fail)
              have HBD := hide (below_dr hbd.out nq)
              go_wp2
              go_ret
              exact ⟨by rw [HR.out, e1]; rfl, HBD.out⟩
            · obtain rfl : o = true := by rw [hdef]; exact decide_eq_true (by omega)
              clear hdef
              generalize l.getD k 0 = n at *
              generalize l.getD (k - 1) 0 = n0 at *
              have d1 : decide (n < lo) = false := decide_eq_false h1
              have d2 : decide (hi < n) = false := decide_eq_false h2
              have d3 : decide (n ≤ n0) = false := decide_eq_false h3
              go_wp2_with fail
              go_quiet (fail)
              have HBD := hide (below_dr hbd.out nq)
              go_wp2
              go_roundw
              case rel => exact ⟨k + 1, by omega, by go_num, HH.out.2.1, HBD.out⟩
              case measure => simp [intOf]; omega
    · have hkn : k = l.length := by omega
      have hki : (l.length : Int) ≤ k := by omega
      rw [hkn] at hall
      go_wp2
      go_ret
      exact ⟨by rw [HR.out, hall]; rfl, hb⟩
end Go.Proofs.YtgbbplkpepaidaaGreatDoor
namespace Go.Proofs.YtgbbplkpepaidaaGreatDoor
open Go.RowKit
set_option linter.unusedVariables false
set_option linter.unusedSimpArgs false

/-- a box that holds a weekday of a month -/
def NBox (W : World) (B : Nat) (x : Int × Int) : Prop := W.heap[B]? = some (.cells #[.int .i64 x.1, .int .i64 x.2] 55 (0, 0))
theorem NBox.new (W : World) (x : Int × Int) : NBox (W.alloc (.cells #[.int .i64 x.1, .int .i64 x.2] 55)) W.heap.size x := World.alloc_heap_new W _
theorem NBox.lt {W : World} {B : Nat} {x : Int × Int} (h : NBox W B x) : B < W.heap.size := (Array.getElem?_eq_some_iff.1 h).1
theorem NBox.cells {W : World} {B : Nat} {x : Int × Int} (h : NBox W B x) : W.cell? ⟨B, 0, none⟩ = some (.int .i64 x.1) ∧ W.cell? ⟨B, 1, none⟩ = some (.int .i64 x.2) :=
  ⟨cell_of_row _ _ _ _ _ (0, 0) h, cell_of_row _ _ _ _ _ (0, 0) h⟩
theorem NBox.frozen {W : World} {B : Nat} {x : Int × Int} (h : NBox W B x) : W.frozen? ⟨B, 0, none⟩ = false ∧ W.frozen? ⟨B, 1, none⟩ = false := by
  constructor <;> simp [World.frozen?, show W.heap[B]? = _ from h]
theorem NBox.later {W W' : World} {B : Nat} {x : Int × Int} (h : NBox W B x) (hb : Below W.heap.size W W') : NBox W' B x := (hb.block B h.lt).trans h
theorem NBox.set {W : World} {B : Nat} {x : Int × Int} (h : NBox W B x) (y : Int × Int) : NBox ((W.setCell ⟨B, 0, none⟩ (.int .i64 y.1)).setCell ⟨B, 1, none⟩ (.int .i64 y.2)) B y := by
  obtain ⟨hlt, hk⟩ := Array.getElem?_eq_some_iff.1 h
  have h1 : (W.setCell ⟨B, 0, none⟩ (.int .i64 y.1)).heap[B]? = some (.cells #[.int .i64 y.1, .int .i64 x.2] 55 (0, 0)) := by
    show (W.heap.modify B _)[B]? = _
    rw [Array.getElem?_eq_getElem (by rw [Array.size_modify]; exact hlt), Array.getElem_modify_self, hk]
    rfl
  obtain ⟨hlt, hk⟩ := Array.getElem?_eq_some_iff.1 h1
  show ((W.setCell ⟨B, 0, none⟩ (.int .i64 y.1)).heap.modify B _)[B]? = _
  rw [Array.getElem?_eq_getElem (by rw [Array.size_modify]; exact hlt), Array.getElem_modify_self, hk]
  rfl
/-- weekdays of a month, in memory -/
def NL (a : Option Addr) (l : List (Int × Int)) (W : World) : Prop := ∀ k, k < l.length → ∃ ad, a = some ad ∧ W.cell? (ad.add (k * 2)) = some (.int .i64 (l.getD k (0, 0)).1) ∧ W.cell? ⟨(ad.add (k * 2)).block, (ad.add (k * 2)).off + 1, none⟩ = some (.int .i64 (l.getD k (0, 0)).2)
theorem NL.later {a : Option Addr} {l : List (Int × Int)} {W W' : World} (h : NL a l W) (hb : Below W.heap.size W W') : NL a l W' := fun k hk => by
  obtain ⟨ad, e, h1, h2⟩ := h k hk
  exact ⟨ad, e, (hb.cell (World.block_lt_of_cell? _ _ h1)).trans h1, (hb.cell (World.block_lt_of_cell? _ _ h2)).trans h2⟩
/-- a variable of the package holds a kind -/
def KAt (W : World) (g : Nat) (lo hi : Int) (s : ByteArray) (z : Int) : Prop :=
  W.cell? ⟨g, 0, none⟩ = some (.int .i64 lo) ∧ W.cell? ⟨g, 1, none⟩ = some (.int .i64 hi) ∧ W.cell? ⟨g, 2, none⟩ = some (.string s) ∧ W.cell? ⟨g, 3, none⟩ = some (.int .i64 z)
theorem KAt.later {W W' : World} {g : Nat} {lo hi : Int} {s : ByteArray} {z : Int} (h : KAt W g lo hi s z) (hb : Below W.heap.size W W') : KAt W' g lo hi s z :=
  ⟨(hb.cell (World.block_lt_of_cell? _ _ h.1)).trans h.1, (hb.cell (World.block_lt_of_cell? _ _ h.2.1)).trans h.2.1, (hb.cell (World.block_lt_of_cell? _ _ h.2.2.1)).trans h.2.2.1, (hb.cell (World.block_lt_of_cell? _ _ h.2.2.2)).trans h.2.2.2⟩
/-- the package's variables -/
structure KT (W : World) : Prop where
  mi : ∃ s z, KAt W 0 0 59 s z
  ho : ∃ s z, KAt W 1 0 23 s z
  mo : ∃ s z, KAt W 2 1 12 s z
  da : ∃ s z, KAt W 3 1 31 s z
  wd : ∃ s z, KAt W 4 1 7 s z
  pl : ∃ s z, KAt W 6 1 5 s z
theorem KT.later {W W' : World} (h : KT W) (hb : Below W.heap.size W W') : KT W' :=
  ⟨let ⟨s, z, h⟩ := h.mi; ⟨s, z, h.later hb⟩, let ⟨s, z, h⟩ := h.ho; ⟨s, z, h.later hb⟩, let ⟨s, z, h⟩ := h.mo; ⟨s, z, h.later hb⟩, let ⟨s, z, h⟩ := h.da; ⟨s, z, h.later hb⟩, let ⟨s, z, h⟩ := h.wd; ⟨s, z, h.later hb⟩, let ⟨s, z, h⟩ := h.pl; ⟨s, z, h.later hb⟩⟩
set_option maxHeartbeats 4000000 in
theorem nthRise_any (a : Option Addr) (c : Nat) (l : List (Int × Int)) (w : World) (h : NL a l w) (hk : KT w) :
    Calls Tryz.prog 30 #[.slice a l.length c] w fun e w' => e = .returned (.bool (Crn.risesN l)) ∧ Below w.heap.size w w' := by
  have KH := hide (fun lo hi z n s W => has_any lo hi z n s W)
  have HL := hide h
  have HK := hide hk
  have HR : Hid (Crn.risesN l = Crn.allB (Crn.okN l) l.length) := rfl
  generalize Crn.risesN l = R at *
  have x0 := hide (NBox.new w (0, 0))
  have hb0 : Hid (Below w.heap.size w (w.alloc (.cells #[.int .i64 0, .int .i64 0] 55))) := (Below.refl _ w).alloc (Nat.le_refl _) _
  clear h hk
  go_enter Tryz.func30, Tryz.ntmps30
  go_wp2_with fail
  go_loopw [9] (fun i wr => ∃ (k : Nat) (p : Int × Int), k ≤ l.length ∧ i = .int .i64 k ∧ p = (if k = 0 then (0, 0) else l.getD (k - 1) (0, 0)) ∧ Crn.allB (Crn.okN l) k = true ∧ NBox wr w.heap.size p ∧ Below w.heap.size w wr) (fun i _ => l.length - (intOf i).toNat)
  case atStart => exact ⟨0, (0, 0), by omega, rfl, by simp, rfl, x0.out, hb0.out⟩
  case round =>
    clear x0 hb0
    obtain ⟨k, p, hk, rfl, hm, hall, hx, hb⟩ := hrel
    by_cases hlt : k < l.length
    · have hki : (k : Int) < l.length := by omega
      obtain ⟨ad, rfl, hc, hc2⟩ := (HL.out.later hb) k hlt
      have hk1 := Crn.allN_bd hall
      have hcode := Crn.okN_code hall
      rw [← hm] at hcode
      have hno := fun h : Crn.okN l k = false => Crn.allB_no h l.length hlt
      have hstep : Crn.allB (Crn.okN l) (k + 1) = (Crn.allB (Crn.okN l) k && Crn.okN l k) := rfl
      have hnext : l.getD k (0, 0) = (if k + 1 = 0 then (0, 0) else l.getD (k + 1 - 1) (0, 0)) := by rw [if_neg (by omega), Nat.add_sub_cancel]
      rw [hall, Bool.true_and] at hstep
      have HH := hide (And.intro hno (And.intro hstep hnext))
      have hx0 := hx.later ((Below.refl _ wr).alloc (Nat.le_refl _) (.cells #[.int .i64 (l.getD k (0, 0)).1, .int .i64 (l.getD k (0, 0)).2] 55))
      have hy0 := NBox.new wr (l.getD k (0, 0))
      have hb1 : Below w.heap.size w (wr.alloc (.cells #[.int .i64 (l.getD k (0, 0)).1, .int .i64 (l.getD k (0, 0)).2] 55)) := hb.alloc hb.size _
      have hne : w.heap.size < wr.heap.size := hx.lt
      obtain ⟨q0, q1⟩ := hx.cells
      have hbw : Below w.heap.size w wr := hb
      clear hno hstep hm hnext hall hx hb
      obtain ⟨p1, p2⟩ := p
      generalize l.getD k (0, 0) = n at *
      obtain ⟨n1, n2⟩ := n
      generalize Crn.okN l k = o at *
      dsimp only at hc hc2 hcode hx0 hy0 hb1 q0 q1
      obtain ⟨s1, z1, k10, k11, k12, k13⟩ := (HK.out.later hbw).wd
      obtain ⟨s2, z2, k20, k21, k22, k23⟩ := (HK.out.later hbw).pl
      have kl1 : 4 < wr.heap.size := World.block_lt_of_cell? _ _ k10
      have hbw2 := HK.out.later hb1
      have HX := hide (And.intro hx0 (And.intro hy0 (And.intro hb1 hbw2)))
      clear hx0 hy0 hb1 hbw hbw2
      by_cases hr : p2 < n2 ∨ p2 = n2 ∧ p1 < n1
      · have hc3 : o = (decide (1 ≤ n2 ∧ n2 ≤ 7) && decide (1 ≤ n1 ∧ n1 ≤ 5)) := by rw [hcode, decide_eq_true hr, Bool.true_and]
        have HC := hide hc3
        clear hcode hc3
        have hrr : (p2 < n2 ∨ (p2 = n2 ∧ p1 < n1)) := hr
        rcases hr with hr | ⟨hr0, hr⟩
        all_goals
          go_wp2_with fail
          refine (KH.out _ _ _ _ _ _).mono ?_
          rintro e W1 ⟨rfl, b1⟩
          obtain ⟨hx0, hy0, hb1, hk1⟩ := HX.out
          replace hx0 := hx0.later b1
          replace hy0 := hy0.later b1
          replace hk1 := hk1.later b1
          have hb2 := hb1.trans (b1.mono hb1.size)
          obtain ⟨s3, z3, k30, k31, k32, k33⟩ := hk1.pl
          have hd1 : Hid (decide (1 ≤ n2 ∧ n2 ≤ 7) = false → o = false) := fun h => by rw [HC.out, h]; rfl
          have hd2 : Hid (decide (1 ≤ n2 ∧ n2 ≤ 7) = true → o = decide (1 ≤ n1 ∧ n1 ≤ 5)) := fun h => by rw [HC.out, h]; rfl
          generalize decide (1 ≤ n2 ∧ n2 ≤ 7) = d1 at *
          obtain ⟨y0, y1⟩ := hy0.cells
          obtain ⟨xf0, xf1⟩ := hx0.frozen
          obtain ⟨x0, x1⟩ := hx0.cells
          cases d1
          · obtain rfl := hd1.out rfl
            have e1 := HH.out.1 rfl
            go_wp2
            go_ret
            exact ⟨by rw [HR.out, e1]; rfl, hb2⟩
          · have hd := hd2.out rfl
            have HD := hide hd
            clear hd
            go_wp2_with fail
            refine (KH.out _ _ _ _ _ _).mono ?_
            rintro e W2 ⟨rfl, b2⟩
            rw [← HD.out]
            replace hx0 := hx0.later b2
            replace hy0 := hy0.later b2
            have hb3 := hb2.trans (b2.mono hb2.size)
            obtain ⟨y0, y1⟩ := hy0.cells
            obtain ⟨xf0, xf1⟩ := hx0.frozen
            obtain ⟨x0, x1⟩ := hx0.cells
            cases o
            · have e1 := HH.out.1 rfl
              go_wp2
              go_ret
              exact ⟨by rw [HR.out, e1]; rfl, hb3⟩
            · have hx2 := hx0.set (n1, n2)
              have hb4 : Below w.heap.size w ((W2.setCell ⟨w.heap.size, 0, none⟩ (.int .i64 n1)).setCell ⟨w.heap.size, 1, none⟩ (.int .i64 n2)) := (hb3.setCell (p := ⟨w.heap.size, 0, none⟩) (Nat.le_refl _) _).setCell (p := ⟨w.heap.size, 1, none⟩) (Nat.le_refl _) _
              go_wp2
              go_roundw
              case rel => exact ⟨k + 1, (n1, n2), by omega, by go_num, HH.out.2.2, HH.out.2.1, hx2, hb4⟩
              case measure => simp [intOf]; omega
      · have ho : o = false := by rw [hcode, decide_eq_false hr]; rfl
        subst ho
        have e1 := HH.out.1 rfl
        have hb1 := HX.out.2.2.1
        clear hcode HX
        by_cases hlt2 : n2 < p2
        · have hne2 : ¬ p2 < n2 := by omega
          have hne3 : ¬ n2 = p2 := by omega
          have hne4 : ¬ p2 = n2 := by omega
          go_wp2
          go_ret
          exact ⟨by rw [HR.out, e1]; rfl, hb1⟩
        · obtain rfl : p2 = n2 := by omega
          have hne3 : ¬ p1 < n1 := by omega
          go_wp2
          go_ret
          exact ⟨by rw [HR.out, e1]; rfl, hb1⟩
    · have hkn : k = l.length := by omega
      have hki : (l.length : Int) ≤ k := by omega
      rw [hkn] at hall
      go_wp2
      go_ret
      exact ⟨by rw [HR.out, hall]; rfl, hb⟩
end Go.Proofs.YtgbbplkpepaidaaGreatDoor
