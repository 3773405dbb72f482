/- package cron: the number of what Check says. -/
import Derived.Test.YtgbbplkpepaidaaGreatDoorMCronTimes18
import Derived.Test.YtgbbplkpepaidaaGreatDoorMCronTimes1
namespace Go.Proofs.YtgbbplkpepaidaaGreatDoor
open Go.RowKit
set_option linter.unusedVariables false
set_option linter.unusedSimpArgs false

/-- where a Cron's lists lie -/
structure CAd where
  m : Option Addr
  h : Option Addr
  o : Option Addr
  d : Option Addr
  n : Option Addr
  w : Option Addr
  l : Option Addr
  t : Option Addr
  cm : Nat
  ch : Nat
  co : Nat
  cd : Nat
  cn : Nat
  cw : Nat
  cl : Nat
  ct : Nat
/-- a Cron as a value -/
abbrev crV (A : CAd) (x : Crn.C) : Value := .agg #[.slice A.m x.mi.length A.cm, .slice A.h x.ho.length A.ch, .slice A.o x.mo.length A.co, .bool x.any, .slice A.d x.da.length A.cd, .bool x.last, .slice A.n x.near.length A.cn, .bool x.anyW, .slice A.w x.wd.length A.cw, .slice A.l x.lo.length A.cl, .slice A.t x.nth.length A.ct]
/-- its lists are in memory -/
structure CL (A : CAd) (x : Crn.C) (W : World) : Prop where
  mi : IL A.m x.mi W
  ho : IL A.h x.ho W
  mo : IL A.o x.mo W
  da : IL A.d x.da W
  near : IL A.n x.near W
  wd : IL A.w x.wd W
  lo : IL A.l x.lo W
  nth : NL A.t x.nth W
  bd : x.da.length ≤ 1125899906842624 ∧ x.near.length ≤ 1125899906842624 ∧ x.wd.length ≤ 1125899906842624 ∧ x.lo.length ≤ 1125899906842624 ∧ x.nth.length ≤ 1125899906842624
theorem CL.later {A : CAd} {x : Crn.C} {W W' : World} (h : CL A x W) (hb : Below W.heap.size W W') : CL A x W' :=
  ⟨h.mi.later hb, h.ho.later hb, h.mo.later hb, h.da.later hb, h.near.later hb, h.wd.later hb, h.lo.later hb, h.nth.later hb, h.bd⟩
/-- a box that holds it -/
def CBox (W : World) (B : Nat) (A : CAd) (x : Crn.C) : Prop := W.heap[B]? = some (.cells #[.slice A.m x.mi.length A.cm, .slice A.h x.ho.length A.ch, .slice A.o x.mo.length A.co, .bool x.any, .slice A.d x.da.length A.cd, .bool x.last, .slice A.n x.near.length A.cn, .bool x.anyW, .slice A.w x.wd.length A.cw, .slice A.l x.lo.length A.cl, .slice A.t x.nth.length A.ct] 25 (0, 0))
theorem CBox.new (W : World) (A : CAd) (x : Crn.C) : CBox (W.alloc (.cells #[.slice A.m x.mi.length A.cm, .slice A.h x.ho.length A.ch, .slice A.o x.mo.length A.co, .bool x.any, .slice A.d x.da.length A.cd, .bool x.last, .slice A.n x.near.length A.cn, .bool x.anyW, .slice A.w x.wd.length A.cw, .slice A.l x.lo.length A.cl, .slice A.t x.nth.length A.ct] 25)) W.heap.size A x := World.alloc_heap_new W _
theorem CBox.lt {W : World} {B : Nat} {A : CAd} {x : Crn.C} (h : CBox W B A x) : B < W.heap.size := (Array.getElem?_eq_some_iff.1 h).1
theorem CBox.cells {W : World} {B : Nat} {A : CAd} {x : Crn.C} (h : CBox W B A x) :
    W.cell? ⟨B, 0, none⟩ = some (.slice A.m x.mi.length A.cm) ∧ W.cell? ⟨B, 1, none⟩ = some (.slice A.h x.ho.length A.ch) ∧ W.cell? ⟨B, 2, none⟩ = some (.slice A.o x.mo.length A.co) ∧ W.cell? ⟨B, 3, none⟩ = some (.bool x.any) ∧ W.cell? ⟨B, 4, none⟩ = some (.slice A.d x.da.length A.cd) ∧ W.cell? ⟨B, 5, none⟩ = some (.bool x.last) ∧
    W.cell? ⟨B, 6, none⟩ = some (.slice A.n x.near.length A.cn) ∧ W.cell? ⟨B, 7, none⟩ = some (.bool x.anyW) ∧ W.cell? ⟨B, 8, none⟩ = some (.slice A.w x.wd.length A.cw) ∧ W.cell? ⟨B, 9, none⟩ = some (.slice A.l x.lo.length A.cl) ∧ W.cell? ⟨B, 10, none⟩ = some (.slice A.t x.nth.length A.ct) :=
  ⟨cell_of_row _ _ _ _ _ (0, 0) h, cell_of_row _ _ _ _ _ (0, 0) h, cell_of_row _ _ _ _ _ (0, 0) h, cell_of_row _ _ _ _ _ (0, 0) h, cell_of_row _ _ _ _ _ (0, 0) h, cell_of_row _ _ _ _ _ (0, 0) h, cell_of_row _ _ _ _ _ (0, 0) h, cell_of_row _ _ _ _ _ (0, 0) h, cell_of_row _ _ _ _ _ (0, 0) h, cell_of_row _ _ _ _ _ (0, 0) h, cell_of_row _ _ _ _ _ (0, 0) h⟩
theorem CBox.later {W W' : World} {B : Nat} {A : CAd} {x : Crn.C} (h : CBox W B A x) (hb : Below W.heap.size W W') : CBox W' B A x := (hb.block B h.lt).trans h
/-- what a walk over it keeps -/
structure CW (w : World) (A : CAd) (x : Crn.C) (W : World) : Prop where
  kt : KT W
  cl : CL A x W
  bx : CBox W w.heap.size A x
  be : Below w.heap.size w W
theorem CW.later {w : World} {A : CAd} {x : Crn.C} {W W' : World} (h : CW w A x W) (hb : Below W.heap.size W W') : CW w A x W' :=
  ⟨h.kt.later hb, h.cl.later hb, h.bx.later hb, h.be.trans (hb.mono h.be.size)⟩
theorem CW.new {w : World} {A : CAd} {x : Crn.C} (hk : KT w) (hl : CL A x w) : CW w A x (w.alloc (.cells #[.slice A.m x.mi.length A.cm, .slice A.h x.ho.length A.ch, .slice A.o x.mo.length A.co, .bool x.any, .slice A.d x.da.length A.cd, .bool x.last, .slice A.n x.near.length A.cn, .bool x.anyW, .slice A.w x.wd.length A.cw, .slice A.l x.lo.length A.cl, .slice A.t x.nth.length A.ct] 25)) :=
  ⟨hk.later ((Below.refl _ w).alloc (Nat.le_refl _) _), hl.later ((Below.refl _ w).alloc (Nat.le_refl _) _), CBox.new w A x, (Below.refl _ w).alloc (Nat.le_refl _) _⟩
/-- an error of api, or none -/
def argV (b : Bool) : Value := if b then .nilIface else .iface 27 (.int .i64 1)
def listsB (x : Crn.C) : Bool := Crn.rises 0 59 x.mi && Crn.rises 0 23 x.ho && Crn.rises 1 12 x.mo && Crn.rises 1 31 x.da && Crn.rises 1 31 x.near && Crn.rises 1 7 x.wd && Crn.rises 1 7 x.lo && Crn.risesN x.nth
def wordsB (x : Crn.C) : Bool := decide (0 < x.mi.length) && decide (0 < x.ho.length) && decide (0 < x.mo.length) &&
  (x.any == (decide (x.da.length = 0) && decide (x.near.length = 0) && !x.last)) && (x.anyW == (decide (x.wd.length = 0) && decide (x.lo.length = 0) && decide (x.nth.length = 0)))
theorem ok_parts (x : Crn.C) : Crn.ok x = (listsB x && wordsB x) := by
  unfold Crn.ok listsB wordsB
  simp only [Bool.and_assoc]
theorem words_plain (a b c d e f g h : Nat) (x y z : Bool) : (decide (0 < a) && decide (0 < b) && decide (0 < c) && (x == (decide (d = 0) && decide (e = 0) && !z)) && (y == (decide (f = 0) && decide (g = 0) && decide (h = 0)))) =
    if 0 < a then (if 0 < b then (if 0 < c then (if (d : Int) + e = 0 then (if x = !z then (y == ((f : Int) + g + h == 0)) else false) else if x = true then false else (y == ((f : Int) + g + h == 0))) else false) else false) else false := by
  have k1 : ((d : Int) + e = 0) ↔ (d = 0 ∧ e = 0) := by omega
  have k2 : ((f : Int) + g + h == 0) = (decide (f = 0) && decide (g = 0) && decide (h = 0)) := by
    rw [Bool.eq_iff_iff]; simp; omega
  rw [k2]
  generalize (decide (f = 0) && decide (g = 0) && decide (h = 0)) = q
  by_cases ha : 0 < a
  · by_cases hb : 0 < b
    · by_cases hc : 0 < c
      · rw [if_pos ha, if_pos hb, if_pos hc, decide_eq_true ha, decide_eq_true hb, decide_eq_true hc]
        by_cases hd : d = 0 ∧ e = 0
        · rw [if_pos (k1.2 hd), decide_eq_true hd.1, decide_eq_true hd.2]
          cases x <;> cases y <;> cases z <;> cases q <;> rfl
        · rw [if_neg (fun h => hd (k1.1 h)), show (decide (d = 0) && decide (e = 0)) = false by rw [Bool.eq_false_iff]; simpa using hd]
          cases x <;> cases y <;> cases z <;> cases q <;> rfl
      · rw [if_pos ha, if_pos hb, if_neg hc, decide_eq_false hc]; simp
    · rw [if_pos ha, if_neg hb, decide_eq_false hb]; simp
  · rw [if_neg ha, decide_eq_false ha]; simp
theorem words_eq (x : Crn.C) : wordsB x = if 0 < x.mi.length then (if 0 < x.ho.length then (if 0 < x.mo.length then (if ((x.da.length : Int) + x.near.length = 0) then (if x.any = !x.last then (x.anyW == ((x.wd.length : Int) + x.lo.length + x.nth.length == 0)) else false) else if x.any = true then false else (x.anyW == ((x.wd.length : Int) + x.lo.length + x.nth.length == 0))) else false) else false) else false := words_plain _ _ _ _ _ _ _ _ _ _ _
theorem words_1 (x : Crn.C) (h0 : 0 < x.mi.length) (h1 : 0 < x.ho.length) (h2 : 0 < x.mo.length) (h3 : ((x.da.length : Int) + x.near.length = 0)) (h4 : x.any = !x.last) : Value.bool (x.anyW == ((x.wd.length : Int) + x.lo.length + x.nth.length == 0)) = Value.bool (wordsB x) := by rw [words_eq, if_pos h0, if_pos h1, if_pos h2, if_pos h3, if_pos h4]
theorem words_2 (x : Crn.C) (h0 : 0 < x.mi.length) (h1 : 0 < x.ho.length) (h2 : 0 < x.mo.length) (h3 : ((x.da.length : Int) + x.near.length = 0)) (h4 : ¬ x.any = !x.last) : Value.bool false = Value.bool (wordsB x) := by rw [words_eq, if_pos h0, if_pos h1, if_pos h2, if_pos h3, if_neg h4]
theorem words_3 (x : Crn.C) (h0 : 0 < x.mi.length) (h1 : 0 < x.ho.length) (h2 : 0 < x.mo.length) (h3 : ¬ ((x.da.length : Int) + x.near.length = 0)) (h4 : x.any = true) : Value.bool false = Value.bool (wordsB x) := by rw [words_eq, if_pos h0, if_pos h1, if_pos h2, if_neg h3, if_pos h4]
theorem words_4 (x : Crn.C) (h0 : 0 < x.mi.length) (h1 : 0 < x.ho.length) (h2 : 0 < x.mo.length) (h3 : ¬ ((x.da.length : Int) + x.near.length = 0)) (h4 : ¬ x.any = true) : Value.bool (x.anyW == ((x.wd.length : Int) + x.lo.length + x.nth.length == 0)) = Value.bool (wordsB x) := by rw [words_eq, if_pos h0, if_pos h1, if_pos h2, if_neg h3, if_neg h4]
theorem words_5 (x : Crn.C) (h0 : 0 < x.mi.length) (h1 : 0 < x.ho.length) (h2 : ¬ 0 < x.mo.length) : Value.bool false = Value.bool (wordsB x) := by rw [words_eq, if_pos h0, if_pos h1, if_neg h2]
theorem words_6 (x : Crn.C) (h0 : 0 < x.mi.length) (h1 : ¬ 0 < x.ho.length) : Value.bool false = Value.bool (wordsB x) := by rw [words_eq, if_pos h0, if_neg h1]
theorem words_7 (x : Crn.C) (h0 : ¬ 0 < x.mi.length) : Value.bool false = Value.bool (wordsB x) := by rw [words_eq, if_neg h0]
end Go.Proofs.YtgbbplkpepaidaaGreatDoor
namespace Go.Proofs.YtgbbplkpepaidaaGreatDoor
open Go.RowKit
set_option linter.unusedVariables false
set_option linter.unusedSimpArgs false

/-- the weekday of a day -/
def wk (d : Int) : Int := (d + 3) % 7 + 1
theorem wk_bd (d : Int) : 1 ≤ wk d ∧ wk d ≤ 7 := by unfold wk; omega
/-- the weekday nearest to the n-th day of a month of L days behind day a -/
def nrst (a L n : Int) : Int := if wk (a + n) = 6 then (if n = 1 then n + 2 else n - 1) else if wk (a + n) = 7 then (if n = L then n - 2 else n + 1) else n
/-- a month as a value -/
abbrev monV (q a L : Int) : Value := .agg #[.int .i64 q, .int .i64 a, .int .i64 L]
def MBox (W : World) (B : Nat) (q a L : Int) : Prop := W.heap[B]? = some (.cells #[.int .i64 q, .int .i64 a, .int .i64 L] 49 (0, 0))
theorem MBox.new (W : World) (q a L : Int) : MBox (W.alloc (.cells #[.int .i64 q, .int .i64 a, .int .i64 L] 49)) W.heap.size q a L := World.alloc_heap_new W _
theorem MBox.lt {W : World} {B : Nat} {q a L : Int} (h : MBox W B q a L) : B < W.heap.size := (Array.getElem?_eq_some_iff.1 h).1
theorem MBox.cells {W : World} {B : Nat} {q a L : Int} (h : MBox W B q a L) : W.cell? ⟨B, 0, none⟩ = some (.int .i64 q) ∧ W.cell? ⟨B, 1, none⟩ = some (.int .i64 a) ∧ W.cell? ⟨B, 2, none⟩ = some (.int .i64 L) :=
  ⟨cell_of_row _ _ _ _ _ (0, 0) h, cell_of_row _ _ _ _ _ (0, 0) h, cell_of_row _ _ _ _ _ (0, 0) h⟩
theorem MBox.later {W W' : World} {B : Nat} {q a L : Int} (h : MBox W B q a L) (hb : Below W.heap.size W W') : MBox W' B q a L := (hb.block B h.lt).trans h
set_option maxHeartbeats 1000000 in
theorem mweekday_any (q a L n : Int) (w : World) (a1 : -5000000 ≤ a) (a2 : a ≤ 5000000) (n1 : -1000 ≤ n) (n2 : n ≤ 1000) :
    Calls Tryz.prog 54 #[monV q a L, .int .i64 n] w fun e w' => e = .returned (.int .i64 (wk (a + n))) ∧ Below w.heap.size w w' := by
  obtain ⟨c0, c1, c2⟩ := (MBox.new w q a L).cells
  have HB : Hid (Below w.heap.size w (w.alloc (.cells #[.int .i64 q, .int .i64 a, .int .i64 L] 49))) := (Below.refl _ w).alloc (Nat.le_refl _) _
  have K := hide (fun W => weekday_any (a + n) W)
  rw [show (a + n + 3) % 7 + 1 = wk (a + n) from rfl] at K
  generalize wk (a + n) = v at *
  go_enter Tryz.func54, Tryz.ntmps54
  go_wp2_with fail
  refine (K.out _).mono ?_
  rintro e W ⟨rfl, rfl⟩
  go_wp2
  go_ret
  exact ⟨rfl, HB.out⟩
set_option maxHeartbeats 2000000 in
theorem nearest_any (q a L n : Int) (w : World) (a1 : -5000000 ≤ a) (a2 : a ≤ 5000000) (n1 : -1000 ≤ n) (n2 : n ≤ 1000) :
    Calls Tryz.prog 57 #[monV q a L, .int .i64 n] w fun e w' => e = .returned (.int .i64 (nrst a L n)) ∧ Below w.heap.size w w' := by
  obtain ⟨c0, c1, c2⟩ := (MBox.new w q a L).cells
  have HX := hide (MBox.new w q a L)
  have HB : Hid (Below w.heap.size w (w.alloc (.cells #[.int .i64 q, .int .i64 a, .int .i64 L] 49))) := (Below.refl _ w).alloc (Nat.le_refl _) _
  have K := hide (fun W => mweekday_any q a L n W a1 a2 n1 n2)
  have HN : Hid (nrst a L n = if wk (a + n) = 6 then (if n = 1 then n + 2 else n - 1) else if wk (a + n) = 7 then (if n = L then n - 2 else n + 1) else n) := rfl
  generalize nrst a L n = R at *
  generalize wk (a + n) = v at *
  by_cases h6 : v = 6
  · subst h6
    by_cases h1 : n = 1
    · have hR : R = n + 2 := by rw [HN.out, if_pos rfl, if_pos h1]
      subst h1
      subst hR
      clear HN
      go_enter Tryz.func57, Tryz.ntmps57
      go_wp2_with fail
      refine (K.out _).mono ?_
      rintro e W ⟨rfl, b⟩
      have hb := HB.out.trans (b.mono HB.out.size)
      go_wp2
      go_ret
      exact ⟨rfl, hb⟩
    · have hR : R = n - 1 := by rw [HN.out, if_pos rfl, if_neg h1]
      subst hR
      clear HN
      go_enter Tryz.func57, Tryz.ntmps57
      go_wp2_with fail
      refine (K.out _).mono ?_
      rintro e W ⟨rfl, b⟩
      have hb := HB.out.trans (b.mono HB.out.size)
      go_wp2
      go_ret
      exact ⟨rfl, hb⟩
  · by_cases h7 : v = 7
    · subst h7
      by_cases h1 : n = L
      · have hR : R = n - 2 := by rw [HN.out, if_neg h6, if_pos rfl, if_pos h1]
        subst h1
        subst hR
        clear HN
        go_enter Tryz.func57, Tryz.ntmps57
        go_wp2_with fail
        refine (K.out _).mono ?_
        rintro e W ⟨rfl, b⟩
        have hb := HB.out.trans (b.mono HB.out.size)
        obtain ⟨c0, c1, c2⟩ := (HX.out.later b).cells
        go_wp2
        go_ret
        exact ⟨rfl, hb⟩
      · have hR : R = n + 1 := by rw [HN.out, if_neg h6, if_pos rfl, if_neg h1]
        subst hR
        clear HN
        go_enter Tryz.func57, Tryz.ntmps57
        go_wp2_with fail
        refine (K.out _).mono ?_
        rintro e W ⟨rfl, b⟩
        have hb := HB.out.trans (b.mono HB.out.size)
        obtain ⟨c0, c1, c2⟩ := (HX.out.later b).cells
        go_wp2
        go_ret
        exact ⟨rfl, hb⟩
    · have hR : R = n := by rw [HN.out, if_neg h6, if_neg h7]
      subst hR
      clear HN
      go_enter Tryz.func57, Tryz.ntmps57
      go_wp2_with fail
      refine (K.out _).mono ?_
      rintro e W ⟨rfl, b⟩
      have hb := HB.out.trans (b.mono HB.out.size)
      go_wp2
      go_ret
      exact ⟨rfl, hb⟩
end Go.Proofs.YtgbbplkpepaidaaGreatDoor
namespace Go.Proofs.YtgbbplkpepaidaaGreatDoor
/-- the number of an error -/
def argN (b : Bool) : Int := if b then 0 else 1
end Go.Proofs.YtgbbplkpepaidaaGreatDoor
