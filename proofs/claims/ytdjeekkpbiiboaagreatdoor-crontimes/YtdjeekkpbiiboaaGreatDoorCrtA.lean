/- package cron: a month's weekdays; the weekday nearest to a day. -/
import Derived.Test.YtdjeekkpbiiboaaGreatDoorCrnDm
import Derived.Test.YtdjeekkpbiiboaaGreatDoorNums
namespace Go.Proofs.YtdjeekkpbiiboaaGreatDoor
open Go.RowKit
set_option linter.unusedVariables false
set_option linter.unusedSimpArgs false

/-- the weekday of a day -/
def wk (d : Int) : Int := (d + 3) % 7 + 1
theorem wk_bd (d : Int) : 1 ≤ wk d ∧ wk d ≤ 7 := by unfold wk; omega
/-- the weekday nearest to the n-th day of a month of L days behind day a -/
def nrst (a L n : Int) : Int := if wk (a + n) = 6 then (if n = 1 then n + 2 else n - 1) else if wk (a + n) = 7 then (if n = L then n - 2 else n + 1) else n
/-- a month as a value -/
abbrev monV (q a L : Int) : Value := .agg #[.int .i64 q, .int .i64 a, .int .i64 L]
def MBox (W : World) (B : Nat) (q a L : Int) : Prop := W.heap[B]? = some (.cells #[.int .i64 q, .int .i64 a, .int .i64 L] 49 (0, 0))
theorem MBox.new (W : World) (q a L : Int) : MBox (W.alloc (.cells #[.int .i64 q, .int .i64 a, .int .i64 L] 49)) W.heap.size q a L := World.alloc_heap_new W _
theorem MBox.lt {W : World} {B : Nat} {q a L : Int} (h : MBox W B q a L) : B < W.heap.size := (Array.getElem?_eq_some_iff.1 h).1
theorem MBox.cells {W : World} {B : Nat} {q a L : Int} (h : MBox W B q a L) : W.cell? ⟨B, 0, none⟩ = some (.int .i64 q) ∧ W.cell? ⟨B, 1, none⟩ = some (.int .i64 a) ∧ W.cell? ⟨B, 2, none⟩ = some (.int .i64 L) :=
  ⟨cell_of_row _ _ _ _ _ (0, 0) h, cell_of_row _ _ _ _ _ (0, 0) h, cell_of_row _ _ _ _ _ (0, 0) h⟩
theorem MBox.later {W W' : World} {B : Nat} {q a L : Int} (h : MBox W B q a L) (hb : Below W.heap.size W W') : MBox W' B q a L := (hb.block B h.lt).trans h
set_option maxHeartbeats 1000000 in
theorem mweekday_any (q a L n : Int) (w : World) (a1 : -5000000 ≤ a) (a2 : a ≤ 5000000) (n1 : -1000 ≤ n) (n2 : n ≤ 1000) :
    Calls Tryz.prog 54 #[monV q a L, .int .i64 n] w fun e w' => e = .returned (.int .i64 (wk (a + n))) ∧ Below w.heap.size w w' := by
  obtain ⟨c0, c1, c2⟩ := (MBox.new w q a L).cells
  have HB : Hid (Below w.heap.size w (w.alloc (.cells #[.int .i64 q, .int .i64 a, .int .i64 L] 49))) := (Below.refl _ w).alloc (Nat.le_refl _) _
  have K := hide (fun W => weekday_any (a + n) W)
  rw [show (a + n + 3) % 7 + 1 = wk (a + n) from rfl] at K
  generalize wk (a + n) = v at *
  go_enter Tryz.func54, Tryz.ntmps54
  go_wp2_with fail
  refine (K.out _).mono ?_
  rintro e W ⟨rfl, rfl⟩
  go_wp2
  go_ret
  exact ⟨rfl, HB.out⟩
set_option maxHeartbeats 2000000 in
theorem nearest_any (q a L n : Int) (w : World) (a1 : -5000000 ≤ a) (a2 : a ≤ 5000000) (n1 : -1000 ≤ n) (n2 : n ≤ 1000) :
    Calls Tryz.prog 57 #[monV q a L, .int .i64 n] w fun e w' => e = .returned (.int .i64 (nrst a L n)) ∧ Below w.heap.size w w' := by
  obtain ⟨c0, c1, c2⟩ := (MBox.new w q a L).cells
  have HX := hide (MBox.new w q a L)
  have HB : Hid (Below w.heap.size w (w.alloc (.cells #[.int .i64 q, .int .i64 a, .int .i64 L] 49))) := (Below.refl _ w).alloc (Nat.le_refl _) _
  have K := hide (fun W => mweekday_any q a L n W a1 a2 n1 n2)
  have HN : Hid (nrst a L n = if wk (a + n) = 6 then (if n = 1 then n + 2 else n - 1) else if wk (a + n) = 7 then (if n = L then n - 2 else n + 1) else n) := rfl
  generalize nrst a L n = R at *
  generalize wk (a + n) = v at *
  by_cases h6 : v = 6
  · subst h6
    by_cases h1 : n = 1
    · have hR : R = n + 2 := by rw [HN.out, if_pos rfl, if_pos h1]
      subst h1
      subst hR
      clear HN
      go_enter Tryz.func57, Tryz.ntmps57
      go_wp2_with fail
      refine (K.out _).mono ?_
      rintro e W ⟨rfl, b⟩
      have hb := HB.out.trans (b.mono HB.out.size)
      go_wp2
      go_ret
      exact ⟨rfl, hb⟩
    · have hR : R = n - 1 := by rw [HN.out, if_pos rfl, if_neg h1]
      subst hR
      clear HN
      go_enter Tryz.func57, Tryz.ntmps57
      go_wp2_with fail
      refine (K.out _).mono ?_
      rintro e W ⟨rfl, b⟩
      have hb := HB.out.trans (b.mono HB.out.size)
      go_wp2
      go_ret
      exact ⟨rfl, hb⟩
  · by_cases h7 : v = 7
    · subst h7
      by_cases h1 : n = L
      · have hR : R = n - 2 := by rw [HN.out, if_neg h6, if_pos rfl, if_pos h1]
        subst h1
        subst hR
        clear HN
        go_enter Tryz.func57, Tryz.ntmps57
        go_wp2_with fail
        refine (K.out _).mono ?_
        rintro e W ⟨rfl, b⟩
        have hb := HB.out.trans (b.mono HB.out.size)
        obtain ⟨c0, c1, c2⟩ := (HX.out.later b).cells
        go_wp2
        go_ret
        exact ⟨rfl, hb⟩
      · have hR : R = n + 1 := by rw [HN.out, if_neg h6, if_pos rfl, if_neg h1]
        subst hR
        clear HN
        go_enter Tryz.func57, Tryz.ntmps57
        go_wp2_with fail
        refine (K.out _).mono ?_
        rintro e W ⟨rfl, b⟩
        have hb := HB.out.trans (b.mono HB.out.size)
        obtain ⟨c0, c1, c2⟩ := (HX.out.later b).cells
        go_wp2
        go_ret
        exact ⟨rfl, hb⟩
    · have hR : R = n := by rw [HN.out, if_neg h6, if_neg h7]
      subst hR
      clear HN
      go_enter Tryz.func57, Tryz.ntmps57
      go_wp2_with fail
      refine (K.out _).mono ?_
      rintro e W ⟨rfl, b⟩
      have hb := HB.out.trans (b.mono HB.out.size)
      go_wp2
      go_ret
      exact ⟨rfl, hb⟩
end Go.Proofs.YtdjeekkpbiiboaaGreatDoor
