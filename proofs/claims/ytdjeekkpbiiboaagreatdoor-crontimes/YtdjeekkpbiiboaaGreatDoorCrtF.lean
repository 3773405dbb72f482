/- package cron: monthOf. -/
import Derived.Test.YtdjeekkpbiiboaaGreatDoorCrtE
namespace Go.Proofs.YtdjeekkpbiiboaaGreatDoor
open Go.RowKit
set_option linter.unusedVariables false
set_option linter.unusedSimpArgs false

theorem MBox.frozens {W : World} {B : Nat} {q a L : Int} (h : MBox W B q a L) : W.frozen? ⟨B, 0, none⟩ = false ∧ W.frozen? ⟨B, 1, none⟩ = false ∧ W.frozen? ⟨B, 2, none⟩ = false := by
  refine ⟨?_, ?_, ?_⟩ <;> simp [World.frozen?, show W.heap[B]? = _ from h]
/-- a date's box -/
def DBox (W : World) (B : Nat) (c y m d : Int) : Prop := W.heap[B]? = some (.cells #[.int .i64 c, .int .i64 y, .int .i64 m, .int .i64 d] 60 (0, 0))
theorem DBox.new (W : World) (c y m d : Int) : DBox (W.alloc (.cells #[.int .i64 c, .int .i64 y, .int .i64 m, .int .i64 d] 60)) W.heap.size c y m d := World.alloc_heap_new W _
theorem DBox.lt {W : World} {B : Nat} {c y m d : Int} (h : DBox W B c y m d) : B < W.heap.size := (Array.getElem?_eq_some_iff.1 h).1
theorem DBox.cells {W : World} {B : Nat} {c y m d : Int} (h : DBox W B c y m d) : W.cell? ⟨B, 0, none⟩ = some (.int .i64 c) ∧ W.cell? ⟨B, 1, none⟩ = some (.int .i64 y) ∧ W.cell? ⟨B, 2, none⟩ = some (.int .i64 m) ∧ W.cell? ⟨B, 3, none⟩ = some (.int .i64 d) :=
  ⟨cell_of_row _ _ _ _ _ (0, 0) h, cell_of_row _ _ _ _ _ (0, 0) h, cell_of_row _ _ _ _ _ (0, 0) h, cell_of_row _ _ _ _ _ (0, 0) h⟩
theorem DBox.later {W W' : World} {B : Nat} {c y m d : Int} (h : DBox W B c y m d) (hb : Below W.heap.size W W') : DBox W' B c y m d := (hb.block B h.lt).trans h
set_option maxRecDepth 100000 in
set_option maxHeartbeats 4000000 in
theorem monthOfM_any (day Y M D L : Int) (w : World) (d1 : -4000000 ≤ day) (d2 : day ≤ 4000000) (D1 : 1 ≤ D) (D2 : D ≤ 31)
    (ko : ∀ W, Calls Tryz.prog 34 #[.int .i64 1, .int .i64 day] W fun e w' => e = .returned (.tuple #[.agg #[.int .i64 1, .int .i64 Y, .int .i64 M, .int .i64 D], .nilIface]) ∧ Below W.heap.size W w')
    (kl : ∀ W, Calls Tryz.prog 35 #[.int .i64 1, .int .i64 Y, .int .i64 M] W fun e w' => e = .returned (.tuple #[.int .i64 L, .nilIface]) ∧ Below W.heap.size W w') :
    Calls Tryz.prog 17 #[.int .i64 day] w fun e w' => e = .returned (monV M (day - D) L) ∧ Below w.heap.size w w' := by
  have KO := hide ko
  have KL := hide kl
  have HX := hide (And.intro (MBox.new w 0 0 0) ((Below.refl w.heap.size w).alloc (Nat.le_refl _) (.cells #[.int .i64 0, .int .i64 0, .int .i64 0] 49)))
  clear ko kl
  go_enter Tryz.func17, Tryz.ntmps17
  go_wp2_with fail
  refine (KO.out _).mono ?_
  rintro e W1 ⟨rfl, b1⟩
  have hm := HX.out.1.later b1
  have hB := HX.out.2.trans (b1.mono (by simp))
  have hd := DBox.new W1 1 Y M D
  have hm2 := hm.later ((Below.refl _ W1).alloc (Nat.le_refl _) (.cells #[.int .i64 1, .int .i64 Y, .int .i64 M, .int .i64 D] 60))
  have hB2 := hB.alloc hB.size (.cells #[.int .i64 1, .int .i64 Y, .int .i64 M, .int .i64 D] 60)
  have HD := hide (And.intro hd (And.intro hm2 hB2))
  clear hm hB hd hm2 hB2 b1 HX
  go_upto_region 2 with fail
  obtain ⟨hd, hm, hB⟩ := HD.out
  obtain ⟨W2, hW2⟩ : ∃ W2, W1.alloc (.cells #[.int .i64 1, .int .i64 Y, .int .i64 M, .int .i64 D] 60) = W2 := ⟨_, rfl⟩
  rw [hW2] at hd hm hB ⊢
  clear hW2 HD
  obtain ⟨e0, e1, e2, e3⟩ := hd.cells
  go_wp2_with fail
  refine (KL.out _).mono ?_
  rintro e W3 ⟨rfl, b3⟩
  replace hd := hd.later b3
  replace hm := hm.later b3
  replace hB := hB.trans (b3.mono hB.size)
  clear b3 e0 e1 e2 e3
  obtain ⟨e0, e1, e2, e3⟩ := hd.cells
  obtain ⟨z0, z1, z2⟩ := hm.cells
  obtain ⟨f0, f1, f2⟩ := hm.frozens
  have hs : w.heap.size < W3.heap.size := hm.lt
  go_wp2
  refine bodyPost_ret (v := monV M (day - D) L) (by simp [results, Tryz.results17, go_sem, z0, z1, z2, hs]) rfl ⟨rfl, ?_⟩
  exact ((hB.setCell (Nat.le_refl _) _).setCell (Nat.le_refl _) _).setCell (Nat.le_refl _) _
end Go.Proofs.YtdjeekkpbiiboaaGreatDoor
