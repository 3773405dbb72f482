/- package cron: Next, where it errs. -/
import Derived.Test.YtdjeekkpbiiboaaGreatDoorCrtG
import Derived.RangeFuncNested
namespace Go.Proofs.YtdjeekkpbiiboaaGreatDoor
open Go.RowKit
set_option linter.unusedVariables false
set_option linter.unusedSimpArgs false
theorem results_cell2 {fn : Func} {p q : Tmp} {t u : TypeId} (h : fn.results = #[.cell p t, .cell q u]) (tmps : Array Value) (P : Program) (w : World) :
    (results fn tmps).run P w =
      ((asAddr (tmps.getD p undef)).run P w).andThen fun a w₁ => ((loadVar t a).run P w₁).andThen fun v w₂ => ((asAddr (tmps.getD q undef)).run P w₂).andThen fun b w₃ => ((loadVar u b).run P w₃).andThen fun v' w₄ => .ok (.tuple #[v, v']) w₄ := by
  simp only [results, h]
  simp [Sem.run_bind, Result.andThen]
/-- what Next's walk keeps: the Cron's box, the start's, the two results' -/
structure NX (w : World) (A : CAd) (x : Crn.C) (t : Int) (W : World) : Prop where
  c : CW w A x W
  t : Boxed W (w.heap.size + 1) 26 (.int .i64 t)
  r : Boxed W (w.heap.size + 1 + 1) 26 (.int .i64 0)
  e : Boxed W (w.heap.size + 1 + 1 + 1) 34 .nilIface
theorem NX.later {w W W' : World} {A : CAd} {x : Crn.C} {t : Int} (h : NX w A x t W) (b : Below W.heap.size W W') : NX w A x t W' :=
  ⟨h.c.later b, (b.block _ h.t.lt).trans h.t, (b.block _ h.r.lt).trans h.r, (b.block _ h.e.lt).trans h.e⟩
theorem NX.new {w : World} {A : CAd} {x : Crn.C} (t : Int) (hk : KT w) (hl : CL A x w) : NX w A x t ((((w.alloc (crO A x)).alloc (.cells #[.int .i64 t] 26)).alloc (.cells #[.int .i64 0] 26)).alloc (.cells #[.nilIface] 34)) := by
  have c := CW.new hk hl
  refine ⟨((c.later ((Below.refl _ _).alloc (Nat.le_refl _) _)).later ((Below.refl _ _).alloc (Nat.le_refl _) _)).later ((Below.refl _ _).alloc (Nat.le_refl _) _), ?_, ?_, ?_⟩
  · have h := ((Boxed.new (w.alloc (crO A x)) 26 (.int .i64 t)).alloc (.cells #[.int .i64 0] 26)).alloc (.cells #[.nilIface] 34)
    rw [World.size_alloc] at h
    exact h
  · have h := (Boxed.new ((w.alloc (crO A x)).alloc (.cells #[.int .i64 t] 26)) 26 (.int .i64 0)).alloc (.cells #[.nilIface] 34)
    rw [World.size_alloc, World.size_alloc] at h
    exact h
  · have h := Boxed.new (((w.alloc (crO A x)).alloc (.cells #[.int .i64 t] 26)).alloc (.cells #[.int .i64 0] 26)) 34 .nilIface
    rw [World.size_alloc, World.size_alloc, World.size_alloc] at h
    exact h
theorem NX.set {w W : World} {A : CAd} {x : Crn.C} {t : Int} (h : NX w A x t W) (u v : Value) : Below w.heap.size w ((W.setCell ⟨w.heap.size + 1 + 1, 0, none⟩ u).setCell ⟨w.heap.size + 1 + 1 + 1, 0, none⟩ v) :=
  (h.c.be.setCell (p := ⟨w.heap.size + 1 + 1, 0, none⟩) (by show w.heap.size ≤ w.heap.size + 1 + 1; omega) _).setCell (p := ⟨w.heap.size + 1 + 1 + 1, 0, none⟩) (by show w.heap.size ≤ w.heap.size + 1 + 1 + 1; omega) _
set_option maxRecDepth 100000 in
set_option maxHeartbeats 4000000 in
theorem next_no (A : CAd) (x : Crn.C) (t : Int) (w : World) (hk : KT w) (hl : CL A x w) (hok : Crn.ok x = false) :
    Calls Tryz.prog 14 #[crV A x, .int .i64 t] w fun e w' => e = .returned (.tuple #[.int .i64 0, .iface 27 (.int .i64 1)]) ∧ Below w.heap.size w w' := by
  have HW := hide (NX.new t hk hl)
  have KC := hide (fun W (hw : CW w A x W) => check_any A x W hw.kt hw.cl)
  rw [hok] at KC
  clear hk hl hok
  go_enter Tryz.func14, Tryz.ntmps14
  go_upto_region 1 with fail
  have hw := HW.out
  obtain ⟨W0, hW0⟩ : ∃ W0, ((((w.alloc (crO A x)).alloc (.cells #[.int .i64 t] 26)).alloc (.cells #[.int .i64 0] 26)).alloc (.cells #[.nilIface] 34)) = W0 := ⟨_, rfl⟩
  rw [hW0] at hw ⊢
  clear hW0 HW
  obtain ⟨x0, x1, x2, x3, x4, x5, x6, x7, x8, x9, x10⟩ := hw.c.bx.cells
  go_wp2_with fail
  refine (KC.out _ hw.c).mono ?_
  rintro e W1 ⟨rfl, b1⟩
  rw [show argV false = .iface 27 (.int .i64 1) from rfl]
  replace hw := hw.later b1
  clear x0 x1 x2 x3 x4 x5 x6 x7 x8 x9 x10 b1
  have r0 := hw.r.cell
  have r1 := hw.r.frozen
  have e0 := hw.e.cell
  have e1 := hw.e.frozen
  have hB := hw.set (.int .i64 0) (.iface 27 (.int .i64 1))
  have c0 := ((hw.r.set (.int .i64 0)).other (B' := w.heap.size + 1 + 1 + 1) (by omega) (.iface 27 (.int .i64 1))).cell
  have c1 := ((hw.e.other (B' := w.heap.size + 1 + 1) (by omega) (.int .i64 0)).set (.iface 27 (.int .i64 1))).cell
  go_wp2
  try simp only [Exit.inBlock, Exit.then]
  refine bodyPost_ret (v := .tuple #[.int .i64 0, .iface 27 (.int .i64 1)]) ?_ rfl ⟨rfl, hB⟩
  rw [results_cell2 rfl]
  go_simp
set_option maxRecDepth 100000 in
set_option maxHeartbeats 4000000 in
theorem next_out (A : CAd) (x : Crn.C) (t : Int) (w : World) (hk : KT w) (hl : CL A x w) (hok : Crn.ok x = true)
    (ks : ∀ W, Calls Tryz.prog 16 #[.int .i64 t] W fun e w' => e = .returned (.tuple #[.int .i64 0, .int .i64 0, .iface 27 (.int .i64 4)]) ∧ w' = W) :
    Calls Tryz.prog 14 #[crV A x, .int .i64 t] w fun e w' => e = .returned (.tuple #[.int .i64 0, .iface 27 (.int .i64 4)]) ∧ Below w.heap.size w w' := by
  have HW := hide (NX.new t hk hl)
  have KC := hide (fun W (hw : CW w A x W) => check_any A x W hw.kt hw.cl)
  have KS := hide ks
  rw [hok] at KC
  clear hk hl hok ks
  go_enter Tryz.func14, Tryz.ntmps14
  go_upto_region 1 with fail
  have hw := HW.out
  obtain ⟨W0, hW0⟩ : ∃ W0, ((((w.alloc (crO A x)).alloc (.cells #[.int .i64 t] 26)).alloc (.cells #[.int .i64 0] 26)).alloc (.cells #[.nilIface] 34)) = W0 := ⟨_, rfl⟩
  rw [hW0] at hw ⊢
  clear hW0 HW
  obtain ⟨x0, x1, x2, x3, x4, x5, x6, x7, x8, x9, x10⟩ := hw.c.bx.cells
  go_wp2_with fail
  refine (KC.out _ hw.c).mono ?_
  rintro e W1 ⟨rfl, b1⟩
  rw [show argV true = .nilIface from rfl]
  replace hw := hw.later b1
  clear x0 x1 x2 x3 x4 x5 x6 x7 x8 x9 x10 b1
  have t0 := hw.t.cell
  go_wp2_with fail
  refine (KS.out _).mono ?_
  rintro e W2 ⟨rfl, rfl⟩
  have r0 := hw.r.cell
  have r1 := hw.r.frozen
  have e0 := hw.e.cell
  have e1 := hw.e.frozen
  have hB := hw.set (.int .i64 0) (.iface 27 (.int .i64 4))
  have c0 := ((hw.r.set (.int .i64 0)).other (B' := w.heap.size + 1 + 1 + 1) (by omega) (.iface 27 (.int .i64 4))).cell
  have c1 := ((hw.e.other (B' := w.heap.size + 1 + 1) (by omega) (.int .i64 0)).set (.iface 27 (.int .i64 4))).cell
  go_wp2
  try simp only [Exit.inBlock, Exit.then]
  refine bodyPost_ret (v := .tuple #[.int .i64 0, .iface 27 (.int .i64 4)]) ?_ rfl ⟨rfl, hB⟩
  rw [results_cell2 rfl]
  go_simp
end Go.Proofs.YtdjeekkpbiiboaaGreatDoor
