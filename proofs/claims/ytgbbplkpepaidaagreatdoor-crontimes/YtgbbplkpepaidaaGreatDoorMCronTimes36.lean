/- package cron: Next, where it errs. -/
import Derived.Test.YtgbbplkpepaidaaGreatDoorMCronTimes35
import Derived.Test.YtgbbplkpepaidaaGreatDoorMCronTimes23
import Derived.RangeFuncNested
namespace Go.Proofs.YtgbbplkpepaidaaGreatDoor
open Go.RowKit
set_option linter.unusedVariables false
set_option linter.unusedSimpArgs false

/-- lists of a Cron that may be are not long -/
structure OkU (x : Crn.C) : Prop where
  t : OkT x
  mi : x.mi.length ≤ 1000
  ho : x.ho.length ≤ 1000
  mo : x.mo.length ≤ 1000
theorem ok_u {x : Crn.C} (h : Crn.ok x = true) : OkU x := by
  rw [ok_parts] at h
  unfold listsB at h
  simp only [Bool.and_eq_true] at h
  obtain ⟨⟨⟨⟨⟨⟨⟨⟨h1, h2⟩, h3⟩, h4⟩, h5⟩, h6⟩, h7⟩, h8⟩, _⟩ := h
  have l1 := Crn.rises_len h1
  have l2 := Crn.rises_len h2
  have l3 := Crn.rises_len h3
  have l4 := Crn.rises_len h4
  have l5 := Crn.rises_len h5
  have l6 := Crn.rises_len h6
  have l7 := Crn.rises_len h7
  have l8 := Crn.risesN_len h8
  exact ⟨⟨by omega, by omega, by omega, by omega, by omega, fun k hk => by have := Crn.okR_bd (Crn.allB_yes h5 k hk); omega⟩, by omega, by omega, by omega⟩
/-- does a second of a day fit? -/
def fitT (x : Crn.C) (s M D L day : Int) : Bool := memB x.mi (s / 60 % 60) && memB x.ho (s / 60 / 60) && memB x.mo M && fitD x (day - D) L D
set_option maxRecDepth 100000 in
set_option maxHeartbeats 4000000 in
theorem fits_no (A : CAd) (x : Crn.C) (t : Int) (w : World) (hk : KT w) (hl : CL A x w) (hok : Crn.ok x = false) :
    Calls Tryz.prog 8 #[crV A x, .int .i64 t] w fun e w' => e = .returned (.tuple #[.bool false, .iface 27 (.int .i64 1)]) ∧ Below w.heap.size w w' := by
  have HW := hide (CW.new hk hl)
  have KC := hide (fun W (hw : CW w A x W) => check_any A x W hw.kt hw.cl)
  rw [hok] at KC
  clear hk hl hok
  go_enter Tryz.func8, Tryz.ntmps8
  go_upto_region 1 with fail
  have hw := HW.out
  obtain ⟨W0, hW0⟩ : ∃ W0, (w.alloc (crO A x)) = W0 := ⟨_, rfl⟩
  rw [hW0] at hw ⊢
  clear hW0 HW
  obtain ⟨x0, x1, x2, x3, x4, x5, x6, x7, x8, x9, x10⟩ := hw.bx.cells
  go_wp2_with fail
  refine (KC.out _ hw).mono ?_
  rintro e W1 ⟨rfl, b1⟩
  rw [show argV false = .iface 27 (.int .i64 1) from rfl]
  have hB := hw.be.trans (b1.mono hw.be.size)
  go_wp2
  go_ret2
  exact ⟨rfl, hB⟩
set_option maxRecDepth 100000 in
set_option maxHeartbeats 4000000 in
theorem fits_out (A : CAd) (x : Crn.C) (t : Int) (w : World) (hk : KT w) (hl : CL A x w) (hok : Crn.ok x = true)
    (ks : ∀ W, Calls Tryz.prog 16 #[.int .i64 t] W fun e w' => e = .returned (.tuple #[.int .i64 0, .int .i64 0, .iface 27 (.int .i64 4)]) ∧ w' = W) :
    Calls Tryz.prog 8 #[crV A x, .int .i64 t] w fun e w' => e = .returned (.tuple #[.bool false, .iface 27 (.int .i64 4)]) ∧ Below w.heap.size w w' := by
  have HW := hide (CW.new hk hl)
  have KC := hide (fun W (hw : CW w A x W) => check_any A x W hw.kt hw.cl)
  have KS := hide ks
  rw [hok] at KC
  clear hk hl hok ks
  go_enter Tryz.func8, Tryz.ntmps8
  go_upto_region 1 with fail
  have hw := HW.out
  obtain ⟨W0, hW0⟩ : ∃ W0, (w.alloc (crO A x)) = W0 := ⟨_, rfl⟩
  rw [hW0] at hw ⊢
  clear hW0 HW
  obtain ⟨x0, x1, x2, x3, x4, x5, x6, x7, x8, x9, x10⟩ := hw.bx.cells
  go_wp2_with fail
  refine (KC.out _ hw).mono ?_
  rintro e W1 ⟨rfl, b1⟩
  rw [show argV true = .nilIface from rfl]
  have hB := hw.be.trans (b1.mono hw.be.size)
  go_wp2_with fail
  refine (KS.out _).mono ?_
  rintro e W2 ⟨rfl, rfl⟩
  go_wp2
  go_ret2
  exact ⟨rfl, hB⟩
set_option maxRecDepth 100000 in
set_option maxHeartbeats 8000000 in
theorem fits_ok (A : CAd) (x : Crn.C) (t s day M D L : Int) (w : World) (hk : KT w) (hl : CL A x w) (hok : Crn.ok x = true) (s0 : 0 ≤ s) (s1 : s < 86400) (d1 : -4000000 ≤ day) (d2 : day ≤ 4000000) (D1 : 1 ≤ D) (D2 : D ≤ 31)
    (ks : ∀ W, Calls Tryz.prog 16 #[.int .i64 t] W fun e w' => e = .returned (.tuple #[.int .i64 day, .int .i64 s, .nilIface]) ∧ w' = W)
    (km : ∀ W, Calls Tryz.prog 17 #[.int .i64 day] W fun e w' => e = .returned (monV M (day - D) L) ∧ Below W.heap.size W w') :
    Calls Tryz.prog 8 #[crV A x, .int .i64 t] w fun e w' => e = .returned (.tuple #[.bool (fitT x s M D L day), .nilIface]) ∧ Below w.heap.size w w' := by
  have HW := hide (CW.new hk hl)
  have KC := hide (fun W (hw : CW w A x W) => check_any A x W hw.kt hw.cl)
  have KS := hide ks
  have KM := hide km
  have hu := ok_u hok
  have K1 := hide (fun W (hw : CW w A x W) => contains_any A.m A.cm x.mi (s / 60 % 60) W hw.cl.mi hu.mi)
  have K2 := hide (fun W (hw : CW w A x W) => contains_any A.h A.ch x.ho (s / 60 / 60) W hw.cl.ho hu.ho)
  have K3 := hide (fun W (hw : CW w A x W) => contains_any A.o A.co x.mo M W hw.cl.mo hu.mo)
  have K4 := hide (fun W (hw : CW w A x W) => fits_any A x M (day - D) L D W hw.cl hu.t (by omega) (by omega) D1 (by omega))
  have HF : Hid (fitT x s M D L day = (memB x.mi (s / 60 % 60) && memB x.ho (s / 60 / 60) && memB x.mo M && fitD x (day - D) L D)) := rfl
  have q1 : s.tdiv 60 = s / 60 := Int.tdiv_eq_ediv_of_nonneg s0
  have q2 : (s / 60).tdiv 60 = s / 60 / 60 := Int.tdiv_eq_ediv_of_nonneg (by omega)
  have q3 : (s / 60).tmod 60 = s / 60 % 60 := Int.tmod_eq_emod_of_nonneg (by omega)
  have hdd : day - (day - D) = D := by omega
  generalize fitT x s M D L day = R at *
  generalize memB x.mi (s / 60 % 60) = b1 at *
  generalize memB x.ho (s / 60 / 60) = b2 at *
  generalize memB x.mo M = b3 at *
  generalize fitD x (day - D) L D = b4 at *
  have z1 : 0 ≤ s / 60 := by omega
  have z2 : s / 60 < 1440 := by omega
  generalize s / 60 = mn at *
  have w1 := wrap64_id (x := day - D) (by omega) (by omega)
  generalize day - D = a at *
  rw [hok] at KC
  clear hk hl hok ks km hu
  go_enter Tryz.func8, Tryz.ntmps8
  go_upto_region 1 with fail
  have hw := HW.out
  obtain ⟨W0, hW0⟩ : ∃ W0, (w.alloc (crO A x)) = W0 := ⟨_, rfl⟩
  rw [hW0] at hw ⊢
  clear hW0 HW
  obtain ⟨x0, x1, x2, x3, x4, x5, x6, x7, x8, x9, x10⟩ := hw.bx.cells
  go_wp2_with fail
  refine (KC.out _ hw).mono ?_
  rintro e W1 ⟨rfl, c1⟩
  rw [show argV true = .nilIface from rfl]
  replace hw := hw.later c1
  clear c1 x0 x1 x2 x3 x4 x5 x6 x7 x8 x9 x10
  go_wp2_with fail
  refine (KS.out _).mono ?_
  rintro e W2 ⟨rfl, rfl⟩
  go_wp2_with fail
  refine (KM.out _).mono ?_
  rintro e W3 ⟨rfl, c3⟩
  replace hw := hw.later c3
  clear c3
  have HA := hide (And.intro (MBox.new W3 M a L) (hw.later ((Below.refl _ W3).alloc (Nat.le_refl _) (.cells #[.int .i64 M, .int .i64 a, .int .i64 L] 49))))
  clear hw
  go_upto_region 9 with fail
  obtain ⟨hm, hw⟩ := HA.out
  obtain ⟨B, hB⟩ : ∃ B, W3.heap.size = B := ⟨_, rfl⟩
  obtain ⟨W4, hW4⟩ : ∃ W4, W3.alloc (.cells #[.int .i64 M, .int .i64 a, .int .i64 L] 49) = W4 := ⟨_, rfl⟩
  rw [hW4, hB] at hm
  rw [hW4] at hw
  rw [hW4, hB]
  clear hW4 hB HA
  obtain ⟨x0, x1, x2, x3, x4, x5, x6, x7, x8, x9, x10⟩ := hw.bx.cells
  go_wp2_with fail
  refine (K1.out _ hw).mono ?_
  rintro e W5 ⟨rfl, c5⟩
  replace hw := hw.later c5
  replace hm := hm.later c5
  clear c5 x0 x1 x2 x3 x4 x5 x6 x7 x8 x9 x10
  cases b1
  · obtain rfl : R = false := by rw [HF.out]; rfl
    clear HF
    go_wp2
    go_ret2
    exact ⟨rfl, hw.be⟩
  obtain ⟨x0, x1, x2, x3, x4, x5, x6, x7, x8, x9, x10⟩ := hw.bx.cells
  go_wp2_with fail
  refine (K2.out _ hw).mono ?_
  rintro e W6 ⟨rfl, c6⟩
  replace hw := hw.later c6
  replace hm := hm.later c6
  clear c6 x0 x1 x2 x3 x4 x5 x6 x7 x8 x9 x10
  cases b2
  · obtain rfl : R = false := by rw [HF.out]; simp
    clear HF
    go_wp2
    go_ret2
    exact ⟨rfl, hw.be⟩
  obtain ⟨x0, x1, x2, x3, x4, x5, x6, x7, x8, x9, x10⟩ := hw.bx.cells
  obtain ⟨m0, m1, m2⟩ := hm.cells
  go_wp2_with fail
  refine (K3.out _ hw).mono ?_
  rintro e W7 ⟨rfl, c7⟩
  replace hw := hw.later c7
  replace hm := hm.later c7
  clear c7 x0 x1 x2 x3 x4 x5 x6 x7 x8 x9 x10 m0 m1 m2
  cases b3
  · obtain rfl : R = false := by rw [HF.out]; simp
    clear HF
    go_wp2
    go_ret2
    exact ⟨rfl, hw.be⟩
  obtain rfl : R = b4 := by rw [HF.out]; simp
  clear HF
  obtain ⟨x0, x1, x2, x3, x4, x5, x6, x7, x8, x9, x10⟩ := hw.bx.cells
  obtain ⟨m0, m1, m2⟩ := hm.cells
  go_wp2_with fail
  refine (K4.out _ hw).mono ?_
  rintro e W8 ⟨rfl, c8⟩
  have hB := hw.be.trans (c8.mono hw.be.size)
  go_wp2
  go_ret2
  exact ⟨rfl, hB⟩
end Go.Proofs.YtgbbplkpepaidaaGreatDoor
namespace Go.Proofs.YtgbbplkpepaidaaGreatDoor
open Go.RowKit
set_option linter.unusedVariables false
set_option linter.unusedSimpArgs false
theorem results_cell2 {fn : Func} {p q : Tmp} {t u : TypeId} (h : fn.results = #[.cell p t, .cell q u]) (tmps : Array Value) (P : Program) (w : World) :
    (results fn tmps).run P w =
      ((asAddr (tmps.getD p undef)).run P w).andThen fun a w₁ => ((loadVar t a).run P w₁).andThen fun v w₂ => ((asAddr (tmps.getD q undef)).run P w₂).andThen fun b w₃ => ((loadVar u b).run P w₃).andThen fun v' w₄ => .ok (.tuple #[v, v']) w₄ := by
  simp only [results, h]
  simp [Sem.run_bind, Result.andThen]
/-- what Next's walk keeps: the Cron's box, the start's, the two results' -/
structure NX (w : World) (A : CAd) (x : Crn.C) (t : Int) (W : World) : Prop where
  c : CW w A x W
  t : Boxed W (w.heap.size + 1) 26 (.int .i64 t)
  r : Boxed W (w.heap.size + 1 + 1) 26 (.int .i64 0)
  e : Boxed W (w.heap.size + 1 + 1 + 1) 34 .nilIface
theorem NX.later {w W W' : World} {A : CAd} {x : Crn.C} {t : Int} (h : NX w A x t W) (b : Below W.heap.size W W') : NX w A x t W' :=
  ⟨h.c.later b, (b.block _ h.t.lt).trans h.t, (b.block _ h.r.lt).trans h.r, (b.block _ h.e.lt).trans h.e⟩
theorem NX.new {w : World} {A : CAd} {x : Crn.C} (t : Int) (hk : KT w) (hl : CL A x w) : NX w A x t ((((w.alloc (crO A x)).alloc (.cells #[.int .i64 t] 26)).alloc (.cells #[.int .i64 0] 26)).alloc (.cells #[.nilIface] 34)) := by
  have c := CW.new hk hl
  refine ⟨((c.later ((Below.refl _ _).alloc (Nat.le_refl _) _)).later ((Below.refl _ _).alloc (Nat.le_refl _) _)).later ((Below.refl _ _).alloc (Nat.le_refl _) _), ?_, ?_, ?_⟩
  · have h := ((Boxed.new (w.alloc (crO A x)) 26 (.int .i64 t)).alloc (.cells #[.int .i64 0] 26)).alloc (.cells #[.nilIface] 34)
    rw [World.size_alloc] at h
    exact h
  · have h := (Boxed.new ((w.alloc (crO A x)).alloc (.cells #[.int .i64 t] 26)) 26 (.int .i64 0)).alloc (.cells #[.nilIface] 34)
    rw [World.size_alloc, World.size_alloc] at h
    exact h
  · have h := Boxed.new (((w.alloc (crO A x)).alloc (.cells #[.int .i64 t] 26)).alloc (.cells #[.int .i64 0] 26)) 34 .nilIface
    rw [World.size_alloc, World.size_alloc, World.size_alloc] at h
    exact h
theorem NX.set {w W : World} {A : CAd} {x : Crn.C} {t : Int} (h : NX w A x t W) (u v : Value) : Below w.heap.size w ((W.setCell ⟨w.heap.size + 1 + 1, 0, none⟩ u).setCell ⟨w.heap.size + 1 + 1 + 1, 0, none⟩ v) :=
  (h.c.be.setCell (p := ⟨w.heap.size + 1 + 1, 0, none⟩) (by show w.heap.size ≤ w.heap.size + 1 + 1; omega) _).setCell (p := ⟨w.heap.size + 1 + 1 + 1, 0, none⟩) (by show w.heap.size ≤ w.heap.size + 1 + 1 + 1; omega) _
set_option maxRecDepth 100000 in
set_option maxHeartbeats 4000000 in
theorem next_no (A : CAd) (x : Crn.C) (t : Int) (w : World) (hk : KT w) (hl : CL A x w) (hok : Crn.ok x = false) :
    Calls Tryz.prog 14 #[crV A x, .int .i64 t] w fun e w' => e = .returned (.tuple #[.int .i64 0, .iface 27 (.int .i64 1)]) ∧ Below w.heap.size w w' := by
  have HW := hide (NX.new t hk hl)
  have KC := hide (fun W (hw : CW w A x W) => check_any A x W hw.kt hw.cl)
  rw [hok] at KC
  clear hk hl hok
  go_enter Tryz.func14, Tryz.ntmps14
  go_upto_region 1 with fail
  have hw := HW.out
  obtain ⟨W0, hW0⟩ : ∃ W0, ((((w.alloc (crO A x)).alloc (.cells #[.int .i64 t] 26)).alloc (.cells #[.int .i64 0] 26)).alloc (.cells #[.nilIface] 34)) = W0 := ⟨_, rfl⟩
  rw [hW0] at hw ⊢
  clear hW0 HW
  obtain ⟨x0, x1, x2, x3, x4, x5, x6, x7, x8, x9, x10⟩ := hw.c.bx.cells
  go_wp2_with fail
  refine (KC.out _ hw.c).mono ?_
  rintro e W1 ⟨rfl, b1⟩
  rw [show argV false = .iface 27 (.int .i64 1) from rfl]
  replace hw := hw.later b1
  clear x0 x1 x2 x3 x4 x5 x6 x7 x8 x9 x10 b1
  have r0 := hw.r.cell
  have r1 := hw.r.frozen
  have e0 := hw.e.cell
  have e1 := hw.e.frozen
  have hB := hw.set (.int .i64 0) (.iface 27 (.int .i64 1))
  have c0 := ((hw.r.set (.int .i64 0)).other (B' := w.heap.size + 1 + 1 + 1) (by omega) (.iface 27 (.int .i64 1))).cell
  have c1 := ((hw.e.other (B' := w.heap.size + 1 + 1) (by omega) (.int .i64 0)).set (.iface 27 (.int .i64 1))).cell
  go_wp2
  try simp only [Exit.inBlock, Exit.then]
  refine bodyPost_ret (v := .tuple #[.int .i64 0, .iface 27 (.int .i64 1)]) ?_ rfl ⟨rfl, hB⟩
  rw [results_cell2 rfl]
  go_simp
set_option maxRecDepth 100000 in
set_option maxHeartbeats 4000000 in
theorem next_out (A : CAd) (x : Crn.C) (t : Int) (w : World) (hk : KT w) (hl : CL A x w) (hok : Crn.ok x = true)
    (ks : ∀ W, Calls Tryz.prog 16 #[.int .i64 t] W fun e w' => e = .returned (.tuple #[.int .i64 0, .int .i64 0, .iface 27 (.int .i64 4)]) ∧ w' = W) :
    Calls Tryz.prog 14 #[crV A x, .int .i64 t] w fun e w' => e = .returned (.tuple #[.int .i64 0, .iface 27 (.int .i64 4)]) ∧ Below w.heap.size w w' := by
  have HW := hide (NX.new t hk hl)
  have KC := hide (fun W (hw : CW w A x W) => check_any A x W hw.kt hw.cl)
  have KS := hide ks
  rw [hok] at KC
  clear hk hl hok ks
  go_enter Tryz.func14, Tryz.ntmps14
  go_upto_region 1 with fail
  have hw := HW.out
  obtain ⟨W0, hW0⟩ : ∃ W0, ((((w.alloc (crO A x)).alloc (.cells #[.int .i64 t] 26)).alloc (.cells #[.int .i64 0] 26)).alloc (.cells #[.nilIface] 34)) = W0 := ⟨_, rfl⟩
  rw [hW0] at hw ⊢
  clear hW0 HW
  obtain ⟨x0, x1, x2, x3, x4, x5, x6, x7, x8, x9, x10⟩ := hw.c.bx.cells
  go_wp2_with fail
  refine (KC.out _ hw.c).mono ?_
  rintro e W1 ⟨rfl, b1⟩
  rw [show argV true = .nilIface from rfl]
  replace hw := hw.later b1
  clear x0 x1 x2 x3 x4 x5 x6 x7 x8 x9 x10 b1
  have t0 := hw.t.cell
  go_wp2_with fail
  refine (KS.out _).mono ?_
  rintro e W2 ⟨rfl, rfl⟩
  have r0 := hw.r.cell
  have r1 := hw.r.frozen
  have e0 := hw.e.cell
  have e1 := hw.e.frozen
  have hB := hw.set (.int .i64 0) (.iface 27 (.int .i64 4))
  have c0 := ((hw.r.set (.int .i64 0)).other (B' := w.heap.size + 1 + 1 + 1) (by omega) (.iface 27 (.int .i64 4))).cell
  have c1 := ((hw.e.other (B' := w.heap.size + 1 + 1) (by omega) (.int .i64 0)).set (.iface 27 (.int .i64 4))).cell
  go_wp2
  try simp only [Exit.inBlock, Exit.then]
  refine bodyPost_ret (v := .tuple #[.int .i64 0, .iface 27 (.int .i64 4)]) ?_ rfl ⟨rfl, hB⟩
  rw [results_cell2 rfl]
  go_simp
end Go.Proofs.YtgbbplkpepaidaaGreatDoor
