/- package cron: monthOf. -/
import Derived.Test.YtgbbplkpepaidaaGreatDoorMCronTimes22
namespace Go.Proofs.YtgbbplkpepaidaaGreatDoor
open Go.RowKit
set_option linter.unusedVariables false
set_option linter.unusedSimpArgs false

/-- does the n-th day of a month fit by its place? -/
def fitM (x : Crn.C) (a L n : Int) : Bool := memB x.da n || (x.last && (n == L)) || anyN (fun k => isN a L n (x.near.getD k 0)) x.near.length
/-- by its weekday? -/
def fitW (x : Crn.C) (a L n : Int) : Bool := memB x.wd (wk (a + n)) || (decide (L < n + 7) && memB x.lo (wk (a + n))) || memN x.nth ((n - 1) / 7 + 1, wk (a + n))
/-- does it fit? -/
def fitD (x : Crn.C) (a L n : Int) : Bool := if x.any then (x.anyW || fitW x a L n) else if x.anyW then fitM x a L n else (fitM x a L n || fitW x a L n)
/-- lists that are not long -/
structure OkT (x : Crn.C) : Prop where
  da : x.da.length ≤ 1000
  near : x.near.length ≤ 1000
  wd : x.wd.length ≤ 1000
  lo : x.lo.length ≤ 1000
  nth : x.nth.length ≤ 1000
  nb : ∀ k, k < x.near.length → -1000 ≤ x.near.getD k 0 ∧ x.near.getD k 0 ≤ 1000
abbrev crO (A : CAd) (x : Crn.C) : Obj := .cells #[.slice A.m x.mi.length A.cm, .slice A.h x.ho.length A.ch, .slice A.o x.mo.length A.co, .bool x.any, .slice A.d x.da.length A.cd, .bool x.last, .slice A.n x.near.length A.cn, .bool x.anyW, .slice A.w x.wd.length A.cw, .slice A.l x.lo.length A.cl, .slice A.t x.nth.length A.ct] 25
/-- a month's box and a Cron's -/
structure FW (w : World) (A : CAd) (x : Crn.C) (q a L : Int) (W : World) : Prop where
  m : MBox W w.heap.size q a L
  c : CBox W (w.heap.size + 1) A x
  be : Below w.heap.size w W
theorem FW.later {w : World} {A : CAd} {x : Crn.C} {q a L : Int} {W W' : World} (h : FW w A x q a L W) (hb : Below W.heap.size W W') : FW w A x q a L W' := ⟨h.m.later hb, h.c.later hb, h.be.trans (hb.mono h.be.size)⟩
theorem FW.new (w : World) (A : CAd) (x : Crn.C) (q a L : Int) : FW w A x q a L ((w.alloc (.cells #[.int .i64 q, .int .i64 a, .int .i64 L] 49)).alloc (crO A x)) := by
  have h1 := MBox.new w q a L
  have h2 := CBox.new (w.alloc (.cells #[.int .i64 q, .int .i64 a, .int .i64 L] 49)) A x
  rw [World.size_alloc] at h2
  exact ⟨h1.later ((Below.refl _ _).alloc (Nat.le_refl _) _), h2, ((Below.refl _ w).alloc (Nat.le_refl _) _).alloc (by simp) _⟩
set_option maxRecDepth 100000 in
set_option maxHeartbeats 4000000 in
theorem fitsByMonth_any (A : CAd) (x : Crn.C) (q a L n : Int) (w : World) (hl : CL A x w) (ho : OkT x) (a1 : -5000000 ≤ a) (a2 : a ≤ 5000000) :
    Calls Tryz.prog 38 #[monV q a L, crV A x, .int .i64 n] w fun e w' => e = .returned (.bool (fitM x a L n)) ∧ Below w.heap.size w w' := by
  have HL := hide hl
  have K1 := hide (fun W (hb : Below w.heap.size w W) => contains_any A.d A.cd x.da n W (hl.later hb).da ho.da)
  have K2 := hide (fun Bm Bn W (hb : Below w.heap.size w W) (hc : CloW Bm Bn q a L n W) => containsF_any Bm Bn q a L n A.n A.cn x.near W (hl.later hb).near ho.near ho.nb hc a1 a2)
  have HF : Hid (fitM x a L n = (memB x.da n || (x.last && (n == L)) || anyN (fun k => isN a L n (x.near.getD k 0)) x.near.length)) := rfl
  generalize fitM x a L n = R at *
  generalize memB x.da n = b1 at *
  generalize anyN (fun k => isN a L n (x.near.getD k 0)) x.near.length = b2 at *
  have HX := hide (And.intro ((FW.new w A x q a L).later ((Below.refl _ _).alloc (Nat.le_refl _) (.cells #[.int .i64 n] 3))) (Boxed.new ((w.alloc (.cells #[.int .i64 q, .int .i64 a, .int .i64 L] 49)).alloc (crO A x)) 3 (.int .i64 n)))
  clear hl ho
  go_enter Tryz.func38, Tryz.ntmps38
  go_upto_region 2 with fail
  obtain ⟨hw, hn⟩ := HX.out
  simp only [World.size_alloc] at hn
  obtain ⟨W0, hW0⟩ : ∃ W0, (((w.alloc (.cells #[.int .i64 q, .int .i64 a, .int .i64 L] 49)).alloc (crO A x)).alloc (.cells #[.int .i64 n] 3)) = W0 := ⟨_, rfl⟩
  rw [hW0] at hw hn ⊢
  clear hW0 HX
  obtain ⟨x0, x1, x2, x3, x4, x5, x6, x7, x8, x9, x10⟩ := hw.c.cells
  have d0 := hn.cell
  go_wp2_with fail
  refine (K1.out _ hw.be).mono ?_
  rintro e W1 ⟨rfl, b⟩
  replace hn : Boxed W1 (w.heap.size + 1 + 1) 3 (.int .i64 n) := (b.block _ hn.lt).trans hn
  replace hw := hw.later b
  clear b x0 x1 x2 x3 x4 x5 x6 x7 x8 x9 x10 d0
  obtain ⟨x0, x1, x2, x3, x4, x5, x6, x7, x8, x9, x10⟩ := hw.c.cells
  obtain ⟨m0, m1, m2⟩ := hw.m.cells
  have d0 := hn.cell
  have hcl : CloW w.heap.size (w.heap.size + 1 + 1) q a L n W1 := ⟨hw.m, hn⟩
  cases b1
  · cases hlast : x.last
    · rw [hlast] at HF x5
      obtain rfl : R = b2 := by rw [HF.out]; simp
      clear hlast HF
      go_wp2_with fail
      refine (K2.out _ _ _ hw.be hcl).mono ?_
      rintro e W2 ⟨rfl, b⟩
      have hB := hw.be.trans (b.mono hw.be.size)
      go_wp2
      go_ret
      exact ⟨rfl, hB⟩
    · rw [hlast] at HF x5
      clear hlast
      by_cases hL : n = L
      · obtain rfl : R = true := by rw [HF.out, hL]; simp
        subst hL
        clear HF
        go_wp2
        go_ret
        exact ⟨rfl, hw.be⟩
      · have hq : (n == L) = false := by simpa using hL
        obtain rfl : R = b2 := by rw [HF.out, hq]; simp
        have HQ := hide hq
        clear HF hq
        go_wp2_with fail
        refine (K2.out _ _ _ hw.be hcl).mono ?_
        rintro e W2 ⟨rfl, b⟩
        have hB := hw.be.trans (b.mono hw.be.size)
        go_wp2
        go_ret
        exact ⟨ret_bool (by rw [HQ.out]; rfl), hB⟩
  · obtain rfl : R = true := by rw [HF.out]; simp
    clear HF
    go_wp2
    go_ret
    exact ⟨rfl, hw.be⟩
set_option maxRecDepth 100000 in
set_option maxHeartbeats 4000000 in
theorem fitsByWeek_any (A : CAd) (x : Crn.C) (q a L n : Int) (w : World) (hl : CL A x w) (ho : OkT x) (a1 : -5000000 ≤ a) (a2 : a ≤ 5000000) (n1 : 1 ≤ n) (n2 : n ≤ 1000) :
    Calls Tryz.prog 37 #[monV q a L, crV A x, .int .i64 n] w fun e w' => e = .returned (.bool (fitW x a L n)) ∧ Below w.heap.size w w' := by
  have K0 := hide (fun W => mweekday_any q a L n W a1 a2 (by omega) n2)
  have K1 := hide (fun W (hb : Below w.heap.size w W) => contains_any A.w A.cw x.wd (wk (a + n)) W (hl.later hb).wd ho.wd)
  have K2 := hide (fun W (hb : Below w.heap.size w W) => contains_any A.l A.cl x.lo (wk (a + n)) W (hl.later hb).lo ho.lo)
  have K3 := hide (fun W (hb : Below w.heap.size w W) => containsN_any A.t A.ct x.nth ((n - 1) / 7 + 1, wk (a + n)) W (hl.later hb).nth ho.nth)
  have HF : Hid (fitW x a L n = (memB x.wd (wk (a + n)) || (decide (L < n + 7) && memB x.lo (wk (a + n))) || memN x.nth ((n - 1) / 7 + 1, wk (a + n)))) := rfl
  have hq : (n - 1).tdiv 7 = (n - 1) / 7 := Int.tdiv_eq_ediv_of_nonneg (by omega)
  have hz1 : 0 ≤ (n - 1) / 7 := by omega
  have hz2 : (n - 1) / 7 ≤ 1000 := by omega
  generalize fitW x a L n = R at *
  generalize memN x.nth ((n - 1) / 7 + 1, wk (a + n)) = b3 at *
  generalize (n - 1) / 7 = z at *
  generalize memB x.wd (wk (a + n)) = b1 at *
  generalize memB x.lo (wk (a + n)) = b2 at *
  generalize wk (a + n) = v at *
  dsimp only at K3
  have HX := hide (FW.new w A x q a L)
  clear hl ho
  go_enter Tryz.func37, Tryz.ntmps37
  go_upto_region 1 with fail
  have hw := HX.out
  obtain ⟨W0, hW0⟩ : ∃ W0, ((w.alloc (.cells #[.int .i64 q, .int .i64 a, .int .i64 L] 49)).alloc (crO A x)) = W0 := ⟨_, rfl⟩
  rw [hW0] at hw ⊢
  clear hW0 HX
  obtain ⟨m0, m1, m2⟩ := hw.m.cells
  go_wp2_with fail
  refine (K0.out _).mono ?_
  rintro e W1 ⟨rfl, b⟩
  replace hw := hw.later b
  clear b m0 m1 m2
  have HN := hide (And.intro (NBox.new W1 (z + 1, v)) (hw.later ((Below.refl _ W1).alloc (Nat.le_refl _) (.cells #[.int .i64 (z + 1), .int .i64 v] 55))))
  obtain ⟨m0, m1, m2⟩ := hw.m.cells
  have hmw : w.heap.size < W1.heap.size := hw.m.lt
  clear hw
  by_cases hL : L < n + 7
  · have hLd : decide (L < n + 7) = true := decide_eq_true hL
    rw [hLd] at HF
    clear hLd
    go_upto_region 4 with fail
    obtain ⟨hn, hw⟩ := HN.out
    obtain ⟨W2, hW2⟩ : ∃ W2, W1.alloc (.cells #[.int .i64 (z + 1), .int .i64 v] 55) = W2 := ⟨_, rfl⟩
    rw [hW2] at hn hw ⊢
    clear hW2 HN m0 m1 m2
    obtain ⟨x0, x1, x2, x3, x4, x5, x6, x7, x8, x9, x10⟩ := hw.c.cells
    go_wp2_with fail
    refine (K1.out _ hw.be).mono ?_
    rintro e W3 ⟨rfl, b⟩
    replace hn := hn.later b
    replace hw := hw.later b
    clear b x0 x1 x2 x3 x4 x5 x6 x7 x8 x9 x10
    obtain ⟨x0, x1, x2, x3, x4, x5, x6, x7, x8, x9, x10⟩ := hw.c.cells
    obtain ⟨y0, y1⟩ := hn.cells
    dsimp only at y0 y1
    cases b1
    · go_wp2_with fail
      refine (K2.out _ hw.be).mono ?_
      rintro e W4 ⟨rfl, b⟩
      replace hn := hn.later b
      replace hw := hw.later b
      clear b x0 x1 x2 x3 x4 x5 x6 x7 x8 x9 x10 y0 y1
      cases b2
      · obtain rfl : R = b3 := by rw [HF.out]; simp
        clear HF
        obtain ⟨x0, x1, x2, x3, x4, x5, x6, x7, x8, x9, x10⟩ := hw.c.cells
        obtain ⟨y0, y1⟩ := hn.cells
        dsimp only at y0 y1
        go_wp2_with fail
        refine (K3.out _ hw.be).mono ?_
        rintro e W5 ⟨rfl, b⟩
        have hB := hw.be.trans (b.mono hw.be.size)
        go_wp2
        go_ret
        exact ⟨rfl, hB⟩
      · obtain rfl : R = true := by rw [HF.out]; simp
        clear HF
        go_wp2
        go_ret
        exact ⟨rfl, hw.be⟩
    · obtain rfl : R = true := by rw [HF.out]; simp
      clear HF
      go_wp2
      go_ret
      exact ⟨rfl, hw.be⟩
  · have hLd : decide (L < n + 7) = false := decide_eq_false hL
    rw [hLd] at HF
    clear hLd
    go_upto_region 4 with fail
    obtain ⟨hn, hw⟩ := HN.out
    obtain ⟨W2, hW2⟩ : ∃ W2, W1.alloc (.cells #[.int .i64 (z + 1), .int .i64 v] 55) = W2 := ⟨_, rfl⟩
    rw [hW2] at hn hw ⊢
    clear hW2 HN m0 m1 m2
    obtain ⟨x0, x1, x2, x3, x4, x5, x6, x7, x8, x9, x10⟩ := hw.c.cells
    go_wp2_with fail
    refine (K1.out _ hw.be).mono ?_
    rintro e W3 ⟨rfl, b⟩
    replace hn := hn.later b
    replace hw := hw.later b
    clear b x0 x1 x2 x3 x4 x5 x6 x7 x8 x9 x10
    obtain ⟨x0, x1, x2, x3, x4, x5, x6, x7, x8, x9, x10⟩ := hw.c.cells
    obtain ⟨y0, y1⟩ := hn.cells
    dsimp only at y0 y1
    cases b1
    · obtain rfl : R = b3 := by rw [HF.out]; simp
      clear HF x0 x1 x2 x3 x4 x5 x6 x7 x8 x9 x10 y0 y1
      obtain ⟨x0, x1, x2, x3, x4, x5, x6, x7, x8, x9, x10⟩ := hw.c.cells
      obtain ⟨y0, y1⟩ := hn.cells
      dsimp only at y0 y1
      go_wp2_with fail
      refine (K3.out _ hw.be).mono ?_
      rintro e W5 ⟨rfl, b⟩
      have hB := hw.be.trans (b.mono hw.be.size)
      go_wp2
      go_ret
      exact ⟨rfl, hB⟩
    · obtain rfl : R = true := by rw [HF.out]; simp
      clear HF
      go_wp2
      go_ret
      exact ⟨rfl, hw.be⟩
end Go.Proofs.YtgbbplkpepaidaaGreatDoor
namespace Go.Proofs.YtgbbplkpepaidaaGreatDoor
open Go.RowKit
set_option linter.unusedVariables false
set_option linter.unusedSimpArgs false

set_option maxRecDepth 100000 in
set_option maxHeartbeats 8000000 in
theorem fits_any (A : CAd) (x : Crn.C) (q a L n : Int) (w : World) (hl : CL A x w) (ho : OkT x) (a1 : -5000000 ≤ a) (a2 : a ≤ 5000000) (n1 : 1 ≤ n) (n2 : n ≤ 1000) :
    Calls Tryz.prog 19 #[monV q a L, crV A x, .int .i64 n] w fun e w' => e = .returned (.bool (fitD x a L n)) ∧ Below w.heap.size w w' := by
  have K1 := hide (fun W (hb : Below w.heap.size w W) => fitsByMonth_any A x q a L n W (hl.later hb) ho a1 a2)
  have K2 := hide (fun W (hb : Below w.heap.size w W) => fitsByWeek_any A x q a L n W (hl.later hb) ho a1 a2 n1 n2)
  have HF : Hid (fitD x a L n = if x.any then (x.anyW || fitW x a L n) else if x.anyW then fitM x a L n else (fitM x a L n || fitW x a L n)) := rfl
  generalize fitD x a L n = R at *
  generalize fitW x a L n = b2 at *
  generalize fitM x a L n = b1 at *
  have HX := hide (FW.new w A x q a L)
  clear hl ho
  go_enter Tryz.func19, Tryz.ntmps19
  go_upto_region 1 with fail
  have hw := HX.out
  obtain ⟨W0, hW0⟩ : ∃ W0, ((w.alloc (.cells #[.int .i64 q, .int .i64 a, .int .i64 L] 49)).alloc (crO A x)) = W0 := ⟨_, rfl⟩
  rw [hW0] at hw ⊢
  clear hW0 HX
  obtain ⟨m0, m1, m2⟩ := hw.m.cells
  obtain ⟨x0, x1, x2, x3, x4, x5, x6, x7, x8, x9, x10⟩ := hw.c.cells
  cases hany : x.any
  · cases hw2 : x.anyW
    · unfold crV at K1 K2
      rw [hany, hw2] at K1 K2
      rw [hany] at x3
      rw [hw2] at x7
      have hR : R = (b1 || b2) := by rw [HF.out, hany, hw2]; rfl
      have HR := hide hR
      have HA := hide hany
      have HW2 := hide hw2
      clear hany hw2 HF hR
      go_wp2_with fail
      refine (K1.out _ hw.be).mono ?_
      rintro e W1 ⟨rfl, b⟩
      replace hw := hw.later b
      clear b m0 m1 m2 x0 x1 x2 x3 x4 x5 x6 x7 x8 x9 x10
      obtain ⟨m0, m1, m2⟩ := hw.m.cells
      obtain ⟨x0, x1, x2, x3, x4, x5, x6, x7, x8, x9, x10⟩ := hw.c.cells
      rw [HA.out] at x3
      rw [HW2.out] at x7
      cases b1
      · obtain rfl : R = b2 := by rw [HR.out]; rfl
        clear HR
        go_wp2_with fail
        refine (K2.out _ hw.be).mono ?_
        rintro e W2 ⟨rfl, b⟩
        have hB := hw.be.trans (b.mono hw.be.size)
        go_wp2
        go_ret
        exact ⟨rfl, hB⟩
      · obtain rfl : R = true := by rw [HR.out]; rfl
        clear HR
        go_wp2
        go_ret
        exact ⟨rfl, hw.be⟩
    · unfold crV at K1 K2
      rw [hany, hw2] at K1 K2
      rw [hany] at x3
      rw [hw2] at x7
      obtain rfl : R = b1 := by rw [HF.out, hany, hw2]; rfl
      clear hany hw2 HF
      go_wp2_with fail
      refine (K1.out _ hw.be).mono ?_
      rintro e W1 ⟨rfl, b⟩
      have hB := hw.be.trans (b.mono hw.be.size)
      go_wp2
      go_ret
      exact ⟨rfl, hB⟩
  · cases hw2 : x.anyW
    · unfold crV at K1 K2
      rw [hany, hw2] at K1 K2
      rw [hany] at x3
      rw [hw2] at x7
      obtain rfl : R = b2 := by rw [HF.out, hany, hw2]; rfl
      clear hany hw2 HF
      go_wp2_with fail
      refine (K2.out _ hw.be).mono ?_
      rintro e W1 ⟨rfl, b⟩
      have hB := hw.be.trans (b.mono hw.be.size)
      go_wp2
      go_ret
      exact ⟨rfl, hB⟩
    · unfold crV at K1 K2
      rw [hany, hw2] at K1 K2
      rw [hany] at x3
      rw [hw2] at x7
      obtain rfl : R = true := by rw [HF.out, hany, hw2]; rfl
      clear hany hw2 HF
      go_wp2
      go_ret
      exact ⟨rfl, hw.be⟩
end Go.Proofs.YtgbbplkpepaidaaGreatDoor
namespace Go.Proofs.YtgbbplkpepaidaaGreatDoor
open Go.RowKit
set_option linter.unusedVariables false
set_option linter.unusedSimpArgs false

theorem MBox.frozens {W : World} {B : Nat} {q a L : Int} (h : MBox W B q a L) : W.frozen? ⟨B, 0, none⟩ = false ∧ W.frozen? ⟨B, 1, none⟩ = false ∧ W.frozen? ⟨B, 2, none⟩ = false := by
  refine ⟨?_, ?_, ?_⟩ <;> simp [World.frozen?, show W.heap[B]? = _ from h]
/-- a date's box -/
def DBox (W : World) (B : Nat) (c y m d : Int) : Prop := W.heap[B]? = some (.cells #[.int .i64 c, .int .i64 y, .int .i64 m, .int .i64 d] 60 (0, 0))
theorem DBox.new (W : World) (c y m d : Int) : DBox (W.alloc (.cells #[.int .i64 c, .int .i64 y, .int .i64 m, .int .i64 d] 60)) W.heap.size c y m d := World.alloc_heap_new W _
theorem DBox.lt {W : World} {B : Nat} {c y m d : Int} (h : DBox W B c y m d) : B < W.heap.size := (Array.getElem?_eq_some_iff.1 h).1
theorem DBox.cells {W : World} {B : Nat} {c y m d : Int} (h : DBox W B c y m d) : W.cell? ⟨B, 0, none⟩ = some (.int .i64 c) ∧ W.cell? ⟨B, 1, none⟩ = some (.int .i64 y) ∧ W.cell? ⟨B, 2, none⟩ = some (.int .i64 m) ∧ W.cell? ⟨B, 3, none⟩ = some (.int .i64 d) :=
  ⟨cell_of_row _ _ _ _ _ (0, 0) h, cell_of_row _ _ _ _ _ (0, 0) h, cell_of_row _ _ _ _ _ (0, 0) h, cell_of_row _ _ _ _ _ (0, 0) h⟩
theorem DBox.later {W W' : World} {B : Nat} {c y m d : Int} (h : DBox W B c y m d) (hb : Below W.heap.size W W') : DBox W' B c y m d := (hb.block B h.lt).trans h
set_option maxRecDepth 100000 in
set_option maxHeartbeats 4000000 in
theorem monthOfM_any (day Y M D L : Int) (w : World) (d1 : -4000000 ≤ day) (d2 : day ≤ 4000000) (D1 : 1 ≤ D) (D2 : D ≤ 31)
    (ko : ∀ W, Calls Tryz.prog 34 #[.int .i64 1, .int .i64 day] W fun e w' => e = .returned (.tuple #[.agg #[.int .i64 1, .int .i64 Y, .int .i64 M, .int .i64 D], .nilIface]) ∧ Below W.heap.size W w')
    (kl : ∀ W, Calls Tryz.prog 35 #[.int .i64 1, .int .i64 Y, .int .i64 M] W fun e w' => e = .returned (.tuple #[.int .i64 L, .nilIface]) ∧ Below W.heap.size W w') :
    Calls Tryz.prog 17 #[.int .i64 day] w fun e w' => e = .returned (monV M (day - D) L) ∧ Below w.heap.size w w' := by
  have KO := hide ko
  have KL := hide kl
  have HX := hide (And.intro (MBox.new w 0 0 0) ((Below.refl w.heap.size w).alloc (Nat.le_refl _) (.cells #[.int .i64 0, .int .i64 0, .int .i64 0] 49)))
  clear ko kl
  go_enter Tryz.func17, Tryz.ntmps17
  go_wp2_with fail
  refine (KO.out _).mono ?_
  rintro e W1 ⟨rfl, b1⟩
  have hm := HX.out.1.later b1
  have hB := HX.out.2.trans (b1.mono (by simp))
  have hd := DBox.new W1 1 Y M D
  have hm2 := hm.later ((Below.refl _ W1).alloc (Nat.le_refl _) (.cells #[.int .i64 1, .int .i64 Y, .int .i64 M, .int .i64 D] 60))
  have hB2 := hB.alloc hB.size (.cells #[.int .i64 1, .int .i64 Y, .int .i64 M, .int .i64 D] 60)
  have HD := hide (And.intro hd (And.intro hm2 hB2))
  clear hm hB hd hm2 hB2 b1 HX
  go_upto_region 2 with fail
  obtain ⟨hd, hm, hB⟩ := HD.out
  obtain ⟨W2, hW2⟩ : ∃ W2, W1.alloc (.cells #[.int .i64 1, .int .i64 Y, .int .i64 M, .int .i64 D] 60) = W2 := ⟨_, rfl⟩
  rw [hW2] at hd hm hB ⊢
  clear hW2 HD
  obtain ⟨e0, e1, e2, e3⟩ := hd.cells
  go_wp2_with fail
  refine (KL.out _).mono ?_
  rintro e W3 ⟨rfl, b3⟩
  replace hd := hd.later b3
  replace hm := hm.later b3
  replace hB := hB.trans (b3.mono hB.size)
  clear b3 e0 e1 e2 e3
  obtain ⟨e0, e1, e2, e3⟩ := hd.cells
  obtain ⟨z0, z1, z2⟩ := hm.cells
  obtain ⟨f0, f1, f2⟩ := hm.frozens
  have hs : w.heap.size < W3.heap.size := hm.lt
  go_wp2
  refine bodyPost_ret (v := monV M (day - D) L) (by simp [results, Tryz.results17, go_sem, z0, z1, z2, hs]) rfl ⟨rfl, ?_⟩
  exact ((hB.setCell (Nat.le_refl _) _).setCell (Nat.le_refl _) _).setCell (Nat.le_refl _) _
end Go.Proofs.YtgbbplkpepaidaaGreatDoor
