/- package cron: Check. -/
import Derived.Test.YtgbbplkpepaidaaGreatDoorMCronTimes20
import Derived.Deep.Cut
namespace Go.Proofs.YtgbbplkpepaidaaGreatDoor
open Go.RowKit
set_option linter.unusedVariables false
set_option linter.unusedSimpArgs false

set_option maxRecDepth 100000 in
set_option maxHeartbeats 8000000 in
theorem check_any (A : CAd) (x : Crn.C) (w : World) (hk : KT w) (hl : CL A x w) :
    Calls Tryz.prog 15 #[crV A x] w fun e w' => e = .returned (argV (Crn.ok x)) ∧ Below w.heap.size w w' := by
  have HW := hide (CW.new hk hl)
  have HO := hide (ok_parts x)
  generalize Crn.ok x = OK at *
  clear hk hl
  go_enter Tryz.func15, Tryz.ntmps15
  go_upto_region 1 with fail
  obtain ⟨W0, hW0⟩ : ∃ W0, (w.alloc (.cells #[.slice A.m x.mi.length A.cm, .slice A.h x.ho.length A.ch, .slice A.o x.mo.length A.co, .bool x.any, .slice A.d x.da.length A.cd, .bool x.last, .slice A.n x.near.length A.cn, .bool x.anyW, .slice A.w x.wd.length A.cw, .slice A.l x.lo.length A.cl, .slice A.t x.nth.length A.ct] 25)) = W0 := ⟨_, rfl⟩
  rw [hW0] at HW ⊢
  clear hW0
  go_cut [3] from 5 (fun s3 wc => s3 = .bool (listsB x) ∧ CW w A x wc)
  case first =>
    have HL : Hid (listsB x = (Crn.rises 0 59 x.mi && Crn.rises 0 23 x.ho && Crn.rises 1 12 x.mo && Crn.rises 1 31 x.da && Crn.rises 1 31 x.near && Crn.rises 1 7 x.wd && Crn.rises 1 7 x.lo && Crn.risesN x.nth)) := rfl
    generalize listsB x = L at *
    have hw := HW.out
    clear HW HO
    obtain ⟨x0, x1, x2, x3, x4, x5, x6, x7, x8, x9, x10⟩ := hw.bx.cells
    obtain ⟨s, z, k0, k1, k2, k3⟩ := hw.kt.mi
    go_wp2_with fail
    refine (rise_any 0 59 _ _ _ _ x.mi _ hw.cl.mi (by omega) (by omega)).mono ?_
    rintro e W1 ⟨rfl, b1⟩
    replace hw := hw.later b1
    clear b1 x0 x1 x2 x3 x4 x5 x6 x7 x8 x9 x10 k0 k1 k2 k3
    generalize Crn.rises 0 59 x.mi = r at HL ⊢
    cases r
    · obtain rfl : L = false := by have := HL.out; simpa using this
      go_wp2
      go_meet
      case rel => exact ⟨rfl, hw⟩
    obtain ⟨x0, x1, x2, x3, x4, x5, x6, x7, x8, x9, x10⟩ := hw.bx.cells
    obtain ⟨s, z, k0, k1, k2, k3⟩ := hw.kt.ho
    go_wp2_with fail
    refine (rise_any 0 23 _ _ _ _ x.ho _ hw.cl.ho (by omega) (by omega)).mono ?_
    rintro e W2 ⟨rfl, b1⟩
    replace hw := hw.later b1
    clear b1 x0 x1 x2 x3 x4 x5 x6 x7 x8 x9 x10 k0 k1 k2 k3
    generalize Crn.rises 0 23 x.ho = r at HL ⊢
    cases r
    · obtain rfl : L = false := by have := HL.out; simpa using this
      go_wp2
      go_meet
      case rel => exact ⟨rfl, hw⟩
    obtain ⟨x0, x1, x2, x3, x4, x5, x6, x7, x8, x9, x10⟩ := hw.bx.cells
    obtain ⟨s, z, k0, k1, k2, k3⟩ := hw.kt.mo
    go_wp2_with fail
    refine (rise_any 1 12 _ _ _ _ x.mo _ hw.cl.mo (by omega) (by omega)).mono ?_
    rintro e W3 ⟨rfl, b1⟩
    replace hw := hw.later b1
    clear b1 x0 x1 x2 x3 x4 x5 x6 x7 x8 x9 x10 k0 k1 k2 k3
    generalize Crn.rises 1 12 x.mo = r at HL ⊢
    cases r
    · obtain rfl : L = false := by have := HL.out; simpa using this
      go_wp2
      go_meet
      case rel => exact ⟨rfl, hw⟩
    obtain ⟨x0, x1, x2, x3, x4, x5, x6, x7, x8, x9, x10⟩ := hw.bx.cells
    obtain ⟨s, z, k0, k1, k2, k3⟩ := hw.kt.da
    go_wp2_with fail
    refine (rise_any 1 31 _ _ _ _ x.da _ hw.cl.da (by omega) (by omega)).mono ?_
    rintro e W4 ⟨rfl, b1⟩
    replace hw := hw.later b1
    clear b1 x0 x1 x2 x3 x4 x5 x6 x7 x8 x9 x10 k0 k1 k2 k3
    generalize Crn.rises 1 31 x.da = r at HL ⊢
    cases r
    · obtain rfl : L = false := by have := HL.out; simpa using this
      go_wp2
      go_meet
      case rel => exact ⟨rfl, hw⟩
    obtain ⟨x0, x1, x2, x3, x4, x5, x6, x7, x8, x9, x10⟩ := hw.bx.cells
    obtain ⟨s, z, k0, k1, k2, k3⟩ := hw.kt.da
    go_wp2_with fail
    refine (rise_any 1 31 _ _ _ _ x.near _ hw.cl.near (by omega) (by omega)).mono ?_
    rintro e W5 ⟨rfl, b1⟩
    replace hw := hw.later b1
    clear b1 x0 x1 x2 x3 x4 x5 x6 x7 x8 x9 x10 k0 k1 k2 k3
    generalize Crn.rises 1 31 x.near = r at HL ⊢
    cases r
    · obtain rfl : L = false := by have := HL.out; simpa using this
      go_wp2
      go_meet
      case rel => exact ⟨rfl, hw⟩
    obtain ⟨x0, x1, x2, x3, x4, x5, x6, x7, x8, x9, x10⟩ := hw.bx.cells
    obtain ⟨s, z, k0, k1, k2, k3⟩ := hw.kt.wd
    go_wp2_with fail
    refine (rise_any 1 7 _ _ _ _ x.wd _ hw.cl.wd (by omega) (by omega)).mono ?_
    rintro e W6 ⟨rfl, b1⟩
    replace hw := hw.later b1
    clear b1 x0 x1 x2 x3 x4 x5 x6 x7 x8 x9 x10 k0 k1 k2 k3
    generalize Crn.rises 1 7 x.wd = r at HL ⊢
    cases r
    · obtain rfl : L = false := by have := HL.out; simpa using this
      go_wp2
      go_meet
      case rel => exact ⟨rfl, hw⟩
    obtain ⟨x0, x1, x2, x3, x4, x5, x6, x7, x8, x9, x10⟩ := hw.bx.cells
    obtain ⟨s, z, k0, k1, k2, k3⟩ := hw.kt.wd
    go_wp2_with fail
    refine (rise_any 1 7 _ _ _ _ x.lo _ hw.cl.lo (by omega) (by omega)).mono ?_
    rintro e W7 ⟨rfl, b1⟩
    replace hw := hw.later b1
    clear b1 x0 x1 x2 x3 x4 x5 x6 x7 x8 x9 x10 k0 k1 k2 k3
    generalize Crn.rises 1 7 x.lo = r at HL ⊢
    cases r
    · obtain rfl : L = false := by have := HL.out; simpa using this
      go_wp2
      go_meet
      case rel => exact ⟨rfl, hw⟩
    obtain ⟨x0, x1, x2, x3, x4, x5, x6, x7, x8, x9, x10⟩ := hw.bx.cells
    go_wp2_with fail
    refine (nthRise_any _ _ x.nth _ hw.cl.nth hw.kt).mono ?_
    rintro e W9 ⟨rfl, b1⟩
    replace hw := hw.later b1
    obtain rfl : L = Crn.risesN x.nth := by have := HL.out; simpa using this
    go_wp2
    go_meet
    case rel => exact ⟨rfl, hw⟩
  case rest =>
    obtain ⟨rfl, hw⟩ := hcut
    clear HW
    go_upto_region 2 with fail
    go_cut [4] from 50 (fun s4 wc => s4 = .bool (wordsB x) ∧ CW w A x wc)
    case first =>
      generalize listsB x = LL at *
      clear HO
      obtain ⟨x0, x1, x2, x3, x4, x5, x6, x7, x8, x9, x10⟩ := hw.bx.cells
      obtain ⟨z1, z2, z3, z4, z5⟩ := hw.cl.bd
      go_wp2_with fail
      all_goals
        clear x0 x1 x2 x3 x4 x5 x6 x7 x8 x9 x10
        go_meet
        case rel =>
          refine ⟨?_, hw⟩
          first
            | exact words_1 x (by with_reducible assumption) (by with_reducible assumption) (by with_reducible assumption) (by with_reducible assumption) (by with_reducible assumption)
            | exact words_2 x (by with_reducible assumption) (by with_reducible assumption) (by with_reducible assumption) (by with_reducible assumption) (by with_reducible assumption)
            | exact words_3 x (by with_reducible assumption) (by with_reducible assumption) (by with_reducible assumption) (by with_reducible assumption) (by with_reducible assumption)
            | exact words_4 x (by with_reducible assumption) (by with_reducible assumption) (by with_reducible assumption) (by with_reducible assumption) (by with_reducible assumption)
            | exact words_5 x (by with_reducible assumption) (by with_reducible assumption) (by with_reducible assumption)
            | exact words_6 x (by with_reducible assumption) (by with_reducible assumption)
            | exact words_7 x (by with_reducible assumption)
    case rest =>
      obtain ⟨rfl, hw2⟩ := hcut
      have hO := HO.out
      generalize listsB x = L1 at *
      generalize wordsB x = L2 at *
      subst hO
      clear HO hw
      cases L1 <;> cases L2
      all_goals
        go_wp2
        go_ret
        exact ⟨rfl, hw2.be⟩
end Go.Proofs.YtgbbplkpepaidaaGreatDoor
