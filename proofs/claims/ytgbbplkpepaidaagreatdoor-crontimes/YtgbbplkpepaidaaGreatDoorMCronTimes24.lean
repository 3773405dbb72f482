/- The reference of package cron: CronCheck. -/
import Derived.Test.YtgbbplkpepaidaaGreatDoorMCronTimes20
import Derived.Deep.Cut
import Derived.Deep.CutRange
namespace Go.Proofs.YtgbbplkpepaidaaGreatDoor
open Go.RowKit
set_option linter.unusedVariables false
set_option linter.unusedSimpArgs false

/-- three tests, the last one known -/
def or3 (a b : Nat) (z : Bool) : Bool := decide (0 < a) || (decide (0 < b) || z)
theorem or3_1 (a b : Nat) (z : Bool) (h : 0 < a) : Value.bool true = Value.bool (or3 a b z) := by unfold or3; rw [decide_eq_true h]; rfl
theorem or3_2 (a b : Nat) (z : Bool) (h : ¬ 0 < a) (h1 : 0 < b) : Value.bool true = Value.bool (or3 a b z) := by unfold or3; rw [decide_eq_true h1, decide_eq_false h]; rfl
theorem or3_3 (a b : Nat) (z : Bool) (h : ¬ 0 < a) (h1 : ¬ 0 < b) : Value.bool z = Value.bool (or3 a b z) := by unfold or3; rw [decide_eq_false h, decide_eq_false h1]; cases z <;> rfl
def rwords (x : Crn.C) (d v : Bool) : Bool := decide (0 < x.mi.length) && (decide (0 < x.ho.length) && (decide (0 < x.mo.length) && ((x.any != d) && (x.anyW != v))))
theorem rw_1 (x : Crn.C) (d v : Bool) (h : 0 < x.mi.length) (h1 : 0 < x.ho.length) (h2 : 0 < x.mo.length) (h3 : ¬ x.any = d) : Value.bool ((!(x.any == d)) && !(x.anyW == v)) = Value.bool (rwords x d v) := by
  unfold rwords; rw [decide_eq_true h, decide_eq_true h1, decide_eq_true h2]; rfl
theorem rw_2 (x : Crn.C) (d v : Bool) (h : 0 < x.mi.length) (h1 : 0 < x.ho.length) (h2 : 0 < x.mo.length) (h3 : x.any = d) : Value.bool false = Value.bool (rwords x d v) := by
  unfold rwords; rw [decide_eq_true h, decide_eq_true h1, decide_eq_true h2, show (x.any != d) = false by simpa using h3]; rfl
theorem rw_3 (x : Crn.C) (d v : Bool) (h : 0 < x.mi.length) (h1 : 0 < x.ho.length) (h2 : ¬ 0 < x.mo.length) : Value.bool false = Value.bool (rwords x d v) := by
  unfold rwords; rw [decide_eq_true h, decide_eq_true h1, decide_eq_false h2]; rfl
theorem rw_4 (x : Crn.C) (d v : Bool) (h : 0 < x.mi.length) (h1 : ¬ 0 < x.ho.length) : Value.bool false = Value.bool (rwords x d v) := by
  unfold rwords; rw [decide_eq_true h, decide_eq_false h1]; rfl
theorem rw_5 (x : Crn.C) (d v : Bool) (h : ¬ 0 < x.mi.length) : Value.bool false = Value.bool (rwords x d v) := by
  unfold rwords; rw [decide_eq_false h]; rfl
theorem rwords_eq (x : Crn.C) : rwords x (or3 x.da.length x.near.length x.last) (or3 x.wd.length x.lo.length (decide (0 < x.nth.length))) = wordsB x := by
  unfold rwords or3 wordsB
  have e : ∀ n : Nat, decide (n = 0) = !decide (0 < n) := fun n => by
    by_cases h : 0 < n
    · rw [decide_eq_true h, decide_eq_false (by omega)]; rfl
    · rw [decide_eq_false h, decide_eq_true (by omega)]; rfl
  simp only [e]
  generalize decide (0 < x.mi.length) = b1
  generalize decide (0 < x.ho.length) = b2
  generalize decide (0 < x.mo.length) = b3
  generalize decide (0 < x.da.length) = b4
  generalize decide (0 < x.near.length) = b5
  generalize decide (0 < x.wd.length) = b6
  generalize decide (0 < x.lo.length) = b7
  generalize decide (0 < x.nth.length) = b8
  generalize x.any = b9
  generalize x.anyW = b10
  generalize x.last = b11
  cases b1 <;> try rfl
  cases b2 <;> try rfl
  cases b3 <;> try rfl
  have h1 : (b9 != (b4 || (b5 || b11))) = (b9 == (!b4 && !b5 && !b11)) := by revert b9 b4 b5 b11; decide
  have h2 : (b10 != (b6 || (b7 || b8))) = (b10 == (!b6 && !b7 && !b8)) := by revert b10 b6 b7 b8; decide
  rw [h1, h2]; simp
def rlists (x : Crn.C) : Bool := Crn.rises 0 59 x.mi && Crn.rises 0 23 x.ho && Crn.rises 1 12 x.mo && Crn.rises 1 31 x.da && Crn.rises 1 31 x.near && Crn.rises 1 7 x.wd && Crn.rises 1 7 x.lo
theorem rok_eq (x : Crn.C) : (wordsB x && rlists x && Crn.risesN x.nth) = Crn.ok x := by
  rw [ok_parts]
  unfold listsB
  show (wordsB x && rlists x && Crn.risesN x.nth) = ((rlists x && Crn.risesN x.nth) && wordsB x)
  rw [Bool.and_assoc, Bool.and_comm]
theorem allB_short {b : Nat → Bool} {k n : Nat} (h : Crn.allB b k = false) (hk : k < n) : Crn.allB b n = false := by
  cases hn : Crn.allB b n with
  | false => rfl
  | true => rw [Crn.allB_true (fun j hj => Crn.allB_yes hn j (by omega))] at h; cases h
theorem CW.drn {w : World} {A : CAd} {x : Crn.C} {W : World} (h : CW w A x W) (n : Nat) : CW w A x (W.drewN n) := h.later ⟨rfl, rfl, rfl, Nat.le_refl _, fun _ _ => rfl⟩
set_option maxRecDepth 100000 in
set_option maxHeartbeats 8000000 in
theorem rcheck_any (A : CAd) (x : Crn.C) (w : World) (hk : KT w) (hl : CL A x w) :
    Calls Tryz.prog 10 #[crV A x] w fun e w' => e = .returned (.int .i64 (argN (Crn.ok x))) ∧ Below w.heap.size w w' := by
  have HW := hide (CW.new hk hl)
  have HO := hide (rok_eq x)
  generalize Crn.ok x = OK at *
  clear hk hl
  go_enter Tryz.func10, Tryz.ntmps10
  go_upto_region 1 with fail
  obtain ⟨W0, hW0⟩ : ∃ W0, (w.alloc (.cells #[.slice A.m x.mi.length A.cm, .slice A.h x.ho.length A.ch, .slice A.o x.mo.length A.co, .bool x.any, .slice A.d x.da.length A.cd, .bool x.last, .slice A.n x.near.length A.cn, .bool x.anyW, .slice A.w x.wd.length A.cw, .slice A.l x.lo.length A.cl, .slice A.t x.nth.length A.ct] 25)) = W0 := ⟨_, rfl⟩
  rw [hW0] at HW ⊢
  clear hW0
  have hw := HW.out
  clear HW
  go_cut [3] from 8 (fun s3 wc => s3 = .bool (or3 x.da.length x.near.length x.last) ∧ CW w A x wc)
  case first =>
    obtain ⟨x0, x1, x2, x3, x4, x5, x6, x7, x8, x9, x10⟩ := hw.bx.cells
    rcases Nat.eq_zero_or_pos x.da.length with ea | ea
    · have HA := hide (show ¬ 0 < x.da.length by omega)
      rw [ea] at x4
      clear ea
      rcases Nat.eq_zero_or_pos x.near.length with eb | eb
      · have HB := hide (show ¬ 0 < x.near.length by omega)
        rw [eb] at x6
        clear eb
        go_wp2
        go_meet
        case rel => exact ⟨or3_3 _ _ _ HA.out HB.out, hw⟩
      · have HB := hide eb
        go_wp2
        go_meet
        case rel => exact ⟨or3_2 _ _ _ HA.out HB.out, hw⟩
    · have HA := hide ea
      go_wp2
      go_meet
      case rel => exact ⟨or3_1 _ _ _ HA.out, hw⟩
  case rest =>
    clear hw
    obtain ⟨rfl, hw⟩ := hcut
    have HE := hide (rwords_eq x)
    generalize or3 x.da.length x.near.length x.last = D at *
    go_upto_region 2 with fail
    go_cut [4] from 22 (fun s4 wc => s4 = .bool (or3 x.wd.length x.lo.length (decide (0 < x.nth.length))) ∧ CW w A x wc)
    case first =>
      obtain ⟨x0, x1, x2, x3, x4, x5, x6, x7, x8, x9, x10⟩ := hw.bx.cells
      rcases Nat.eq_zero_or_pos x.wd.length with ea | ea
      · have HA := hide (show ¬ 0 < x.wd.length by omega)
        rw [ea] at x8
        clear ea
        rcases Nat.eq_zero_or_pos x.lo.length with eb | eb
        · have HB := hide (show ¬ 0 < x.lo.length by omega)
          rw [eb] at x9
          clear eb
          rcases Nat.eq_zero_or_pos x.nth.length with ec | ec
          · have HC := hide (show decide (0 < x.nth.length) = false from decide_eq_false (by omega))
            rw [ec] at x10
            clear ec
            go_wp2
            go_meet
            case rel => exact ⟨by rw [HC.out]; exact or3_3 _ _ _ HA.out HB.out, hw⟩
          · have HC := hide (show decide (0 < x.nth.length) = true from decide_eq_true ec)
            go_wp2
            go_meet
            case rel => exact ⟨by rw [HC.out]; exact or3_3 _ _ _ HA.out HB.out, hw⟩
        · have HB := hide eb
          go_wp2
          go_meet
          case rel => exact ⟨or3_2 _ _ _ HA.out HB.out, hw⟩
      · have HA := hide ea
        go_wp2
        go_meet
        case rel => exact ⟨or3_1 _ _ _ HA.out, hw⟩
    case rest =>
      clear hw
      obtain ⟨rfl, hw⟩ := hcut
      generalize or3 x.wd.length x.lo.length (decide (0 < x.nth.length)) = V at *
      go_upto_region 3 with fail
      go_cut [5] from 38 (fun s5 wc => s5 = .bool (rwords x D V) ∧ CW w A x wc)
      case first =>
        obtain ⟨x0, x1, x2, x3, x4, x5, x6, x7, x8, x9, x10⟩ := hw.bx.cells
        go_wp2_with fail
        all_goals
          clear x0 x1 x2 x3 x4 x5 x6 x7 x8 x9 x10
          go_meet
          case rel =>
            refine ⟨?_, hw⟩
            first | exact rw_1 _ _ _ (by with_reducible assumption) (by with_reducible assumption) (by with_reducible assumption) (by with_reducible assumption) | exact rw_2 _ _ _ (by with_reducible assumption) (by with_reducible assumption) (by with_reducible assumption) (by with_reducible assumption) | exact rw_3 _ _ _ (by with_reducible assumption) (by with_reducible assumption) (by with_reducible assumption) | exact rw_4 _ _ _ (by with_reducible assumption) (by with_reducible assumption) | exact rw_5 _ _ _ (by with_reducible assumption)
      case rest =>
        clear hw
        obtain ⟨rfl, hw⟩ := hcut
        generalize rwords x D V = O1 at *
        rw [← HE.out] at HO
        clear HE
        go_upto_region 4 with fail
        go_cut [5] from 66 (fun s5 wc => s5 = .bool (O1 && rlists x) ∧ CW w A x wc)
        case first =>
          clear HO
          have HL : Hid (rlists x = (Crn.rises 0 59 x.mi && Crn.rises 0 23 x.ho && Crn.rises 1 12 x.mo && Crn.rises 1 31 x.da && Crn.rises 1 31 x.near && Crn.rises 1 7 x.wd && Crn.rises 1 7 x.lo)) := rfl
          generalize rlists x = L at *
          cases O1
          · go_wp2
            go_meet
            case rel => exact ⟨rfl, hw⟩
          obtain ⟨x0, x1, x2, x3, x4, x5, x6, x7, x8, x9, x10⟩ := hw.bx.cells
          go_wp2_with fail
          refine (rrising_any 0 59 _ _ x.mi _ hw.cl.mi (by omega) (by omega)).mono ?_
          rintro e W1 ⟨rfl, b1⟩
          replace hw := hw.later b1
          clear b1
          clear x0 x1 x2 x3 x4 x5 x6 x7 x8 x9 x10
          generalize Crn.rises 0 59 x.mi = r at HL ⊢
          cases r
          · obtain rfl : L = false := by have := HL.out; simpa using this
            go_wp2
            go_meet
            case rel => exact ⟨rfl, hw⟩
          obtain ⟨x0, x1, x2, x3, x4, x5, x6, x7, x8, x9, x10⟩ := hw.bx.cells
          go_wp2_with fail
          refine (rrising_any 0 23 _ _ x.ho _ hw.cl.ho (by omega) (by omega)).mono ?_
          rintro e W2 ⟨rfl, b1⟩
          replace hw := hw.later b1
          clear b1
          clear x0 x1 x2 x3 x4 x5 x6 x7 x8 x9 x10
          generalize Crn.rises 0 23 x.ho = r at HL ⊢
          cases r
          · obtain rfl : L = false := by have := HL.out; simpa using this
            go_wp2
            go_meet
            case rel => exact ⟨rfl, hw⟩
          obtain ⟨x0, x1, x2, x3, x4, x5, x6, x7, x8, x9, x10⟩ := hw.bx.cells
          go_wp2_with fail
          refine (rrising_any 1 12 _ _ x.mo _ hw.cl.mo (by omega) (by omega)).mono ?_
          rintro e W3 ⟨rfl, b1⟩
          replace hw := hw.later b1
          clear b1
          clear x0 x1 x2 x3 x4 x5 x6 x7 x8 x9 x10
          generalize Crn.rises 1 12 x.mo = r at HL ⊢
          cases r
          · obtain rfl : L = false := by have := HL.out; simpa using this
            go_wp2
            go_meet
            case rel => exact ⟨rfl, hw⟩
          obtain ⟨x0, x1, x2, x3, x4, x5, x6, x7, x8, x9, x10⟩ := hw.bx.cells
          go_wp2_with fail
          refine (rrising_any 1 31 _ _ x.da _ hw.cl.da (by omega) (by omega)).mono ?_
          rintro e W4 ⟨rfl, b1⟩
          replace hw := hw.later b1
          clear b1
          clear x0 x1 x2 x3 x4 x5 x6 x7 x8 x9 x10
          generalize Crn.rises 1 31 x.da = r at HL ⊢
          cases r
          · obtain rfl : L = false := by have := HL.out; simpa using this
            go_wp2
            go_meet
            case rel => exact ⟨rfl, hw⟩
          obtain ⟨x0, x1, x2, x3, x4, x5, x6, x7, x8, x9, x10⟩ := hw.bx.cells
          go_wp2_with fail
          refine (rrising_any 1 31 _ _ x.near _ hw.cl.near (by omega) (by omega)).mono ?_
          rintro e W5 ⟨rfl, b1⟩
          replace hw := hw.later b1
          clear b1
          clear x0 x1 x2 x3 x4 x5 x6 x7 x8 x9 x10
          generalize Crn.rises 1 31 x.near = r at HL ⊢
          cases r
          · obtain rfl : L = false := by have := HL.out; simpa using this
            go_wp2
            go_meet
            case rel => exact ⟨rfl, hw⟩
          obtain ⟨x0, x1, x2, x3, x4, x5, x6, x7, x8, x9, x10⟩ := hw.bx.cells
          go_wp2_with fail
          refine (rrising_any 1 7 _ _ x.wd _ hw.cl.wd (by omega) (by omega)).mono ?_
          rintro e W6 ⟨rfl, b1⟩
          replace hw := hw.later b1
          clear b1
          clear x0 x1 x2 x3 x4 x5 x6 x7 x8 x9 x10
          generalize Crn.rises 1 7 x.wd = r at HL ⊢
          cases r
          · obtain rfl : L = false := by have := HL.out; simpa using this
            go_wp2
            go_meet
            case rel => exact ⟨rfl, hw⟩
          obtain ⟨x0, x1, x2, x3, x4, x5, x6, x7, x8, x9, x10⟩ := hw.bx.cells
          go_wp2_with fail
          refine (rrising_any 1 7 _ _ x.lo _ hw.cl.lo (by omega) (by omega)).mono ?_
          rintro e W7 ⟨rfl, b1⟩
          replace hw := hw.later b1
          clear b1
          clear x0 x1 x2 x3 x4 x5 x6 x7 x8 x9 x10
          obtain rfl : L = Crn.rises 1 7 x.lo := by have := HL.out; simpa using this
          go_wp2
          go_meet
          case rel => exact ⟨rfl, hw⟩
        case rest =>
          clear hw
          obtain ⟨rfl, hw⟩ := hcut
          have HO2 : Hid (OK = ((O1 && rlists x) && Crn.allB (Crn.okN x.nth) x.nth.length)) := HO.out.symm
          clear HO
          generalize (O1 && rlists x) = O2 at *
          go_wp2_with fail
          go_loopw [5, 6] (fun b i wr => ∃ k : Nat, k ≤ x.nth.length ∧ i = .int .i64 k ∧ b = .bool (O2 && Crn.allB (Crn.okN x.nth) k) ∧ CW w A x wr) (fun _ i _ => x.nth.length - (intOf i).toNat)
          case atStart => exact ⟨0, by omega, rfl, by simp [Crn.allB], hw⟩
          case round =>
            clear hw
            obtain ⟨k, hk, rfl, rfl, hw⟩ := hrel
            have hstep : Crn.allB (Crn.okN x.nth) (k + 1) = (Crn.allB (Crn.okN x.nth) k && Crn.okN x.nth k) := rfl
            have hno := fun (h : Crn.allB (Crn.okN x.nth) k = false) (hlt : k < x.nth.length) => allB_short h hlt
            have hin := fun h : Crn.allB (Crn.okN x.nth) k = true => Crn.allN_bd h
            cases hB : (O2 && Crn.allB (Crn.okN x.nth) k)
            · have hfin : OK = false := by
                rw [HO2.out]
                cases O2
                · rfl
                · rw [Bool.true_and] at hB ⊢
                  rcases Nat.lt_or_ge k x.nth.length with h | h
                  · exact hno hB h
                  · rw [show x.nth.length = k by omega]; exact hB
              subst hfin
              clear hB hstep hno hin HO2
              obtain ⟨x0, x1, x2, x3, x4, x5, x6, x7, x8, x9, x10⟩ := hw.bx.cells
              by_cases hlt : k < x.nth.length
              · have hki : (k : Int) < x.nth.length := by omega
                go_wp2
                go_ret
                exact ⟨rfl, hw.be⟩
              · have hki : (x.nth.length : Int) ≤ k := by omega
                go_wp2
                go_ret
                exact ⟨rfl, hw.be⟩
            · rw [Bool.and_eq_true] at hB
              obtain ⟨rfl, hall⟩ := hB
              obtain ⟨x0, x1, x2, x3, x4, x5, x6, x7, x8, x9, x10⟩ := hw.bx.cells
              by_cases hlt : k < x.nth.length
              · have hki : (k : Int) < x.nth.length := by omega
                have hk1 := hin hall
                obtain ⟨ad, had, hc, hc2⟩ := hw.cl.nth k hlt
                rw [hall, Bool.true_and] at hstep
                clear hno hin hall
                rw [had] at x10
                have hdef : Crn.okN x.nth k = decide (1 ≤ (x.nth.getD k (0, 0)).1 ∧ (x.nth.getD k (0, 0)).1 ≤ 5 ∧ 1 ≤ (x.nth.getD k (0, 0)).2 ∧ (x.nth.getD k (0, 0)).2 ≤ 7 ∧ (k = 0 ∨ (x.nth.getD (k - 1) (0, 0)).2 < (x.nth.getD k (0, 0)).2 ∨ (x.nth.getD (k - 1) (0, 0)).2 = (x.nth.getD k (0, 0)).2 ∧ (x.nth.getD (k - 1) (0, 0)).1 < (x.nth.getD k (0, 0)).1)) := rfl
                have HP : Hid (k ≠ 0 → wr.cell? (ad.add ((k - 1) * 2)) = some (.int .i64 (x.nth.getD (k - 1) (0, 0)).1) ∧ wr.cell? ⟨(ad.add ((k - 1) * 2)).block, (ad.add ((k - 1) * 2)).off + 1, none⟩ = some (.int .i64 (x.nth.getD (k - 1) (0, 0)).2)) := fun h0 => by
                  obtain ⟨ad', had', h1, h2⟩ := hw.cl.nth (k - 1) (by omega)
                  obtain rfl := Option.some.inj (had.symm.trans had')
                  exact ⟨h1, h2⟩
                have hnb := hide (NBox.new wr (x.nth.getD k (0, 0)))
                have hww := hide (hw.later ((Below.refl _ wr).alloc (Nat.le_refl _) (.cells #[.int .i64 (x.nth.getD k (0, 0)).1, .int .i64 (x.nth.getD k (0, 0)).2] 55)))
                generalize x.nth.getD (k - 1) (0, 0) = m at *
                generalize x.nth.getD k (0, 0) = n at *
                obtain ⟨n1, n2⟩ := n
                obtain ⟨m1, m2⟩ := m
                dsimp only at hc hc2 hdef hnb HP hww
                generalize Crn.okN x.nth k = okk at *
                have HST := hide hstep
                clear hstep hw
                go_upto_region 9 with fail
                obtain ⟨W1, hW1⟩ : ∃ W1, wr.alloc (.cells #[.int .i64 n1, .int .i64 n2] 55) = W1 := ⟨_, rfl⟩
                have hc3 : W1.cell? (ad.add (k * 2)) = some (.int .i64 n1) := by rw [← hW1]; exact (((Below.refl _ wr).alloc (Nat.le_refl _) _).cell (World.block_lt_of_cell? _ _ hc)).trans hc
                have hc4 : W1.cell? ⟨(ad.add (k * 2)).block, (ad.add (k * 2)).off + 1, none⟩ = some (.int .i64 n2) := by rw [← hW1]; exact (((Below.refl _ wr).alloc (Nat.le_refl _) _).cell (World.block_lt_of_cell? _ _ hc2)).trans hc2
                have HP2 : Hid (k ≠ 0 → W1.cell? (ad.add ((k - 1) * 2)) = some (.int .i64 m1) ∧ W1.cell? ⟨(ad.add ((k - 1) * 2)).block, (ad.add ((k - 1) * 2)).off + 1, none⟩ = some (.int .i64 m2)) := fun h0 => by
                  obtain ⟨h1, h2⟩ := HP.out h0
                  rw [← hW1]
                  exact ⟨(((Below.refl _ wr).alloc (Nat.le_refl _) _).cell (World.block_lt_of_cell? _ _ h1)).trans h1, (((Below.refl _ wr).alloc (Nat.le_refl _) _).cell (World.block_lt_of_cell? _ _ h2)).trans h2⟩
                rw [hW1] at hnb hww ⊢
                clear hW1 hc hc2 HP x0 x1 x2 x3 x4 x5 x6 x7 x8 x9 x10
                have hw := hww.out
                clear hww
                obtain ⟨x0, x1, x2, x3, x4, x5, x6, x7, x8, x9, x10⟩ := hw.bx.cells
                rw [had] at x10
                obtain ⟨y0, y1⟩ := hnb.out.cells
                clear hnb x0 x1 x2 x3 x4 x5 x6 x7 x8 x9
                clear HO2
                by_cases h0 : 1 ≤ n1
                case neg =>
                  obtain rfl : okk = false := by rw [hdef]; exact decide_eq_false (by omega)
                  clear hdef
                  have q0 : decide (1 ≤ n1) = false := decide_eq_false h0
                  as_aux_lemma =>
                    go_quiet (fail)
                    have HWD := hide (CW.drn hw nq)
                    go_wp2
                    go_roundw
                    case rel => exact ⟨k + 1, by omega, by go_num, by rw [HST.out, Bool.true_and], HWD.out⟩
                    case measure => simp [intOf]; omega
                by_cases h1 : n1 ≤ 5
                case neg =>
                  obtain rfl : okk = false := by rw [hdef]; exact decide_eq_false (by omega)
                  clear hdef
                  have q0 : decide (1 ≤ n1) = true := decide_eq_true h0
                  have q1 : decide (n1 ≤ 5) = false := decide_eq_false h1
                  as_aux_lemma =>
                    go_quiet (fail)
                    have HWD := hide (CW.drn hw nq)
                    go_wp2
                    go_roundw
                    case rel => exact ⟨k + 1, by omega, by go_num, by rw [HST.out, Bool.true_and], HWD.out⟩
                    case measure => simp [intOf]; omega
                by_cases h2 : 1 ≤ n2
                case neg =>
                  obtain rfl : okk = false := by rw [hdef]; exact decide_eq_false (by omega)
                  clear hdef
                  have q0 : decide (1 ≤ n1) = true := decide_eq_true h0
                  have q1 : decide (n1 ≤ 5) = true := decide_eq_true h1
                  have q2 : decide (1 ≤ n2) = false := decide_eq_false h2
                  as_aux_lemma =>
                    go_quiet (fail)
                    have HWD := hide (CW.drn hw nq)
                    go_wp2
                    go_roundw
                    case rel => exact ⟨k + 1, by omega, by go_num, by rw [HST.out, Bool.true_and], HWD.out⟩
                    case measure => simp [intOf]; omega
                by_cases h3 : n2 ≤ 7
                case neg =>
                  obtain rfl : okk = false := by rw [hdef]; exact decide_eq_false (by omega)
                  clear hdef
                  have q0 : decide (1 ≤ n1) = true := decide_eq_true h0
                  have q1 : decide (n1 ≤ 5) = true := decide_eq_true h1
                  have q2 : decide (1 ≤ n2) = true := decide_eq_true h2
                  have q3 : decide (n2 ≤ 7) = false := decide_eq_false h3
                  as_aux_lemma =>
                    go_quiet (fail)
                    have HWD := hide (CW.drn hw nq)
                    go_wp2
                    go_roundw
                    case rel => exact ⟨k + 1, by omega, by go_num, by rw [HST.out, Bool.true_and], HWD.out⟩
                    case measure => simp [intOf]; omega
                by_cases h5 : k = 0
                · subst h5
                  obtain rfl : okk = true := by rw [hdef]; exact decide_eq_true (by omega)
                  clear hdef
                  rw [show ad.add (0 * 2) = ad from rfl] at hc3 hc4
                  have q0 : decide (1 ≤ n1) = true := decide_eq_true h0
                  have q1 : decide (n1 ≤ 5) = true := decide_eq_true h1
                  have q2 : decide (1 ≤ n2) = true := decide_eq_true h2
                  have q3 : decide (n2 ≤ 7) = true := decide_eq_true h3
                  as_aux_lemma =>
                    go_quiet (fail)
                    have HWD := hide (CW.drn hw nq)
                    go_wp2
                    go_roundw
                    case rel => exact ⟨0 + 1, by omega, by go_num, by rw [HST.out, Bool.true_and], HWD.out⟩
                    case measure => simp [intOf]; omega
                · obtain ⟨p0, p1⟩ := HP2.out h5
                  have hki2 : (0 : Int) < k := by omega
                  have hki3 : (k : Int) - 1 < x.nth.length := by omega
                  have hki4 : ((k : Int) - 1).toNat = k - 1 := by omega
                  have hki5 : ((k : Int) == 0) = false := by simpa using h5
                  have hki6 : decide (k = 0) = false := decide_eq_false h5
                  have hki7 : decide ((k : Int) = 0) = false := decide_eq_false (by omega)
                  by_cases h6 : m2 < n2
                  case pos =>
                    obtain rfl : okk = true := by rw [hdef]; exact decide_eq_true (by omega)
                    clear hdef
                    have q0 : decide (1 ≤ n1) = true := decide_eq_true h0
                    have q1 : decide (n1 ≤ 5) = true := decide_eq_true h1
                    have q2 : decide (1 ≤ n2) = true := decide_eq_true h2
                    have q3 : decide (n2 ≤ 7) = true := decide_eq_true h3
                    have q6 : decide (m2 < n2) = true := decide_eq_true h6
                    as_aux_lemma =>
                      go_quiet (fail)
                      have HWD := hide (CW.drn hw nq)
                      go_wp2
                      go_roundw
                      case rel => exact ⟨k + 1, by omega, by go_num, by rw [HST.out, Bool.true_and], HWD.out⟩
                      case measure => simp [intOf]; omega
                  by_cases h7 : m2 = n2
                  case neg =>
                    obtain rfl : okk = false := by rw [hdef]; exact decide_eq_false (by omega)
                    clear hdef
                    have q0 : decide (1 ≤ n1) = true := decide_eq_true h0
                    have q1 : decide (n1 ≤ 5) = true := decide_eq_true h1
                    have q2 : decide (1 ≤ n2) = true := decide_eq_true h2
                    have q3 : decide (n2 ≤ 7) = true := decide_eq_true h3
                    have q6 : decide (m2 < n2) = false := decide_eq_false h6
                    have q7 : (m2 == n2) = false := by simpa using h7
                    have q8 : decide (m2 = n2) = false := decide_eq_false h7
                    as_aux_lemma =>
                      go_quiet (fail)
                      have HWD := hide (CW.drn hw nq)
                      go_wp2
                      go_roundw
                      case rel => exact ⟨k + 1, by omega, by go_num, by rw [HST.out, Bool.true_and], HWD.out⟩
                      case measure => simp [intOf]; omega
                  subst h7
                  by_cases h8 : m1 < n1
                  case pos =>
                    obtain rfl : okk = true := by rw [hdef]; exact decide_eq_true (by omega)
                    clear hdef
                    have q0 : decide (1 ≤ n1) = true := decide_eq_true h0
                    have q1 : decide (n1 ≤ 5) = true := decide_eq_true h1
                    have q2 : decide (1 ≤ m2) = true := decide_eq_true h2
                    have q3 : decide (m2 ≤ 7) = true := decide_eq_true h3
                    have q6 : decide (m2 < m2) = false := decide_eq_false h6
                    have q8 : decide (m1 < n1) = true := decide_eq_true h8
                    as_aux_lemma =>
                      go_quiet (fail)
                      have HWD := hide (CW.drn hw nq)
                      go_wp2
                      go_roundw
                      case rel => exact ⟨k + 1, by omega, by go_num, by rw [HST.out, Bool.true_and], HWD.out⟩
                      case measure => simp [intOf]; omega
                  case neg =>
                    obtain rfl : okk = false := by rw [hdef]; exact decide_eq_false (by omega)
                    clear hdef
                    have q0 : decide (1 ≤ n1) = true := decide_eq_true h0
                    have q1 : decide (n1 ≤ 5) = true := decide_eq_true h1
                    have q2 : decide (1 ≤ m2) = true := decide_eq_true h2
                    have q3 : decide (m2 ≤ 7) = true := decide_eq_true h3
                    have q6 : decide (m2 < m2) = false := decide_eq_false h6
                    have q8 : decide (m1 < n1) = false := decide_eq_false h8
                    as_aux_lemma =>
                      go_quiet (fail)
                      have HWD := hide (CW.drn hw nq)
                      go_wp2
                      go_roundw
                      case rel => exact ⟨k + 1, by omega, by go_num, by rw [HST.out, Bool.true_and], HWD.out⟩
                      case measure => simp [intOf]; omega
              · have hkn : k = x.nth.length := by omega
                have hki : (x.nth.length : Int) ≤ k := by omega
                have hfin : OK = true := by rw [HO2.out, ← hkn, hall]; rfl
                subst hfin
                clear hstep hno hin HO2 hall
                go_wp2
                go_ret
                exact ⟨rfl, hw.be⟩
end Go.Proofs.YtgbbplkpepaidaaGreatDoor
