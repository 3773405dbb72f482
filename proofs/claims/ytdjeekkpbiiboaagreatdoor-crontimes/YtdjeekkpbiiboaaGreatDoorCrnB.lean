/- package cron: nthRise; the reference's rising. -/
import Derived.Test.YtdjeekkpbiiboaaGreatDoorCrnA
import Derived.BigQuiet
namespace Go.Proofs.YtdjeekkpbiiboaaGreatDoor
open Go.RowKit
set_option linter.unusedVariables false
set_option linter.unusedSimpArgs false

theorem below_dr {w W : World} {B : Nat} (h : Below B w W) (n : Nat) : Below B w (W.drewN n) := ⟨h.os, h.tape, h.output, h.size, h.block⟩
set_option maxHeartbeats 2000000 in
theorem rrising_any (lo hi : Int) (a : Option Addr) (c : Nat) (l : List Int) (w : World) (h : IL a l w) (b0 : 0 ≤ lo) (b1 : hi ≤ 1000) :
    Calls Tryz.prog 21 #[.slice a l.length c, .int .i64 lo, .int .i64 hi] w fun e w' => e = .returned (.bool (Crn.rises lo hi l)) ∧ Below w.heap.size w w' := by
  have HL := hide h
  have HR : Hid (Crn.rises lo hi l = Crn.allB (Crn.okR lo hi l) l.length) := rfl
  generalize Crn.rises lo hi l = R at *
  clear h
  go_enter Tryz.func21, Tryz.ntmps21
  go_wp2_with fail
  go_loopw [7] (fun i wr => ∃ k : Nat, k ≤ l.length ∧ i = .int .i64 k ∧ Crn.allB (Crn.okR lo hi l) k = true ∧ Below w.heap.size w wr) (fun i _ => l.length - (intOf i).toNat)
  case atStart => exact ⟨0, by omega, rfl, rfl, Below.refl _ _⟩
  case round =>
    obtain ⟨k, hk, rfl, hall, hb⟩ := hrel
    by_cases hlt : k < l.length
    · have hki : (k : Int) < l.length := by omega
      obtain ⟨ad, rfl, hc⟩ := (HL.out.later hb) k hlt
      have hk1 := Crn.all_bd hall b0 b1
      have hno := fun h : Crn.okR lo hi l k = false => Crn.allB_no h l.length hlt
      have hstep : Crn.allB (Crn.okR lo hi l) (k + 1) = (Crn.allB (Crn.okR lo hi l) k && Crn.okR lo hi l k) := rfl
      rw [hall, Bool.true_and] at hstep
      have hdef : Crn.okR lo hi l k = decide (lo ≤ l.getD k 0 ∧ l.getD k 0 ≤ hi ∧ (k = 0 ∨ l.getD (k - 1) 0 < l.getD k 0)) := rfl
      generalize Crn.okR lo hi l k = o at *
      have HH := hide (And.intro hno (And.intro hstep hb))
      have hbd : Hid (Below w.heap.size w wr) := hb
      clear hno hstep hall hb
      by_cases h1 : l.getD k 0 < lo
      · obtain rfl : o = false := by rw [hdef]; exact decide_eq_false (by omega)
        clear hdef
        generalize l.getD k 0 = n at *
        have d1 : decide (n < lo) = true := decide_eq_true h1
        have e1 := HH.out.1 rfl
        go_wp2_with fail
        go_quiet (fail)
        have HBD := hide (below_dr hbd.out nq)
        go_wp2
        go_ret
        exact ⟨by rw [HR.out, e1]; rfl, HBD.out⟩
      · by_cases h2 : hi < l.getD k 0
        · obtain rfl : o = false := by rw [hdef]; exact decide_eq_false (by omega)
          clear hdef
          generalize l.getD k 0 = n at *
          have d1 : decide (n < lo) = false := decide_eq_false h1
          have d2 : decide (hi < n) = true := decide_eq_true h2
          have e1 := HH.out.1 rfl
          go_wp2_with fail
          go_quiet (fail)
          have HBD := hide (below_dr hbd.out nq)
          go_wp2
          go_ret
          exact ⟨by rw [HR.out, e1]; rfl, HBD.out⟩
        · by_cases h0 : k = 0
          · subst h0
            obtain rfl : o = true := by rw [hdef]; exact decide_eq_true (by omega)
            clear hdef
            generalize l.getD 0 0 = n at *
            rw [show ad.add 0 = ad from rfl] at hc
            have d1 : decide (n < lo) = false := decide_eq_false h1
            have d2 : decide (hi < n) = false := decide_eq_false h2
            go_wp2_with fail
            go_quiet (fail)
            have HBD := hide (below_dr hbd.out nq)
            go_wp2
            go_roundw
            case rel => exact ⟨1, by omega, by go_num, HH.out.2.1, HBD.out⟩
            case measure => simp [intOf]; omega
          · have hk0 : 0 < k := by omega
            obtain ⟨ad', had, hc0⟩ := (HL.out.later hbd.out) (k - 1) (by omega)
            obtain rfl := Option.some.inj had
            clear had
            have hki2 : (0 : Int) < k := by omega
            have hki3 : (k : Int) - 1 < l.length := by omega
            have hki4 : ((k : Int) - 1).toNat = k - 1 := by omega
            by_cases h3 : l.getD k 0 ≤ l.getD (k - 1) 0
            · obtain rfl : o = false := by rw [hdef]; exact decide_eq_false (by omega)
              clear hdef
              generalize l.getD k 0 = n at *
              generalize l.getD (k - 1) 0 = n0 at *
              have d1 : decide (n < lo) = false := decide_eq_false h1
              have d2 : decide (hi < n) = false := decide_eq_false h2
              have d3 : decide (n ≤ n0) = true := decide_eq_true h3
              have e1 := HH.out.1 rfl
              go_wp2_with fail
              go_quiet (fail)
              have HBD := hide (below_dr hbd.out nq)
              go_wp2
              go_ret
              exact ⟨by rw [HR.out, e1]; rfl, HBD.out⟩
            · obtain rfl : o = true := by rw [hdef]; exact decide_eq_true (by omega)
              clear hdef
              generalize l.getD k 0 = n at *
              generalize l.getD (k - 1) 0 = n0 at *
              have d1 : decide (n < lo) = false := decide_eq_false h1
              have d2 : decide (hi < n) = false := decide_eq_false h2
              have d3 : decide (n ≤ n0) = false := decide_eq_false h3
              go_wp2_with fail
              go_quiet (fail)
              have HBD := hide (below_dr hbd.out nq)
              go_wp2
              go_roundw
              case rel => exact ⟨k + 1, by omega, by go_num, HH.out.2.1, HBD.out⟩
              case measure => simp [intOf]; omega
    · have hkn : k = l.length := by omega
      have hki : (l.length : Int) ≤ k := by omega
      rw [hkn] at hall
      go_wp2
      go_ret
      exact ⟨by rw [HR.out, hall]; rfl, hb⟩
end Go.Proofs.YtdjeekkpbiiboaaGreatDoor
