/- package clock's reader: run; year, hourAndMinute, dayOfMonth. -/
import Derived.Test.YtcffomellimmiaaGreatDoorPrsB
namespace Go.Proofs.YtcffomellimmiaaGreatDoor
open Go.RowKit Go.Shelf
set_option linter.unusedVariables false
set_option linter.unusedSimpArgs false

/-- no digit stands at q -/
def Stp (s : ByteArray) (q : Nat) : Prop := s.size ≤ q ∨ ∃ hq : q < s.size, (s[q].toNat : Int) < 48 ∨ 48 ≤ (s[q].toNat : Int) ∧ 57 < (s[q].toNat : Int)
theorem Stp.of {s : ByteArray} {k : Nat} {x : UInt8} {L : List UInt8} (h : Tx.Seg s k (x :: L)) (hx : x.toNat < 48 ∨ 57 < x.toNat) : Stp s k := by
  obtain ⟨hk, e⟩ := h.at
  exact .inr ⟨hk, by rw [e]; omega⟩
set_option maxRecDepth 100000 in
set_option maxHeartbeats 4000000 in
theorem run_any (b : Nat) (s : ByteArray) (k n : Nat) (L : List UInt8) (w : World) (h : Rd b s k w) (hs : s.size ≤ 1000000000) (hL : Tx.Seg s k L) (hn : L.length = n) (hd : ∀ c ∈ L, Tx.isDig c) (hstop : Stp s (k + n)) :
    Calls Tryz.prog 105 #[.pointer (some ⟨b, 0, none⟩)] w fun e w' => e = .returned (.int .i64 n) ∧ Rd b s k w' ∧ Mv b w w' := by
  have hseg := hide hL
  have hdig := hide hd
  have hle := hL.le
  have HR := hide h
  have hlen := hide hn
  have HS := hide hstop
  clear h hL hd hstop hn
  rw [hlen.out] at hle
  go_enter Tryz.func105, Tryz.ntmps105
  go_wp2_with fail
  go_loopw [3] (fun i wr => ∃ j : Nat, j ≤ n ∧ i = .int .i64 j ∧ Hid (Rd b s k wr) ∧ Hid (Mv b w wr)) (fun i _ => n - (intOf i).toNat)
  case atStart => exact ⟨0, by omega, rfl, HR, hide (Mv.refl _ _)⟩
  case round =>
    obtain ⟨j, hj, rfl, hr, hm⟩ := hrel
    obtain ⟨c0, c1, fr, lt⟩ := hr.out
    by_cases hlt : j < n
    · obtain ⟨hq, hc⟩ := hseg.out.nth j (by have := hlen.out; omega)
      have hdg := hdig.out _ (List.getElem_mem (l := L) (n := j) (by have := hlen.out; omega))
      unfold Tx.isDig at hdg
      rw [← hc] at hdg
      have g1 : (j : Int) < (s.size : Int) - (k : Int) := by omega
      have hd : decide ((j : Int) < (s.size : Int) - (k : Int)) = true := by simpa using g1
      have i1 : (0 : Int) ≤ (k : Int) + (j : Int) := by omega
      have i2 : (k : Int) + (j : Int) < (s.size : Int) := by omega
      have d1 : 48 ≤ (s[k + j].toNat : Int) := by omega
      have d2 : (s[k + j].toNat : Int) ≤ 57 := by omega
      clear hdg hc
      go_wp2_with fail
      go_quiet ((go_at_call 143; exact Calls.quiet_of_same (isDigit_yes _ _ d1 d2)))
      go_wp2_with fail
      go_roundw
      case rel => exact ⟨j + 1, by omega, by go_num, hide (hr.out.drewN _), hide (hm.out.drewN _)⟩
      case measure => simp [intOf]; omega
    · obtain rfl : j = n := by omega
      rcases HS.out with he | ⟨hq, hx⟩
      · have g1 : ¬ ((j : Int) < (s.size : Int) - (k : Int)) := by omega
        have hd : decide ((j : Int) < (s.size : Int) - (k : Int)) = false := by simpa using g1
        go_wp2_with fail
        go_quiet (fail)
        go_wp2_with fail
        go_ret
        exact ⟨rfl, hr.out.drewN _, hm.out.drewN _⟩
      · have g1 : (j : Int) < (s.size : Int) - (k : Int) := by omega
        have hd : decide ((j : Int) < (s.size : Int) - (k : Int)) = true := by simpa using g1
        have i1 : (0 : Int) ≤ (k : Int) + (j : Int) := by omega
        have i2 : (k : Int) + (j : Int) < (s.size : Int) := by omega
        have KX := hide (fun W => isDigit_no _ W hx)
        clear hx
        go_wp2_with fail
        go_quiet ((go_at_call 143; exact Calls.quiet_of_same (KX.out _)))
        go_wp2_with fail
        go_ret
        exact ⟨rfl, hr.out.drewN _, hm.out.drewN _⟩
end Go.Proofs.YtcffomellimmiaaGreatDoor
