/- package clock's reader: want, wantIf, isDigit, number. -/
import Derived.Test.YtcffomellimmiaaGreatDoorPrsA
namespace Go.Proofs.YtcffomellimmiaaGreatDoor
open Go.RowKit Go.Shelf
set_option linter.unusedVariables false
set_option linter.unusedSimpArgs false

theorem want_yes (b : Nat) (s : ByteArray) (k : Nat) (c : Int) (w : World) (h : Rd b s k w) (hs : s.size ≤ 1000000000) (hn : Nx s k c true) (hk : k ≤ 1000000000) :
    Calls Tryz.prog 81 #[.pointer (some ⟨b, 0, none⟩), .int .u8 c] w fun e w' => e = .returned .nilIface ∧ Rd b s (k + 1) w' ∧ Mv b w w' := by
  have K := hide (skip_any b s k c true w h hs hn hk)
  clear h hn
  go_enter Tryz.func81, Tryz.ntmps81
  go_wp2_with fail
  refine K.out.mono ?_
  rintro e W ⟨rfl, hr, hm⟩
  go_wp2_with fail
  go_ret
  exact ⟨rfl, hr, hm⟩
theorem wantIf_yes (b : Nat) (s : ByteArray) (k : Nat) (c : Int) (w : World) (h : Rd b s k w) (hs : s.size ≤ 1000000000) (hn : Nx s k c true) (hk : k ≤ 1000000000) :
    Calls Tryz.prog 141 #[.pointer (some ⟨b, 0, none⟩), .bool true, .int .u8 c] w fun e w' => e = .returned .nilIface ∧ Rd b s (k + 1) w' ∧ Mv b w w' := by
  have K := hide (want_yes b s k c w h hs hn hk)
  clear h hn
  go_enter Tryz.func141, Tryz.ntmps141
  go_wp2_with fail
  refine K.out.mono ?_
  rintro e W ⟨rfl, hr, hm⟩
  go_wp2_with fail
  go_ret
  exact ⟨rfl, hr, hm⟩
theorem isDigit_yes (c : Int) (w : World) (h1 : 48 ≤ c) (h2 : c ≤ 57) :
    Calls Tryz.prog 143 #[.int .u8 c] w fun e w' => e = .returned (.bool true) ∧ w' = w := by
  go_enter Tryz.func143, Tryz.ntmps143
  go_wp2
  go_ret
  exact ⟨rfl, rfl⟩
theorem isDigit_no (c : Int) (w : World) (h : c < 48 ∨ 48 ≤ c ∧ 57 < c) :
    Calls Tryz.prog 143 #[.int .u8 c] w fun e w' => e = .returned (.bool false) ∧ w' = w := by
  rcases h with h | ⟨h1, h⟩
  all_goals
    go_enter Tryz.func143, Tryz.ntmps143
    go_wp2
    go_ret
    exact ⟨ret_bool (by simp <;> omega), rfl⟩
set_option maxRecDepth 100000 in
set_option maxHeartbeats 4000000 in
theorem number_any (b : Nat) (s : ByteArray) (k n : Nat) (L : List UInt8) (w : World) (h : Rd b s k w) (hs : s.size ≤ 1000000000) (hL : Tx.Seg s k L) (hn : L.length = n) (hd : ∀ c ∈ L, Tx.isDig c) (h8 : n ≤ 8) :
    Calls Tryz.prog 110 #[.pointer (some ⟨b, 0, none⟩), .int .i64 n] w fun e w' => e = .returned (.tuple #[.int .i64 (Tx.valF 0 L), .nilIface]) ∧ Rd b s (k + n) w' ∧ Mv b w w' := by
  have hseg := hide hL
  have hdig := hide hd
  have hle := hL.le
  have HR := hide h
  have hlen := hide hn
  clear h hL hd
  go_enter Tryz.func110, Tryz.ntmps110
  go_wp2_with fail
  go_loopw [6, 8] (fun a i wr => ∃ j : Nat, j ≤ n ∧ i = .int .i64 j ∧ a = .int .i64 (Tx.valF 0 (L.take j)) ∧ Hid (Rd b s (k + j) wr) ∧ Hid (Mv b w wr)) (fun _ i _ => n - (intOf i).toNat)
  case atStart => exact ⟨0, by omega, rfl, by simp [Tx.valF_nil], HR, hide (Mv.refl _ _)⟩
  case round =>
    obtain ⟨j, hj, rfl, rfl, hr, hm⟩ := hrel
    by_cases hlt : j < n
    · obtain ⟨hq, hc⟩ := hseg.out.nth j (by have := hlen.out; omega)
      have hdg := hdig.out _ (List.getElem_mem (l := L) (n := j) (by have := hlen.out; omega))
      have hv := hide (Tx.valF_take L j (by have := hlen.out; omega))
      have hlo := Tx.valF_take_lt L hdig.out (by have := hlen.out; omega) j
      obtain ⟨c0, c1, fr, lt⟩ := hr.out
      unfold Tx.isDig at hdg
      rw [← hc] at hdg hv
      generalize Tx.valF 0 (L.take j) = V at *
      generalize hQ : k + j = q at *
      have i1 : (0 : Int) ≤ (q : Int) := by omega
      have i2 : (q : Int) < (s.size : Int) := by omega
      have i3 : q < s.size := by omega
      have HQ := hide hQ
      clear hc hQ
      have i4 : ¬ (s.size ≤ q) := by omega
      have i5 : ¬ ((s.size : Int) ≤ (q : Int)) := by omega
      have d1 : 48 ≤ (s[q].toNat : Int) := by omega
      have d2 : (s[q].toNat : Int) ≤ 57 := by omega
      clear hdg
      go_wp2_with fail
      go_quiet ((go_at_call 143; exact Calls.quiet_of_same (isDigit_yes _ _ d1 d2)))
      go_wp2_with fail
      go_quiet (fail)
      go_wp2_with fail
      go_roundw
      case rel =>
        refine ⟨j + 1, by omega, by go_num, ?_, ?_, ?_⟩
        · rw [hv.out]
          exact congrArg (Value.int .i64) (by omega)
        · rw [show k + (j + 1) = q + 1 by have := HQ.out; omega]
          exact hide ((hr.out.drewN _).setI (q + 1) _ (by omega))
        · exact hide ((hm.out.drewN _).setCell 1 _)
      case measure => simp [intOf]; omega
    · obtain rfl : j = n := by omega
      have e := hide (show L.take j = L from List.take_of_length_le (by have := hlen.out; omega))
      go_wp2_with fail
      go_ret2
      exact ⟨by rw [e.out]; rfl, hr.out, hm.out⟩
end Go.Proofs.YtcffomellimmiaaGreatDoor
