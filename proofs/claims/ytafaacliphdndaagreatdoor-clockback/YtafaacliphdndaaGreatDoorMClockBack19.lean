/- package clock's reader: run; year, hourAndMinute, dayOfMonth. -/
import Derived.Test.YtafaacliphdndaaGreatDoorMClockBack2
import Derived.Test.YtafaacliphdndaaGreatDoorMClockBack18
import Derived.Test.YtafaacliphdndaaGreatDoorMvA
import Derived.Below
import Derived.RowKitTokens
import Derived.BigQuiet
import Derived.Deep.QuietTactic
namespace Go.Proofs.YtafaacliphdndaaGreatDoor
open Go.RowKit Go.Shelf
set_option linter.unusedVariables false
set_option linter.unusedSimpArgs false

/-- block b is a reader of the text s at its byte k -/
structure Rd (b : Nat) (s : ByteArray) (k : Nat) (w : World) : Prop where
  c0 : w.cell? ⟨b, 0, none⟩ = some (.string s)
  c1 : w.cell? ⟨b, 1, none⟩ = some (.int .i64 k)
  fr : ∀ j, w.frozen? ⟨b, j, none⟩ = false
  lt : b < w.heap.size
theorem Rd.later {b : Nat} {s : ByteArray} {k : Nat} {w w' : World} (h : Rd b s k w) (hb : Below w.heap.size w w') : Rd b s k w' :=
  ⟨(hb.cell (p := ⟨b, 0, none⟩) h.lt).trans h.c0, (hb.cell (p := ⟨b, 1, none⟩) h.lt).trans h.c1, fun j => (hb.frozen (p := ⟨b, j, none⟩) h.lt).trans (h.fr j), Nat.lt_of_lt_of_le h.lt hb.size⟩
theorem Rd.drewN {b : Nat} {s : ByteArray} {k : Nat} {w : World} (h : Rd b s k w) (n : Nat) : Rd b s k (w.drewN n) := ⟨h.c0, h.c1, h.fr, h.lt⟩
theorem Rd.set {b : Nat} {s : ByteArray} {k : Nat} {w : World} (h : Rd b s k w) (j : Nat) : Rd b s j (w.setCell ⟨b, 1, none⟩ (.int .i64 j)) :=
  ⟨by rw [World.cell?_setCell_other _ _ _ _ (by simp)]; exact h.c0, World.cell?_setCell_same _ _ _ h.c1, fun i => by rw [World.frozen?_setCell]; exact h.fr i, by rw [World.size_setCell]; exact h.lt⟩

theorem Rd.setI {b : Nat} {s : ByteArray} {k : Nat} {w : World} (h : Rd b s k w) (j : Nat) (v : Int) (hv : v = j) : Rd b s j (w.setCell ⟨b, 1, none⟩ (.int .i64 v)) := by subst hv; exact h.set j
set_option maxHeartbeats 1600000 in
theorem isNext_at (b : Nat) (s : ByteArray) (k : Nat) (c : Int) (w : World) (h : Rd b s k w) (hs : s.size ≤ 1000000000) (hk : k < s.size) :
    Calls Tryz.prog 89 #[.pointer (some ⟨b, 0, none⟩), .int .u8 c] w fun e w' => e = .returned (.bool ((s[k].toNat : Int) == c)) ∧ ∃ n, w' = w.drewN n := by
  obtain ⟨c0, c1, fr, lt⟩ := h
  have hd : decide ((k : Int) < (s.size : Int)) = true := by simpa using hk
  have i1 : (0 : Int) ≤ (k : Int) := by omega
  have i2 : (k : Int) < (s.size : Int) := by omega
  go_enter Tryz.func89, Tryz.ntmps89
  go_wp2_with fail
  go_quiet (fail)
  go_wp2
  go_ret
  exact ⟨rfl, _, rfl⟩
set_option maxHeartbeats 1600000 in
theorem isNext_end (b : Nat) (s : ByteArray) (k : Nat) (c : Int) (w : World) (h : Rd b s k w) (hs : s.size ≤ 1000000000) (hk : s.size ≤ k) :
    Calls Tryz.prog 89 #[.pointer (some ⟨b, 0, none⟩), .int .u8 c] w fun e w' => e = .returned (.bool false) ∧ ∃ n, w' = w.drewN n := by
  obtain ⟨c0, c1, fr, lt⟩ := h
  have hn1 : ¬ (k < s.size) := by omega
  have hn2 : ¬ ((k : Int) < (s.size : Int)) := by omega
  have hd : decide ((k : Int) < (s.size : Int)) = false := by simpa using hk
  clear hk
  go_enter Tryz.func89, Tryz.ntmps89
  go_wp2_with fail
  go_quiet (fail)
  go_wp2
  go_ret
  exact ⟨rfl, _, rfl⟩
/-- does the byte c stand at k? -/
def Nx (s : ByteArray) (k : Nat) (c : Int) (r : Bool) : Prop := (s.size ≤ k ∧ r = false) ∨ ∃ hk : k < s.size, r = ((s[k].toNat : Int) == c)
theorem Nx.yes {s : ByteArray} {k : Nat} {x : UInt8} {L : List UInt8} (h : Tx.Seg s k (x :: L)) : Nx s k (x.toNat : Int) true := by
  obtain ⟨hk, e⟩ := h.at
  exact .inr ⟨hk, by rw [e]; simp⟩
theorem Nx.no {s : ByteArray} {k : Nat} {x : UInt8} {L : List UInt8} {c : Int} (h : Tx.Seg s k (x :: L)) (hc : (x.toNat : Int) ≠ c) : Nx s k c false := by
  obtain ⟨hk, e⟩ := h.at
  exact .inr ⟨hk, by rw [e]; simpa using hc⟩
theorem Nx.end {s : ByteArray} {k : Nat} {c : Int} (h : s.size ≤ k) : Nx s k c false := .inl ⟨h, rfl⟩
theorem isNext_any (b : Nat) (s : ByteArray) (k : Nat) (c : Int) (r : Bool) (w : World) (h : Rd b s k w) (hs : s.size ≤ 1000000000) (hn : Nx s k c r) :
    Calls Tryz.prog 89 #[.pointer (some ⟨b, 0, none⟩), .int .u8 c] w fun e w' => e = .returned (.bool r) ∧ Rd b s k w' ∧ Mv b w w' := by
  rcases hn with ⟨hk, rfl⟩ | ⟨hk, rfl⟩
  · exact (isNext_end b s k c w h hs hk).mono fun e w' ⟨he, n, hw⟩ => ⟨he, by rw [hw]; exact ⟨h.drewN n, (Mv.refl b w).drewN n⟩⟩
  · exact (isNext_at b s k c w h hs hk).mono fun e w' ⟨he, n, hw⟩ => ⟨he, by rw [hw]; exact ⟨h.drewN n, (Mv.refl b w).drewN n⟩⟩
set_option maxHeartbeats 1600000 in
/-- past the byte, if it stands there -/
theorem skip_any (b : Nat) (s : ByteArray) (k : Nat) (c : Int) (r : Bool) (w : World) (h : Rd b s k w) (hs : s.size ≤ 1000000000) (hn : Nx s k c r) (hk : k ≤ 1000000000) :
    Calls Tryz.prog 65 #[.pointer (some ⟨b, 0, none⟩), .int .u8 c] w fun e w' => e = .returned (.bool r) ∧ Rd b s (if r then k + 1 else k) w' ∧ Mv b w w' := by
  have K := hide (isNext_any b s k c r w h hs hn)
  clear h hn
  cases r
  · go_enter Tryz.func65, Tryz.ntmps65
    go_wp2_with fail
    refine K.out.mono ?_
    rintro e W ⟨rfl, hr, hm⟩
    go_wp2_with fail
    go_ret
    exact ⟨rfl, hr, hm⟩
  · go_enter Tryz.func65, Tryz.ntmps65
    go_wp2_with fail
    refine K.out.mono ?_
    rintro e W ⟨rfl, hr, hm⟩
    have hset := hide (hr.set (k + 1))
    have hmv := hide (hm.setCell 1 (.int .i64 ((k + 1 : Nat) : Int)))
    obtain ⟨c0, c1, fr, lt⟩ := hr
    go_wp2_with fail
    go_ret
    exact ⟨rfl, hset.out, hmv.out⟩
end Go.Proofs.YtafaacliphdndaaGreatDoor
namespace Go.Proofs.YtafaacliphdndaaGreatDoor
open Go.RowKit Go.Shelf
set_option linter.unusedVariables false
set_option linter.unusedSimpArgs false

theorem want_yes (b : Nat) (s : ByteArray) (k : Nat) (c : Int) (w : World) (h : Rd b s k w) (hs : s.size ≤ 1000000000) (hn : Nx s k c true) (hk : k ≤ 1000000000) :
    Calls Tryz.prog 90 #[.pointer (some ⟨b, 0, none⟩), .int .u8 c] w fun e w' => e = .returned .nilIface ∧ Rd b s (k + 1) w' ∧ Mv b w w' := by
  have K := hide (skip_any b s k c true w h hs hn hk)
  clear h hn
  go_enter Tryz.func90, Tryz.ntmps90
  go_wp2_with fail
  refine K.out.mono ?_
  rintro e W ⟨rfl, hr, hm⟩
  go_wp2_with fail
  go_ret
  exact ⟨rfl, hr, hm⟩
theorem wantIf_yes (b : Nat) (s : ByteArray) (k : Nat) (c : Int) (w : World) (h : Rd b s k w) (hs : s.size ≤ 1000000000) (hn : Nx s k c true) (hk : k ≤ 1000000000) :
    Calls Tryz.prog 144 #[.pointer (some ⟨b, 0, none⟩), .bool true, .int .u8 c] w fun e w' => e = .returned .nilIface ∧ Rd b s (k + 1) w' ∧ Mv b w w' := by
  have K := hide (want_yes b s k c w h hs hn hk)
  clear h hn
  go_enter Tryz.func144, Tryz.ntmps144
  go_wp2_with fail
  refine K.out.mono ?_
  rintro e W ⟨rfl, hr, hm⟩
  go_wp2_with fail
  go_ret
  exact ⟨rfl, hr, hm⟩
theorem isDigit_yes (c : Int) (w : World) (h1 : 48 ≤ c) (h2 : c ≤ 57) :
    Calls Tryz.prog 146 #[.int .u8 c] w fun e w' => e = .returned (.bool true) ∧ w' = w := by
  go_enter Tryz.func146, Tryz.ntmps146
  go_wp2
  go_ret
  exact ⟨rfl, rfl⟩
theorem isDigit_no (c : Int) (w : World) (h : c < 48 ∨ 48 ≤ c ∧ 57 < c) :
    Calls Tryz.prog 146 #[.int .u8 c] w fun e w' => e = .returned (.bool false) ∧ w' = w := by
  rcases h with h | ⟨h1, h⟩
  all_goals
    go_enter Tryz.func146, Tryz.ntmps146
    go_wp2
    go_ret
    exact ⟨ret_bool (by simp <;> omega), rfl⟩
set_option maxRecDepth 100000 in
set_option maxHeartbeats 4000000 in
theorem number_any (b : Nat) (s : ByteArray) (k n : Nat) (L : List UInt8) (w : World) (h : Rd b s k w) (hs : s.size ≤ 1000000000) (hL : Tx.Seg s k L) (hn : L.length = n) (hd : ∀ c ∈ L, Tx.isDig c) (h8 : n ≤ 8) :
    Calls Tryz.prog 118 #[.pointer (some ⟨b, 0, none⟩), .int .i64 n] w fun e w' => e = .returned (.tuple #[.int .i64 (Tx.valF 0 L), .nilIface]) ∧ Rd b s (k + n) w' ∧ Mv b w w' := by
  have hseg := hide hL
  have hdig := hide hd
  have hle := hL.le
  have HR := hide h
  have hlen := hide hn
  clear h hL hd
  go_enter Tryz.func118, Tryz.ntmps118
  go_wp2_with fail
  go_loopw [6, 8] (fun a i wr => ∃ j : Nat, j ≤ n ∧ i = .int .i64 j ∧ a = .int .i64 (Tx.valF 0 (L.take j)) ∧ Hid (Rd b s (k + j) wr) ∧ Hid (Mv b w wr)) (fun _ i _ => n - (intOf i).toNat)
  case atStart => exact ⟨0, by omega, rfl, by simp [Tx.valF_nil], HR, hide (Mv.refl _ _)⟩
  case round =>
    obtain ⟨j, hj, rfl, rfl, hr, hm⟩ := hrel
    by_cases hlt : j < n
    · obtain ⟨hq, hc⟩ := hseg.out.nth j (by have := hlen.out; omega)
      have hdg := hdig.out _ (List.getElem_mem (l := L) (n := j) (by have := hlen.out; omega))
      have hv := hide (Tx.valF_take L j (by have := hlen.out; omega))
      have hlo := Tx.valF_take_lt L hdig.out (by have := hlen.out; omega) j
      obtain ⟨c0, c1, fr, lt⟩ := hr.out
      unfold Tx.isDig at hdg
      rw [← hc] at hdg hv
      generalize Tx.valF 0 (L.take j) = V at *
      generalize hQ : k + j = q at *
      have i1 : (0 : Int) ≤ (q : Int) := by omega
      have i2 : (q : Int) < (s.size : Int) := by omega
      have i3 : q < s.size := by omega
      have HQ := hide hQ
      clear hc hQ
      have i4 : ¬ (s.size ≤ q) := by omega
      have i5 : ¬ ((s.size : Int) ≤ (q : Int)) := by omega
      have d1 : 48 ≤ (s[q].toNat : Int) := by omega
      have d2 : (s[q].toNat : Int) ≤ 57 := by omega
      clear hdg
      go_wp2_with fail
      go_quiet ((go_at_call 146; exact Calls.quiet_of_same (isDigit_yes _ _ d1 d2)))
      go_wp2_with fail
      go_quiet (fail)
      go_wp2_with fail
      go_roundw
      case rel =>
        refine ⟨j + 1, by omega, by go_num, ?_, ?_, ?_⟩
        · rw [hv.out]
          exact congrArg (Value.int .i64) (by omega)
        · rw [show k + (j + 1) = q + 1 by have := HQ.out; omega]
          exact hide ((hr.out.drewN _).setI (q + 1) _ (by omega))
        · exact hide ((hm.out.drewN _).setCell 1 _)
      case measure => simp [intOf]; omega
    · obtain rfl : j = n := by omega
      have e := hide (show L.take j = L from List.take_of_length_le (by have := hlen.out; omega))
      go_wp2_with fail
      go_ret2
      exact ⟨by rw [e.out]; rfl, hr.out, hm.out⟩
end Go.Proofs.YtafaacliphdndaaGreatDoor
namespace Go.Proofs.YtafaacliphdndaaGreatDoor
open Go.RowKit Go.Shelf
set_option linter.unusedVariables false
set_option linter.unusedSimpArgs false

/-- no digit stands at q -/
def Stp (s : ByteArray) (q : Nat) : Prop := s.size ≤ q ∨ ∃ hq : q < s.size, (s[q].toNat : Int) < 48 ∨ 48 ≤ (s[q].toNat : Int) ∧ 57 < (s[q].toNat : Int)
theorem Stp.of {s : ByteArray} {k : Nat} {x : UInt8} {L : List UInt8} (h : Tx.Seg s k (x :: L)) (hx : x.toNat < 48 ∨ 57 < x.toNat) : Stp s k := by
  obtain ⟨hk, e⟩ := h.at
  exact .inr ⟨hk, by rw [e]; omega⟩
set_option maxRecDepth 100000 in
set_option maxHeartbeats 4000000 in
theorem run_any (b : Nat) (s : ByteArray) (k n : Nat) (L : List UInt8) (w : World) (h : Rd b s k w) (hs : s.size ≤ 1000000000) (hL : Tx.Seg s k L) (hn : L.length = n) (hd : ∀ c ∈ L, Tx.isDig c) (hstop : Stp s (k + n)) :
    Calls Tryz.prog 113 #[.pointer (some ⟨b, 0, none⟩)] w fun e w' => e = .returned (.int .i64 n) ∧ Rd b s k w' ∧ Mv b w w' := by
  have hseg := hide hL
  have hdig := hide hd
  have hle := hL.le
  have HR := hide h
  have hlen := hide hn
  have HS := hide hstop
  clear h hL hd hstop hn
  rw [hlen.out] at hle
  go_enter Tryz.func113, Tryz.ntmps113
  go_wp2_with fail
  go_loopw [3] (fun i wr => ∃ j : Nat, j ≤ n ∧ i = .int .i64 j ∧ Hid (Rd b s k wr) ∧ Hid (Mv b w wr)) (fun i _ => n - (intOf i).toNat)
  case atStart => exact ⟨0, by omega, rfl, HR, hide (Mv.refl _ _)⟩
  case round =>
    obtain ⟨j, hj, rfl, hr, hm⟩ := hrel
    obtain ⟨c0, c1, fr, lt⟩ := hr.out
    by_cases hlt : j < n
    · obtain ⟨hq, hc⟩ := hseg.out.nth j (by have := hlen.out; omega)
      have hdg := hdig.out _ (List.getElem_mem (l := L) (n := j) (by have := hlen.out; omega))
      unfold Tx.isDig at hdg
      rw [← hc] at hdg
      have g1 : (j : Int) < (s.size : Int) - (k : Int) := by omega
      have hd : decide ((j : Int) < (s.size : Int) - (k : Int)) = true := by simpa using g1
      have i1 : (0 : Int) ≤ (k : Int) + (j : Int) := by omega
      have i2 : (k : Int) + (j : Int) < (s.size : Int) := by omega
      have d1 : 48 ≤ (s[k + j].toNat : Int) := by omega
      have d2 : (s[k + j].toNat : Int) ≤ 57 := by omega
      clear hdg hc
      go_wp2_with fail
      go_quiet ((go_at_call 146; exact Calls.quiet_of_same (isDigit_yes _ _ d1 d2)))
      go_wp2_with fail
      go_roundw
      case rel => exact ⟨j + 1, by omega, by go_num, hide (hr.out.drewN _), hide (hm.out.drewN _)⟩
      case measure => simp [intOf]; omega
    · obtain rfl : j = n := by omega
      rcases HS.out with he | ⟨hq, hx⟩
      · have g1 : ¬ ((j : Int) < (s.size : Int) - (k : Int)) := by omega
        have hd : decide ((j : Int) < (s.size : Int) - (k : Int)) = false := by simpa using g1
        go_wp2_with fail
        go_quiet (fail)
        go_wp2_with fail
        go_ret
        exact ⟨rfl, hr.out.drewN _, hm.out.drewN _⟩
      · have g1 : (j : Int) < (s.size : Int) - (k : Int) := by omega
        have hd : decide ((j : Int) < (s.size : Int) - (k : Int)) = true := by simpa using g1
        have i1 : (0 : Int) ≤ (k : Int) + (j : Int) := by omega
        have i2 : (k : Int) + (j : Int) < (s.size : Int) := by omega
        have KX := hide (fun W => isDigit_no _ W hx)
        clear hx
        go_wp2_with fail
        go_quiet ((go_at_call 146; exact Calls.quiet_of_same (KX.out _)))
        go_wp2_with fail
        go_ret
        exact ⟨rfl, hr.out.drewN _, hm.out.drewN _⟩
end Go.Proofs.YtafaacliphdndaaGreatDoor
