/- package clock's reader: year, hourAndMinute, hasSecond, dayOfMonth. -/
import Derived.Test.YtafaacliphdndaaGreatDoorMClockBack19
import Derived.Test.YtafaacliphdndaaGreatDoorMClockBack24
namespace Go.Proofs.YtafaacliphdndaaGreatDoor
open Go.RowKit Go.Shelf
set_option linter.unusedVariables false
set_option linter.unusedSimpArgs false

theorem Nx.dig {s : ByteArray} {k : Nat} {L : List UInt8} {c : Int} (h : Tx.Seg s k L) (h0 : L ≠ []) (hd : ∀ x ∈ L, Tx.isDig x) (hc : c < 48 ∨ 57 < c) : Nx s k c false := by
  cases L with
  | nil => exact absurd rfl h0
  | cons x L =>
    have := hd x (by simp)
    unfold Tx.isDig at this
    exact Nx.no h (by omega)
/-- number, in the words of pads -/
theorem number_pad (b : Nat) (s : ByteArray) (k v n : Nat) (w : World) (h : Rd b s k w) (hs : s.size ≤ 1000000000) (hL : Tx.Seg s k (Tx.padL v n)) (hv : v < 10 ^ n) (h1 : 1 ≤ n) (h8 : n ≤ 8) :
    Calls Tryz.prog 118 #[.pointer (some ⟨b, 0, none⟩), .int .i64 n] w fun e w' => e = .returned (.tuple #[.int .i64 v, .nilIface]) ∧ Rd b s (k + n) w' ∧ Mv b w w' := by
  have := number_any b s k n _ w h hs hL (Tx.padL_exact v n hv h1) (Tx.dig_pad v n) h8
  rw [Tx.val_pad] at this
  exact this
theorem pad_ne (v n : Nat) (hv : v < 10 ^ n) (h1 : 1 ≤ n) : Tx.padL v n ≠ [] := by
  intro h
  have := Tx.padL_exact v n hv h1
  rw [h] at this; simp at this; omega
/-- a year's digits, its sign ahead where it has one -/
def yL (y : Int) : List UInt8 := if y < 0 then 45 :: Tx.padL (-y).toNat 5 else if 9999 < y then 43 :: Tx.padL y.toNat 5 else Tx.padL y.toNat 4
theorem yL_data (y : Int) : (Tx.ytx y).data.toList = yL y := by
  unfold Tx.ytx yL
  split
  · rw [Tx.data_app, Tx.pad_data]; rfl
  · split
    · rw [Tx.data_app, Tx.pad_data]; rfl
    · rw [Tx.pad_data]
set_option maxHeartbeats 1600000 in
theorem ryear_rd (b : Nat) (s : ByteArray) (k : Nat) (y : Int) (w : World) (h : Rd b s k w) (hs : s.size ≤ 1000000000) (hL : Tx.Seg s k (yL y)) (y1 : -20000 ≤ y) (y2 : y ≤ 20000) :
    Calls Tryz.prog 111 #[.pointer (some ⟨b, 0, none⟩)] w fun e w' => e = .returned (.tuple #[.int .i64 y, .nilIface]) ∧ Rd b s (k + (yL y).length) w' ∧ Mv b w w' := by
  have hle := hL.le
  have hk : k ≤ 1000000000 := by omega
  by_cases c1 : y < 0
  · obtain ⟨n, hn⟩ : ∃ n : Nat, -y = (n : Int) := ⟨(-y).toNat, by omega⟩
    have e1 : yL y = 45 :: Tx.padL n 5 := by unfold yL; rw [if_pos c1, hn]; rfl
    rw [e1] at hL
    have n5 : n < 10 ^ 5 := by omega
    have el : k + (yL y).length = k + 1 + 5 := by rw [e1, List.length_cons, Tx.padL_exact n 5 n5 (by omega)]
    rw [el]
    have HS := hide hL
    have K1 := hide (fun W hW => skip_any b s k 45 true W hW hs (Nx.yes hL) hk)
    have K2 := hide (fun W hW => number_pad b s (k + 1) n 5 W hW hs hL.tail n5 (by omega) (by omega))
    have hy : (y : Int) = -(n : Int) := by omega
    subst hy
    clear hL e1 el hn c1 hle
    go_enter Tryz.func111, Tryz.ntmps111
    go_wp2_with fail
    refine (K1.out _ h).mono ?_
    rintro e W1 ⟨rfl, hr1, hm1⟩
    go_wp2_with fail
    refine (K2.out _ hr1).mono ?_
    rintro e W2 ⟨rfl, hr2, hm2⟩
    go_wp2_with fail
    go_ret2
    exact ⟨rfl, hr2, hm1.trans hm2⟩
  · obtain ⟨n, rfl⟩ : ∃ n : Nat, y = (n : Int) := ⟨y.toNat, by omega⟩
    by_cases c2 : (9999 : Int) < n
    · have e1 : yL n = 43 :: Tx.padL n 5 := by unfold yL; rw [if_neg c1, if_pos c2]; rfl
      rw [e1] at hL
      have n5 : n < 10 ^ 5 := by omega
      have el : k + (yL n).length = k + 1 + 5 := by rw [e1, List.length_cons, Tx.padL_exact n 5 n5 (by omega)]
      rw [el]
      have K0 := hide (fun W hW => skip_any b s k 45 false W hW hs (Nx.no hL (by decide)) hk)
      have K1 := hide (fun W hW => skip_any b s k 43 true W hW hs (Nx.yes hL) hk)
      have K2 := hide (fun W hW => number_pad b s (k + 1) n 5 W hW hs hL.tail n5 (by omega) (by omega))
      clear hL e1 el c1 hle c2
      go_enter Tryz.func111, Tryz.ntmps111
      go_wp2_with fail
      refine (K0.out _ h).mono ?_
      rintro e W0 ⟨rfl, hr0, hm0⟩
      go_wp2_with fail
      refine (K1.out _ hr0).mono ?_
      rintro e W1 ⟨rfl, hr1, hm1⟩
      go_wp2_with fail
      refine (K2.out _ hr1).mono ?_
      rintro e W2 ⟨rfl, hr2, hm2⟩
      go_wp2_with fail
      go_ret2
      exact ⟨rfl, hr2, (hm0.trans hm1).trans hm2⟩
    · have e1 : yL n = Tx.padL n 4 := by unfold yL; rw [if_neg c1, if_neg c2]; rfl
      rw [e1] at hL
      have n5 : n < 10 ^ 4 := by omega
      have el : k + (yL n).length = k + 4 := by rw [e1, Tx.padL_exact n 4 n5 (by omega)]
      rw [el]
      have hne := pad_ne n 4 n5 (by omega)
      have K0 := hide (fun W hW => skip_any b s k 45 false W hW hs (Nx.dig hL hne (Tx.dig_pad n 4) (by omega)) hk)
      have K1 := hide (fun W hW => skip_any b s k 43 false W hW hs (Nx.dig hL hne (Tx.dig_pad n 4) (by omega)) hk)
      have K2 := hide (fun W hW => number_pad b s k n 4 W hW hs hL n5 (by omega) (by omega))
      clear hL e1 el c1 hle c2 hne
      go_enter Tryz.func111, Tryz.ntmps111
      go_wp2_with fail
      refine (K0.out _ h).mono ?_
      rintro e W0 ⟨rfl, hr0, hm0⟩
      go_wp2_with fail
      refine (K1.out _ hr0).mono ?_
      rintro e W1 ⟨rfl, hr1, hm1⟩
      go_wp2_with fail
      refine (K2.out _ hr1).mono ?_
      rintro e W2 ⟨rfl, hr2, hm2⟩
      go_wp2_with fail
      go_ret2
      exact ⟨rfl, hr2, (hm0.trans hm1).trans hm2⟩
set_option maxHeartbeats 1600000 in
theorem hourMin_any (b : Nat) (s : ByteArray) (k h m : Nat) (w : World) (hr : Rd b s k w) (hs : s.size ≤ 1000000000) (hL : Tx.Seg s k (Tx.padL h 2 ++ 58 :: Tx.padL m 2)) (hh : h < 100) (hm : m < 100) :
    Calls Tryz.prog 116 #[.pointer (some ⟨b, 0, none⟩), .bool true] w fun e w' => e = .returned (.tuple #[.int .i64 h, .int .i64 m, .nilIface]) ∧ Rd b s (k + 2 + 1 + 2) w' ∧ Mv b w w' := by
  have hle := hL.le
  have hk : k ≤ 1000000000 := by omega
  have hR := hL.right
  rw [Tx.padL_exact h 2 (by omega) (by omega)] at hR
  have K0 := hide (fun W hW => number_pad b s k h 2 W hW hs hL.left (by omega) (by omega) (by omega))
  have K1 := hide (fun W hW => wantIf_yes b s (k + 2) 58 W hW hs (Nx.yes hR) (by have := hR.le; simp at this; omega))
  have K2 := hide (fun W hW => number_pad b s (k + 2 + 1) m 2 W hW hs hR.tail (by omega) (by omega) (by omega))
  clear hL hR hle
  go_enter Tryz.func116, Tryz.ntmps116
  go_wp2_with fail
  refine (K0.out _ hr).mono ?_
  rintro e W0 ⟨rfl, hr0, hm0⟩
  go_wp2_with fail
  refine (K1.out _ hr0).mono ?_
  rintro e W1 ⟨rfl, hr1, hm1⟩
  go_wp2_with fail
  refine (K2.out _ hr1).mono ?_
  rintro e W2 ⟨rfl, hr2, hm2⟩
  go_wp2_with fail
  refine bodyPost_ret (v := .tuple #[.int .i64 h, .int .i64 m, .nilIface]) (by simp [results, Tryz.results116, go_sem]) rfl ⟨rfl, hr2, (hm0.trans hm1).trans hm2⟩
set_option maxHeartbeats 1600000 in
theorem dayOfMonth_any (b : Nat) (s : ByteArray) (k M D : Nat) (y v : Int) (w : World) (hr : Rd b s k w) (hs : s.size ≤ 1000000000) (hL : Tx.Seg s k (Tx.padL M 2 ++ 45 :: Tx.padL D 2)) (hh : M < 100) (hm : D < 100)
    (kd : ∀ W, Calls Tryz.prog 71 #[.agg #[.int .i64 1, .int .i64 y, .int .i64 M, .int .i64 D]] W fun e w' => e = .returned (.tuple #[.int .i64 v, .nilIface]) ∧ Below W.heap.size W w') :
    Calls Tryz.prog 115 #[.pointer (some ⟨b, 0, none⟩), .int .i64 y, .bool true] w fun e w' => e = .returned (.tuple #[.int .i64 v, .nilIface]) ∧ Rd b s (k + 2 + 1 + 2) w' ∧ Mv b w w' := by
  have hle := hL.le
  have hk : k ≤ 1000000000 := by omega
  have hR := hL.right
  rw [Tx.padL_exact M 2 (by omega) (by omega)] at hR
  have K0 := hide (fun W hW => number_pad b s k M 2 W hW hs hL.left (by omega) (by omega) (by omega))
  have K1 := hide (fun W hW => wantIf_yes b s (k + 2) 45 W hW hs (Nx.yes hR) (by have := hR.le; simp at this; omega))
  have K2 := hide (fun W hW => number_pad b s (k + 2 + 1) D 2 W hW hs hR.tail (by omega) (by omega) (by omega))
  have KD := hide kd
  clear hL hR hle kd
  go_enter Tryz.func115, Tryz.ntmps115
  go_wp2_with fail
  refine (K0.out _ hr).mono ?_
  rintro e W0 ⟨rfl, hr0, hm0⟩
  go_wp2_with fail
  refine (K1.out _ hr0).mono ?_
  rintro e W1 ⟨rfl, hr1, hm1⟩
  go_wp2_with fail
  refine (K2.out _ hr1).mono ?_
  rintro e W2 ⟨rfl, hr2, hm2⟩
  go_wp2_with fail
  refine (KD.out _).mono ?_
  rintro e W3 ⟨rfl, hb3⟩
  go_wp2_with fail
  go_ret2
  exact ⟨rfl, hr2.later hb3, ((hm0.trans hm1).trans hm2).trans (Mv.of_below hb3)⟩
theorem hasSec_yes (b : Nat) (s : ByteArray) (k : Nat) (w : World) (h : Rd b s k w) (hs : s.size ≤ 1000000000) (hn : Nx s k 58 true) (hk : k ≤ 1000000000) :
    Calls Tryz.prog 117 #[.pointer (some ⟨b, 0, none⟩), .bool true] w fun e w' => e = .returned (.bool true) ∧ Rd b s (k + 1) w' ∧ Mv b w w' := by
  have K := hide (skip_any b s k 58 true w h hs hn hk)
  clear h hn
  go_enter Tryz.func117, Tryz.ntmps117
  go_wp2_with fail
  refine K.out.mono ?_
  rintro e W ⟨rfl, hr, hm⟩
  go_wp2_with fail
  go_ret
  exact ⟨rfl, hr, hm⟩
end Go.Proofs.YtafaacliphdndaaGreatDoor
