/- The reference: the Maya. -/
import Derived.Test.YtcidhedmbcoafaaDoorMayaD
import Derived.Test.YtcidhedmbcoafaaDoorRefB
namespace Go.Proofs.YtcidhedmbcoafaaDoor
open Go.RowKit Go.Shelf
set_option linter.unusedVariables false
set_option linter.unusedSimpArgs false

set_option maxRecDepth 100000 in
set_option maxHeartbeats 1600000 in
theorem rmaya_ok (day : Int) (w : World) (d1 : -1856305 ≤ day) (d2 : day ≤ 4000000) :
    Calls Tryd.prog 35 #[.int .i64 day] w fun e w' => e = .returned (.tuple #[mname (day + 1856305), .int .i64 0]) ∧ Below w.heap.size w w' := by
  obtain ⟨n, hn⟩ : ∃ n : Int, n = day + 1856305 := ⟨_, rfl⟩
  obtain rfl : day = n - 1856305 := by omega
  have n1 : 0 ≤ n := by omega
  have n2 : n ≤ 5856305 := by omega
  have e : n - 1856305 + 1856305 = n := by omega
  rw [e]
  clear e hn
  go_enter Tryd.func35, Tryd.ntmps35
  go_wp2
  refine bodyPost_ret (v := .tuple #[mname n, .int .i64 0]) (by simp [results, Tryd.results35, go_sem, mname]) rfl ⟨rfl, ?_⟩
  exact (Below.refl _ w).alloc (Nat.le_refl _) _
set_option maxRecDepth 100000 in
set_option maxHeartbeats 1600000 in
theorem rmaya_no (day : Int) (w : World) (h : day < -1856305 ∨ 4000000 < day) :
    Calls Tryd.prog 35 #[.int .i64 day] w fun e w' => e = .returned (.tuple #[.agg #[.int .i64 0, .int .i64 0, .int .i64 0, .int .i64 0, .int .i64 0, .int .i64 0, .int .i64 0, .int .i64 0, .int .i64 0], .int .i64 4]) ∧ Below w.heap.size w w' := by
  have hh : day < -1856305 ∨ (-1856305 ≤ day ∧ 4000000 < day) := by omega
  clear h
  rcases hh with h | ⟨h0, h⟩
  all_goals
    go_enter Tryd.func35, Tryd.ntmps35
    go_wp2
    refine bodyPost_ret (v := .tuple #[.agg #[.int .i64 0, .int .i64 0, .int .i64 0, .int .i64 0, .int .i64 0, .int .i64 0, .int .i64 0, .int .i64 0, .int .i64 0], .int .i64 4]) (by simp [results, Tryd.results35, go_sem]) rfl ⟨rfl, ?_⟩
    exact (Below.refl _ w).alloc (Nat.le_refl _) _
/-- the name of the n-th day's round, in letters -/
theorem rname_calls (n r0 r1 r2 r3 : Int) (n1 : 0 ≤ n) (n2 : n ≤ 5856305) : ∃ v0 v1 v2 v3 v4 h0 h1 h2 h3 : Int,
    (∀ x w, x = n - 1856305 → Calls Tryd.prog 35 #[.int .i64 x] w fun e w' => e = .returned (.tuple #[.agg #[.int .i64 v0, .int .i64 v1, .int .i64 v2, .int .i64 v3, .int .i64 v4, .int .i64 h0, .int .i64 h1, .int .i64 h2, .int .i64 h3], .int .i64 0]) ∧ Below w.heap.size w w') ∧
    (∀ W, Sem.run Tryd.prog (binOp BinOp.eql 46 (.agg #[.int .i64 h0, .int .i64 h1, .int .i64 h2, .int .i64 h3]) (.agg #[.int .i64 r0, .int .i64 r1, .int .i64 r2, .int .i64 r3])) W = .ok (.bool (rq n r0 r1 r2 r3)) W) := by
  refine ⟨n / 144000, n / 7200 % 20, n / 360 % 20, n / 20 % 18, n % 20, 1 + (n + 348) % 365 / 20, (n + 348) % 365 % 20, 1 + (n + 3) % 13, 1 + (n + 19) % 20, fun x w hx => ?_, fun W => req_bin (1 + (n + 348) % 365 / 20) ((n + 348) % 365 % 20) (1 + (n + 3) % 13) (1 + (n + 19) % 20) r0 r1 r2 r3 W⟩
  subst hx
  have := rmaya_ok (n - 1856305) w (by omega) (by omega)
  rw [show n - 1856305 + 1856305 = n from by omega] at this
  exact this

set_option maxRecDepth 100000 in
set_option maxHeartbeats 3200000 in
theorem rnext_any (r0 r1 r2 r3 day : Int) (w : World) (d1 : -1856305 ≤ day) (d2 : day ≤ 4000000) (K : Nat) (hK : K ≤ 18980)
    (hlt : ∀ k : Nat, k < K → day + k ≤ 4000000)
    (hno : ∀ k : Nat, k < K → rq (day + 1856305 + k) r0 r1 r2 r3 = false) (v1 v2 : Int)
    (hend : (K = 18980 ∧ v1 = 0 ∧ v2 = 12) ∨ (K < 18980 ∧ 4000000 < day + K ∧ v1 = 0 ∧ v2 = 4) ∨ (K < 18980 ∧ day + K ≤ 4000000 ∧ rq (day + 1856305 + K) r0 r1 r2 r3 = true ∧ v1 = day + K ∧ v2 = 0)) :
    Calls Tryd.prog 37 #[.agg #[.int .i64 r0, .int .i64 r1, .int .i64 r2, .int .i64 r3], .int .i64 day] w fun e w' => e = .returned (.tuple #[.int .i64 v1, .int .i64 v2]) ∧ Below w.heap.size w w' := by
  have HE := hide hend
  have HL := hide hlt
  have HN := hide hno
  have K0 := hide (fun W => rmaya_ok day W d1 d2)
  unfold mname at K0
  clear hlt hno hend
  go_enter Tryd.func37, Tryd.ntmps37
  go_wp2_with fail
  refine (K0.out _).mono ?_
  rintro e W ⟨rfl, hb0⟩
  have hB0 := hide (hb0.alloc hb0.size (.cells #[.int .i64 ((day + 1856305) / 144000), .int .i64 ((day + 1856305) / 7200 % 20), .int .i64 ((day + 1856305) / 360 % 20), .int .i64 ((day + 1856305) / 20 % 18), .int .i64 ((day + 1856305) % 20), .int .i64 (1 + (day + 1856305 + 348) % 365 / 20), .int .i64 ((day + 1856305 + 348) % 365 % 20), .int .i64 (1 + (day + 1856305 + 3) % 13), .int .i64 (1 + (day + 1856305 + 19) % 20)] 48))
  clear hb0 K0
  go_wp2_with fail
  go_loopw [8] (fun i wr => ∃ k : Nat, k ≤ K ∧ i = .int .i64 k ∧ Hid (Below (w.alloc (.cells #[.int .i64 r0, .int .i64 r1, .int .i64 r2, .int .i64 r3] 46)).heap.size (w.alloc (.cells #[.int .i64 r0, .int .i64 r1, .int .i64 r2, .int .i64 r3] 46)) wr)) (fun i _ => (18980 - intOf i).toNat)
  case atStart => exact ⟨0, by omega, rfl, hB0⟩
  case round =>
    obtain ⟨k, hk, rfl, hb⟩ := hrel
    have sz : w.heap.size < wr.heap.size := by have := hb.out.size; simp at this; omega
    have b0 : wr.cell? ⟨w.heap.size, 0, none⟩ = some (.int .i64 r0) := by rw [hb.out.cell (p := ⟨w.heap.size, 0, none⟩) (by simp)]; simp
    have b1 : wr.cell? ⟨w.heap.size, 1, none⟩ = some (.int .i64 r1) := by rw [hb.out.cell (p := ⟨w.heap.size, 1, none⟩) (by simp)]; simp
    have b2 : wr.cell? ⟨w.heap.size, 2, none⟩ = some (.int .i64 r2) := by rw [hb.out.cell (p := ⟨w.heap.size, 2, none⟩) (by simp)]; simp
    have b3 : wr.cell? ⟨w.heap.size, 3, none⟩ = some (.int .i64 r3) := by rw [hb.out.cell (p := ⟨w.heap.size, 3, none⟩) (by simp)]; simp
    by_cases hlt : k < K
    · have h4 := HL.out k hlt
      have hk2 : (k : Int) < 18980 := by omega
      obtain ⟨u0, u1, u2, u3, u4, x0, x1, x2, x3, kr, hB⟩ := rname_calls (day + 1856305 + k) r0 r1 r2 r3 (by omega) (by omega)
      have KR := hide kr
      clear kr
      rw [HN.out k hlt] at hB
      go_wp2_with fail
      refine (KR.out _ _ (by omega)).mono ?_
      rintro e W2 ⟨rfl, hb2⟩
      have y0 := (hb2.cell (p := ⟨w.heap.size, 0, none⟩) sz).trans b0
      have y1 := (hb2.cell (p := ⟨w.heap.size, 1, none⟩) sz).trans b1
      have y2 := (hb2.cell (p := ⟨w.heap.size, 2, none⟩) sz).trans b2
      have y3 := (hb2.cell (p := ⟨w.heap.size, 3, none⟩) sz).trans b3
      have sz2 : w.heap.size < W2.heap.size := by have := hb2.size; omega
      have HB := hide ((hb.out.trans (hb2.mono hb.out.size)).alloc (by simp; omega) (.cells #[.int .i64 u0, .int .i64 u1, .int .i64 u2, .int .i64 u3, .int .i64 u4, .int .i64 x0, .int .i64 x1, .int .i64 x2, .int .i64 x3] 48))
      clear hb2 b0 b1 b2 b3 KR hb
      go_wp2
      go_roundw
      case rel => exact ⟨k + 1, by omega, by simp, HB⟩
      case measure => simp [intOf]; omega
    · have hkK : k = K := by omega
      subst hkK
      rcases HE.out with ⟨he1, he2, he3⟩ | ⟨he1, he2, he3, he4⟩ | ⟨he1, he2, he3, he4, he5⟩
      · subst he2 he3
        go_wp2
        go_ret2
        exact ⟨rfl, ((Below.refl _ w).alloc (Nat.le_refl _) _).trans (hb.out.mono (by simp))⟩
      · subst he3 he4
        have KN := hide (fun W => rmaya_no (day + k) W (.inr he2))
        have hk2 : (k : Int) < 18980 := by omega
        go_wp2_with fail
        refine (KN.out _).mono ?_
        rintro e W2 ⟨rfl, hb2⟩
        have HB := (((Below.refl _ w).alloc (Nat.le_refl _) _).trans (hb.out.mono (by simp))).trans (hb2.mono (Nat.le_of_lt sz))
        clear hb2 b0 b1 b2 b3 KN hb
        go_wp2
        go_ret2
        exact ⟨rfl, HB.alloc HB.size _⟩
      · subst he4 he5
        have hk2 : (k : Int) < 18980 := by omega
        obtain ⟨u0, u1, u2, u3, u4, x0, x1, x2, x3, kr, hB⟩ := rname_calls (day + 1856305 + k) r0 r1 r2 r3 (by omega) (by omega)
        have KR := hide kr
        clear kr
        rw [he3] at hB
        go_wp2_with fail
        refine (KR.out _ _ (by omega)).mono ?_
        rintro e W2 ⟨rfl, hb2⟩
        have y0 := (hb2.cell (p := ⟨w.heap.size, 0, none⟩) sz).trans b0
        have y1 := (hb2.cell (p := ⟨w.heap.size, 1, none⟩) sz).trans b1
        have y2 := (hb2.cell (p := ⟨w.heap.size, 2, none⟩) sz).trans b2
        have y3 := (hb2.cell (p := ⟨w.heap.size, 3, none⟩) sz).trans b3
        have sz2 : w.heap.size < W2.heap.size := by have := hb2.size; omega
        have HB := (((Below.refl _ w).alloc (Nat.le_refl _) _).trans (hb.out.mono (by simp))).trans (hb2.mono (Nat.le_of_lt sz))
        clear hb2 b0 b1 b2 b3 KR hb he3
        go_wp2
        go_ret2
        exact ⟨rfl, HB.alloc HB.size _⟩
theorem rnext_out (r0 r1 r2 r3 day : Int) (w : World) (h : day < -1856305 ∨ 4000000 < day) :
    Calls Tryd.prog 37 #[.agg #[.int .i64 r0, .int .i64 r1, .int .i64 r2, .int .i64 r3], .int .i64 day] w fun e w' => e = .returned (.tuple #[.int .i64 0, .int .i64 4]) ∧ Below w.heap.size w w' := by
  have K0 := hide (fun W => rmaya_no day W h)
  clear h
  go_enter Tryd.func37, Tryd.ntmps37
  go_wp2_with fail
  refine (K0.out _).mono ?_
  rintro e W ⟨rfl, hb0⟩
  have HB := ((Below.refl _ w).alloc (Nat.le_refl _) _).trans (hb0.mono (by simp))
  clear hb0 K0
  go_wp2
  go_ret2
  exact ⟨rfl, HB.alloc HB.size _⟩
end Go.Proofs.YtcidhedmbcoafaaDoor
