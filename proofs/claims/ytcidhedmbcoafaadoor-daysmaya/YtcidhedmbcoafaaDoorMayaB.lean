/- days.NextRound. -/
import Derived.Test.YtcidhedmbcoafaaDoorMayaA
namespace Go.Proofs.YtcidhedmbcoafaaDoor
open Go.RowKit Go.Shelf
set_option linter.unusedVariables false
set_option linter.unusedSimpArgs false

set_option maxRecDepth 100000 in
set_option maxHeartbeats 800000 in
theorem next_any (r0 r1 r2 r3 day : Int) (w : World) (d1 : -1856305 ≤ day) (d2 : day ≤ 4000000) (K : Nat) (hK : K ≤ 18980)
    (hlt : ∀ k : Nat, k < K → day + k ≤ 4000000)
    (hno : ∀ k : Nat, k < K → rq (day + 1856305 + k) r0 r1 r2 r3 = false) (v1 v2 : Value)
    (hend : (K = 18980 ∧ v1 = .int .i64 0 ∧ v2 = .iface 23 (.int .i64 12)) ∨ (K < 18980 ∧ 4000000 < day + K ∧ v1 = .int .i64 0 ∧ v2 = .iface 23 (.int .i64 4)) ∨ (K < 18980 ∧ day + K ≤ 4000000 ∧ rq (day + 1856305 + K) r0 r1 r2 r3 = true ∧ v1 = .int .i64 (day + K) ∧ v2 = .nilIface)) :
    Calls Tryd.prog 62 #[.agg #[.int .i64 r0, .int .i64 r1, .int .i64 r2, .int .i64 r3], .int .i64 day] w fun e w' => e = .returned (.tuple #[v1, v2]) ∧ Below w.heap.size w w' := by
  have HE := hide hend
  have HL := hide hlt
  have HN := hide hno
  clear hlt hno hend
  go_enter Tryd.func62, Tryd.ntmps62
  go_wp2_with (go_at_call 82; refine (count_ok day _ (by omega) d2).mono ?_; rintro e w' ⟨rfl, rfl⟩)
  go_loopw [18] (fun i wr => ∃ k : Nat, k ≤ K ∧ i = .int .i64 k ∧ Hid (Below (w.heap.size + 1) (w.alloc (.cells #[.int .i64 r0, .int .i64 r1, .int .i64 r2, .int .i64 r3] 46)) wr)) (fun i _ => (18980 - intOf i).toNat)
  case atStart => exact ⟨0, by omega, rfl, by rw [show w.heap.size + 1 = (w.alloc (.cells #[.int .i64 r0, .int .i64 r1, .int .i64 r2, .int .i64 r3] 46)).heap.size from by simp]; exact hide (Below.refl _ _)⟩
  case round =>
    obtain ⟨k, hk, rfl, hb⟩ := hrel
    have b0 : wr.cell? ⟨w.heap.size, 0, none⟩ = some (.int .i64 r0) := by rw [hb.out.cell (p := ⟨w.heap.size, 0, none⟩) (by simp)]; simp
    have b1 : wr.cell? ⟨w.heap.size, 1, none⟩ = some (.int .i64 r1) := by rw [hb.out.cell (p := ⟨w.heap.size, 1, none⟩) (by simp)]; simp
    have b2 : wr.cell? ⟨w.heap.size, 2, none⟩ = some (.int .i64 r2) := by rw [hb.out.cell (p := ⟨w.heap.size, 2, none⟩) (by simp)]; simp
    have b3 : wr.cell? ⟨w.heap.size, 3, none⟩ = some (.int .i64 r3) := by rw [hb.out.cell (p := ⟨w.heap.size, 3, none⟩) (by simp)]; simp
    have sz : w.heap.size < wr.heap.size := by have := hb.out.size; simp at this; omega
    by_cases hlt : k < K
    · have h4 := HL.out k hlt
      have hk2 : (k : Int) < 18980 := by omega
      go_wp2_with (go_at_call 72; refine (checkDay_ok _ _ (by omega) (by omega)).mono ?_; rintro e w' ⟨rfl, rfl⟩)
      have Hw := hide (show IntKind.i64.wrap (day + 1856305 + k) = day + 1856305 + k from by rw [IntKind.wrap_i64]; omega)
      obtain ⟨V, kr, hG, hB⟩ := name_calls (day + 1856305 + k) r0 r1 r2 r3 (by omega) (by omega)
      have KR := hide kr
      clear kr
      rw [HN.out k hlt] at hB
      go_region_with (go_at_call 83; refine (KR.out _ _ (by first | omega | (rw [Hw.out]; try omega))).mono ?_; rintro e w2 ⟨rfl, hb2⟩; have y0 := (hb2.cell (p := ⟨w.heap.size, 0, none⟩) (by simpa using sz)).trans (by simpa using b0); have y1 := (hb2.cell (p := ⟨w.heap.size, 1, none⟩) (by simpa using sz)).trans (by simpa using b1); have y2 := (hb2.cell (p := ⟨w.heap.size, 2, none⟩) (by simpa using sz)).trans (by simpa using b2); have y3 := (hb2.cell (p := ⟨w.heap.size, 3, none⟩) (by simpa using sz)).trans (by simpa using b3))
      all_goals
        have hbn : Below (w.heap.size + 1) (w.alloc (.cells #[.int .i64 r0, .int .i64 r1, .int .i64 r2, .int .i64 r3] 46)) w2 := (below_drewN hb.out _).trans (hb2.mono (by simp; omega))
        have HB := hide hbn
        clear hbn hb2
        go_wp2
        go_roundw
        case rel => exact ⟨k + 1, by omega, by simp, HB⟩
        case measure => simp [intOf]; omega
    · have hkK : k = K := by omega
      subst hkK
      rcases HE.out with ⟨he1, he2, he3⟩ | ⟨he1, he2, he3, he4⟩ | ⟨he1, he2, he3, he4, he5⟩
      · subst he2 he3
        go_wp2
        go_ret2
        exact ⟨rfl, ((Below.refl _ w).alloc (Nat.le_refl _) _).trans (hb.out.mono (by omega))⟩
      · subst he3 he4
        go_wp2_with (go_at_call 72; refine (checkDay_no _ _ (Or.inr he2)).mono ?_; rintro e w' ⟨rfl, rfl⟩)
        go_ret2
        exact ⟨rfl, ((Below.refl _ w).alloc (Nat.le_refl _) _).trans (hb.out.mono (by omega))⟩
      · subst he4 he5
        have hk2 : (k : Int) < 18980 := by omega
        go_wp2_with (go_at_call 72; refine (checkDay_ok _ _ (by omega) (by omega)).mono ?_; rintro e w' ⟨rfl, rfl⟩)
        have Hw := hide (show IntKind.i64.wrap (day + 1856305 + k) = day + 1856305 + k from by rw [IntKind.wrap_i64]; omega)
        obtain ⟨V, kr, hG, hB⟩ := name_calls (day + 1856305 + k) r0 r1 r2 r3 (by omega) (by omega)
        have KR := hide kr
        clear kr
        rw [he3] at hB
        go_region_with (go_at_call 83; refine (KR.out _ _ (by first | omega | (rw [Hw.out]; try omega))).mono ?_; rintro e w2 ⟨rfl, hb2⟩; have y0 := (hb2.cell (p := ⟨w.heap.size, 0, none⟩) (by simpa using sz)).trans (by simpa using b0); have y1 := (hb2.cell (p := ⟨w.heap.size, 1, none⟩) (by simpa using sz)).trans (by simpa using b1); have y2 := (hb2.cell (p := ⟨w.heap.size, 2, none⟩) (by simpa using sz)).trans (by simpa using b2); have y3 := (hb2.cell (p := ⟨w.heap.size, 3, none⟩) (by simpa using sz)).trans (by simpa using b3))
        all_goals
          have hbn : Below (w.heap.size + 1) (w.alloc (.cells #[.int .i64 r0, .int .i64 r1, .int .i64 r2, .int .i64 r3] 46)) w2 := (below_drewN hb.out _).trans (hb2.mono (by simp; omega))
          have HB := hide hbn
          clear hbn hb2
          go_wp2
          go_ret2
          exact ⟨rfl, ((Below.refl _ w).alloc (Nat.le_refl _) _).trans (HB.out.mono (by omega))⟩
end Go.Proofs.YtcidhedmbcoafaaDoor
