/- moments: Room. -/
import Derived.Test.YtabgoicholknoaaDoorMomI
namespace Go.Proofs.YtabgoicholknoaaDoor
open Go.RowKit Go.Shelf Go.Sort
set_option linter.unusedVariables false
set_option linter.unusedSimpArgs false

/-- there is so much room in a span from t on -/
def okR (t n : Int) (p : Int × Int) : Prop := max p.1 t < p.2 ∧ n ≤ p.2 - max p.1 t
/-- what Room tells: the first span with room, or none -/
def RoomR (L : List (Int × Int)) (t n x k : Int) : Prop :=
  (k = 0 ∧ ∃ j, j < L.length ∧ x = max (L.getD j (0, 0)).1 t ∧ okR t n (L.getD j (0, 0)) ∧ ∀ i, i < j → ¬ okR t n (L.getD i (0, 0))) ∨ (k = 12 ∧ x = 0 ∧ ∀ i, i < L.length → ¬ okR t n (L.getD i (0, 0)))
set_option maxHeartbeats 4000000 in
theorem room_any (L : List (Int × Int)) (hL : InvL L) (hlen : L.length ≤ 1000000) (g c : Nat) (hc : L.length ≤ c) (t n : Int) (hn : 1 ≤ n) (w : World) (hg : g < w.heap.size) (hA : At2 w g L) :
    Calls Tryd.prog 55 #[.agg #[.slice (some ⟨g, 0, none⟩) L.length c], .int .i64 t, .int .i64 n] w fun e w' => ((∃ x, e = .returned (.tuple #[.int .i64 x, .nilIface]) ∧ RoomR L t n x 0) ∨ (e = .returned (.tuple #[.int .i64 0, .iface 36 (.int .i64 12)]) ∧ RoomR L t n 0 12)) ∧ Below w.heap.size w w' := by
  have hn1 : ¬ n < 1 := by omega
  have hb1 : Below w.heap.size w (w.alloc (.cells #[.slice (some ⟨g, 0, none⟩) L.length c] 30)) := (Below.refl _ w).alloc (Nat.le_refl _) _
  have HN := hide (notAhead_any L hL hlen g c hc t _ (Nat.lt_of_lt_of_le hg hb1.size) (hA.below hg hb1))
  have HB := hide hb1
  have HA := hide hA
  clear hA hb1
  go_enter Tryd.func55, Tryd.ntmps55
  go_wp2_with (go_at_call 65; refine HN.out.mono ?_; rintro e w1 ⟨k, hk, hlo, hhi, ⟨o, ho, rfl⟩, hb2⟩; have hB2 := HB.out.trans (hb2.mono (by simp)))
  have HI := hide hlo
  have HH := hide hhi
  clear HN hlo hhi HB hb2
  go_loopw [18] (fun i wr => ∃ m : Nat, m ≤ L.length - k ∧ i = .int .i64 m ∧ (∀ j, k ≤ j → j < k + m → ¬ okR t n (L.getD j (0, 0))) ∧ Below w.heap.size w wr) (fun i _ => (L.length - k) - (intOf i).toNat)
  case atStart => exact ⟨0, by omega, rfl, fun j h1 h2 => by omega, hB2⟩
  case round =>
    obtain ⟨m, hm, rfl, hno, hB⟩ := hrel
    by_cases hlt : m < L.length - k
    · have hmi : (m : Int) < ((L.length - k : Nat) : Int) := by omega
      obtain rfl : o = k * 2 := ho (by omega)
      have hx := (HA.out.below hg hB) (k + m) (by omega)
      rw [show (k + m) * 2 = k * 2 + m * 2 by omega] at hx
      obtain ⟨hx0, hx1⟩ := hx
      have hbd := invL_at hL (k + m) (by omega)
      have hgt := HH.out (k + m) (by omega) (by omega)
      have HBD := hide hbd
      have HJ := hide (show ∀ i, i < k + m → ¬ okR t n (L.getD i (0, 0)) from fun i hi => by
        rcases Nat.lt_or_ge i k with h | h
        · have h5 := HI.out i h
          unfold okR
          omega
        · exact hno i h hi)
      have hxe : Hid (L.getD (k + m) (0, 0) = L.getD (k + m) (0, 0)) := hide rfl
      generalize hy : L.getD (k + m) (0, 0) = x at hx0 hx1 HBD hgt hbd
      clear hno hxe
      by_cases hmx : t ≤ x.1
      · have hw1 : wrap64 (x.2 - x.1) = x.2 - x.1 := by rw [wrap64_id] <;> omega
        by_cases hroom : n ≤ x.2 - x.1
        · go_wp2
          go_ret2
          refine ⟨.inl ⟨_, rfl, .inl ⟨rfl, k + m, by omega, ?_, ?_, HJ.out⟩⟩, hB.trans (((Below.refl _ wr).alloc (Nat.le_refl _) _).mono hB.size)⟩
          · rw [hy]; (try omega)
          · rw [hy]; unfold okR; have := HBD.out; omega
        · go_wp2
          go_roundw
          case rel => exact ⟨m + 1, by omega, by go_num, fun j h1 h2 => by
            rcases Nat.lt_or_ge j (k + m) with h | h
            · exact HJ.out j h
            · obtain rfl : j = k + m := by omega
              rw [hy]; unfold okR; omega, hB.trans (((Below.refl _ wr).alloc (Nat.le_refl _) _).mono hB.size)⟩
          case measure => simp [intOf]; omega
      · have hw1 : wrap64 (x.2 - t) = x.2 - t := by rw [wrap64_id] <;> omega
        by_cases hroom : n ≤ x.2 - t
        · go_wp2
          go_ret2
          refine ⟨.inl ⟨_, rfl, .inl ⟨rfl, k + m, by omega, ?_, ?_, HJ.out⟩⟩, hB.trans (((Below.refl _ wr).alloc (Nat.le_refl _) _).mono hB.size)⟩
          · rw [hy]; (try omega)
          · rw [hy]; unfold okR; have := HBD.out; omega
        · go_wp2
          go_roundw
          case rel => exact ⟨m + 1, by omega, by go_num, fun j h1 h2 => by
            rcases Nat.lt_or_ge j (k + m) with h | h
            · exact HJ.out j h
            · obtain rfl : j = k + m := by omega
              rw [hy]; unfold okR; omega, hB.trans (((Below.refl _ wr).alloc (Nat.le_refl _) _).mono hB.size)⟩
          case measure => simp [intOf]; omega
    · have hmi : ¬ (m : Int) < ((L.length - k : Nat) : Int) := by omega
      go_wp2
      go_ret2
      refine ⟨.inr ⟨rfl, .inr ⟨rfl, rfl, fun i hi => ?_⟩⟩, hB⟩
      rcases Nat.lt_or_ge i k with h | h
      · have h5 := HI.out i h
        unfold okR
        omega
      · exact hno i h (by omega)
end Go.Proofs.YtabgoicholknoaaDoor
