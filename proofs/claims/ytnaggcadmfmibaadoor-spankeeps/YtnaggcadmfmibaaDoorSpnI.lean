/- The reference's join of sets; SpanWays. -/
import Derived.Test.YtnaggcadmfmibaaDoorSpnF
import Derived.Test.YtnaggcadmfmibaaDoorSpnG
import Derived.Test.YtnaggcadmfmibaaDoorSpnH
namespace Go.Proofs.YtnaggcadmfmibaaDoor
open Go.RowKit
set_option linter.unusedVariables false
set_option linter.unusedSimpArgs false

set_option maxRecDepth 100000 in
set_option maxHeartbeats 8000000 in
theorem rjoin_any (p q : Int) (w : World) : Calls Tryd.prog 24 #[.agg (tabA Spn.fol), .int .i64 p, .int .i64 q] w fun e w' => e = .returned (.int .i64 (joinN p q : Nat)) ∧ Below w.heap.size w w' := by
  have hsz := tabA_size Spn.fol
  have hrow := heap_alloc_last w (.cells (tabA Spn.fol) 76)
  have HC : Hid (∀ i k : Nat, i < 13 → k < 13 → (w.alloc (.cells (tabA Spn.fol) 76)).cell? ⟨w.heap.size, i * 13 + k, none⟩ = some (.int .i64 (Spn.fol i k : Nat))) := fun i k hi hk => (row_at hrow i k hi hk).1
  have HB := hide (show Below w.heap.size w (w.alloc (.cells (tabA Spn.fol) 76)) from (Below.refl _ w).alloc (Nat.le_refl _) _)
  generalize tabA Spn.fol = T at *
  clear hrow
  go_enter Tryd.func24, Tryd.ntmps24
  go_wp2_with fail
  generalize w.alloc (.cells T 76) = W0 at *
  go_loop [7, 8] (fun s i => ∃ n : Nat, n ≤ 13 ∧ i = .int .i64 n ∧ s = .int .i64 (joinOut p q n : Nat)) (fun _ i => 13 - (intOf i).toNat)
  case atStart => exact ⟨0, by omega, rfl, rfl⟩
  case round =>
    obtain ⟨n, hn, rfl, rfl⟩ := hrel
    have hl := joinOut_lt p q n hn
    by_cases hlt : n < 13
    · have hlti : (n : Int) < 13 := by omega
      go_wp2_with fail
      go_loop [7, 9] (fun s k => ∃ m : Nat, m ≤ 13 ∧ k = .int .i64 m ∧ s = .int .i64 (joinIn p q n m (joinOut p q n) : Nat)) (fun _ k => 13 - (intOf k).toNat)
      case atStart => exact ⟨0, by omega, rfl, rfl⟩
      case round =>
        obtain ⟨m, hm, rfl, rfl⟩ := hrel
        have hl2 := joinIn_lt p q n hlt m _ hm hl
        by_cases hmt : m < 13
        · have hmti : (m : Int) < 13 := by omega
          have g := HC.out n m hlt hmt
          have hfl := Spn.fol_lt n m hlt hmt
          have HO := hide (i64_or_nat (joinIn p q n m (joinOut p q n)) (Spn.fol n m) (by omega) (by omega))
          have HA := hide (fun W => in_any p n W (by omega))
          have HB2 := hide (fun W => in_any q m W (by omega))
          obtain ⟨x, hx⟩ : ∃ x, hasB p n = x := ⟨_, rfl⟩
          obtain ⟨y, hy⟩ : ∃ y, hasB q m = y := ⟨_, rfl⟩
          have HJ : Hid (joinIn p q n (m + 1) (joinOut p q n) = if x && y then joinIn p q n m (joinOut p q n) ||| Spn.fol n m else joinIn p q n m (joinOut p q n)) := by
            rw [← hx, ← hy]; rfl
          rw [hx] at HA
          rw [hy] at HB2
          clear hx hy
          go_wp2_with fail
          refine (HA.out _).mono ?_
          rintro e W' ⟨rfl, rfl⟩
          cases x
          · go_wp2
            go_round
            case rel => exact ⟨m + 1, by omega, by go_num, by rw [HJ.out]; rfl⟩
            case measure => simp [intOf]; omega
          · go_wp2_with fail
            refine (HB2.out _).mono ?_
            rintro e W' ⟨rfl, rfl⟩
            cases y
            · go_wp2
              go_round
              case rel => exact ⟨m + 1, by omega, by go_num, by rw [HJ.out]; rfl⟩
              case measure => simp [intOf]; omega
            · go_wp2
              go_round
              case rel => exact ⟨m + 1, by omega, by go_num, by rw [HJ.out, HO.out]; rfl⟩
              case measure => simp [intOf]; omega
        · have h13 : m = 13 := by omega
          have hmi : 13 ≤ (m : Int) := by omega
          rw [h13]
          go_wp2
          go_round
          case rel => exact ⟨n + 1, by omega, by go_num, rfl⟩
          case measure => simp [intOf]; omega
    · have h13 : n = 13 := by omega
      go_wp2
      go_ret
      subst h13
      exact ⟨rfl, HB.out⟩
/-- what both joins tell -/
def jnR (p q : Int) : Int := if (0 ≤ p ∧ p ≤ 8191) ∧ (0 ≤ q ∧ q ≤ 8191) then (joinN p q : Nat) else 0
def jnE (p q : Int) : Int := if (0 ≤ p ∧ p ≤ 8191) ∧ (0 ≤ q ∧ q ≤ 8191) then 0 else 1
/-- two boxes of the law's spans, and what was -/
def E2 (a b c d : Int) (w X : World) : Prop :=
  ((X.cell? ⟨w.heap.size, 0, none⟩ = some (.int .i64 a) ∧ X.cell? ⟨w.heap.size, 1, none⟩ = some (.int .i64 b)) ∧ (X.cell? ⟨w.heap.size + 1, 0, none⟩ = some (.int .i64 c) ∧ X.cell? ⟨w.heap.size + 1, 1, none⟩ = some (.int .i64 d))) ∧ w.heap.size + 1 < X.heap.size ∧ Below w.heap.size w X
theorem E2.step {a b c d : Int} {w X X' : World} (h : E2 a b c d w X) (hb : Below X.heap.size X X') : E2 a b c d w X' := by
  obtain ⟨⟨⟨a0, a1⟩, ⟨b0, b1⟩⟩, hl, hB⟩ := h
  have g : ∀ k j, k ≤ w.heap.size + 1 → X'.cell? ⟨k, j, none⟩ = X.cell? ⟨k, j, none⟩ := fun k j hk => hb.cell (p := ⟨k, j, none⟩) (show k < X.heap.size by omega)
  exact ⟨⟨⟨(g _ _ (by omega)).trans a0, (g _ _ (by omega)).trans a1⟩, ⟨(g _ _ (by omega)).trans b0, (g _ _ (by omega)).trans b1⟩⟩, Nat.lt_of_lt_of_le hl hb.size, hB.trans (hb.mono hB.size)⟩
end Go.Proofs.YtnaggcadmfmibaaDoor
