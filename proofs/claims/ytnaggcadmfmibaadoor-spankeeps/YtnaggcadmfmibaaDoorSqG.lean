/- package span: start. -/
import Derived.Test.YtnaggcadmfmibaaDoorSqF
namespace Go.Proofs.YtnaggcadmfmibaaDoor
open Go.RowKit
set_option linter.unusedVariables false
set_option linter.unusedSimpArgs false

theorem Sta.set1 {B : Nat} {A : Nat → Nat → Nat} {C : Nat → Bool} {X : World} (h : Sta B A C X) (i j v : Nat) (hi : i < 6) (hj : j < 2) : Sta B (upd A i j v) C (X.setCell ⟨B, i * 2 + j, none⟩ (.int .u64 (v : Nat))) := by
  have e1 := heap_setCell_same X B (i * 2 + j) _ _ (.int .u64 (v : Nat)) h
  rw [stA_setw A C i j v hi hj] at e1
  exact e1
theorem Sta.at {B : Nat} {A : Nat → Nat → Nat} {C : Nat → Bool} {X : World} (h : Sta B A C X) (i j : Nat) (hi : i < 6) (hj : j < 2) : X.cell? ⟨B, i * 2 + j, none⟩ = some (.int .u64 (A i j : Nat)) ∧ X.frozen? ⟨B, i * 2 + j, none⟩ = false :=
  ⟨(cell_of_row _ _ _ _ _ (0, 0) h).trans (stA_w A C i j hi hj), frozen_of_row _ _ _ _ _ h⟩
/-- what start has marked so far -/
structure StI (M r m : Nat) (A : Nat → Nat → Nat) : Prop where
  lt : ∀ x j, A x j < 18446744073709551616
  bit : ∀ x b, b < 128 → mb (A x) b = decide ((x < r ∧ b < M) ∨ (x = r ∧ b < m))
theorem StI.row {M r : Nat} {A : Nat → Nat → Nat} (h : StI M r M A) : StI M (r + 1) 0 A :=
  ⟨h.lt, fun x b hb => by
    rw [h.bit x b hb, decide_eq_decide]
    omega⟩
theorem StI.hit {M r m : Nat} {A : Nat → Nat → Nat} (h : StI M r m A) (hm : m < 128) : StI M r (m + 1) (upd A r (m / 64) (A r (m / 64) ||| 2 ^ (m % 64))) := by
  refine ⟨fun x j => ?_, fun x b hb => ?_⟩
  · unfold upd
    split
    · have h1 : 2 ^ (m % 64) < 2 ^ 64 := Nat.pow_lt_pow_right (by omega) (Nat.mod_lt m (by omega))
      exact Nat.or_lt_two_pow (n := 64) (show A r (m / 64) < 2 ^ 64 from h.lt r (m / 64)) h1
    · exact h.lt x j
  · have hx0 := h.bit x b hb
    by_cases hxr : x = r
    · subst hxr
      have h2 : mb (upd A x (m / 64) (A x (m / 64) ||| 2 ^ (m % 64)) x) b = (mb (A x) b || decide (b = m)) := by
        unfold mb upd
        by_cases hw : b / 64 = m / 64
        · rw [if_pos ⟨rfl, hw⟩, Nat.testBit_or, Nat.testBit_two_pow, hw]
          congr 1
          rw [decide_eq_decide]
          omega
        · rw [if_neg (by omega)]
          have : decide (b = m) = false := by simp; omega
          rw [this, Bool.or_false]
      rw [h2, hx0, ← Bool.decide_or, decide_eq_decide]
      omega
    · have h2 : mb (upd A r (m / 64) (A r (m / 64) ||| 2 ^ (m % 64)) x) b = mb (A x) b := by
        unfold mb upd
        rw [if_neg (by omega)]
      rw [h2, hx0, decide_eq_decide]
      omega
set_option maxRecDepth 100000 in
set_option maxHeartbeats 8000000 in
theorem start_any (s n M : Nat) (N : Nat → Nat → Nat) (fr to : Nat → Nat) (w : World) (h1 : 1 ≤ n) (h6 : n ≤ 6) (hM : M ≤ 66) (h : SRC s n M N fr to w) :
    Calls Tryd.prog 18 #[.pointer (some ⟨s, 0, none⟩)] w fun e w' => ∃ A : Nat → Nat → Nat, e = .returned (.agg (stA A fF)) ∧ StI M n 0 A ∧ Below w.heap.size w w' := by
  have hb0 : Below w.heap.size w ((w.alloc (.cells (stA z2 fF) 63)).alloc (.cells (stA z2 fF) 63)) := ((Below.refl _ w).alloc (Nat.le_refl _) _).alloc (by simp) _
  have hz : Sta w.heap.size z2 fF ((w.alloc (.cells (stA z2 fF) 63)).alloc (.cells (stA z2 fF) 63)) :=
    (sta_new w z2 fF).step ((Below.refl _ _).alloc (Nat.le_refl _) _)
  have hs : Sta (w.heap.size + 1) z2 fF ((w.alloc (.cells (stA z2 fF) 63)).alloc (.cells (stA z2 fF) 63)) := by
    have := sta_new (w.alloc (.cells (stA z2 fF) 63)) z2 fF
    rw [show (w.alloc (.cells (stA z2 fF) 63)).heap.size = w.heap.size + 1 by simp] at this
    exact this
  have HR0 := hide (fun X (hb : Below w.heap.size w X) => h.step hb)
  have hsz := (h.step hb0).sz
  have HB0 := hide hb0
  have HS := hide hs
  have HZ := hide hz
  clear hb0 hs hz h
  have ez : stA z2 fF = #[.int .u64 0, .int .u64 0, .int .u64 0, .int .u64 0, .int .u64 0, .int .u64 0, .int .u64 0, .int .u64 0, .int .u64 0, .int .u64 0, .int .u64 0, .int .u64 0, .bool false, .bool false, .bool false, .bool false, .bool false, .bool false] := rfl
  rw [ez] at hsz
  have HEZ := hide ez
  clear ez
  go_enter Tryd.func18, Tryd.ntmps18
  go_wp2_with fail
  clear hsz
  generalize hW1 : World.alloc (World.alloc w _) _ = W1
  have hW1' : (w.alloc (.cells (stA z2 fF) 63)).alloc (.cells (stA z2 fF) 63) = W1 := by rw [HEZ.out]; exact hW1
  rw [hW1'] at HB0 HS HZ
  clear hW1 hW1' HEZ
  generalize hD : w.heap.size = D at *
  have HDE := hide hD
  clear hD
  go_loopw [10] (fun i wr => ∃ (r : Nat) (A : Nat → Nat → Nat), r ≤ n ∧ i = .int .i64 r ∧ Sta (D + 1) A fF wr ∧ StI M r 0 A ∧ Sta D z2 fF wr ∧ Below D w wr) (fun i _ => n - (intOf i).toNat)
  case atStart => exact ⟨0, z2, by omega, rfl, HS.out, ⟨fun _ _ => by unfold z2; omega, fun x b _ => by unfold mb z2; simp⟩, HZ.out, HB0.out⟩
  case round =>
    clear HS HZ HB0
    obtain ⟨r, A, hr, rfl, hs, hi, hz, hb⟩ := hrel
    have HS := hide hs
    have HI := hide hi
    have HZ := hide hz
    have HB := hide hb
    clear hs hi hz hb
    by_cases hrn : r < n
    · have hri : (r : Int) < n := by omega
      have hri6 : (r : Int) < 6 := by omega
      obtain ⟨g, cg, hsp, _⟩ := (HR0.out _ HB.out).sp
      go_wp2_with fail
      clear hsp
      go_loopw [18] (fun i wr => ∃ (m : Nat) (A : Nat → Nat → Nat), m ≤ M ∧ i = .int .i64 m ∧ Sta (D + 1) A fF wr ∧ StI M r m A ∧ Sta D z2 fF wr ∧ Below D w wr) (fun i _ => M - (intOf i).toNat)
      case atStart => exact ⟨0, A, by omega, rfl, HS.out, HI.out, HZ.out, HB.out⟩
      case round =>
        clear HS HI HZ HB
        obtain ⟨m, A, hm, rfl, hs, hi, hz, hb⟩ := hrel
        have HS := hide hs
        have HI := hide hi
        have HZ := hide hz
        have HB := hide hb
        by_cases hmt : m < M
        · have hmi : (m : Int) < M := by omega
          obtain ⟨hc, hf⟩ := hs.at r (m / 64) (by omega) (by omega)
          have KA := hide (madd_any (D + 1) (r * 2) (fun j => A r j) m wr (fun j => hi.lt r j) (by omega) hc hf)
          have HN := hide (hi.hit (by omega))
          have HS3 : Hid (Sta (D + 1) (upd A r (m / 64) (A r (m / 64) ||| 2 ^ (m % 64))) fF ((wr.setCell ⟨D + 1, r * 2 + m / 64, none⟩ (.int .u64 (A r (m / 64) ||| 2 ^ (m % 64) : Nat))).drew)) := hs.set1 r (m / 64) _ (by omega) (by omega)
          have HZ3 : Hid (Sta D z2 fF ((wr.setCell ⟨D + 1, r * 2 + m / 64, none⟩ (.int .u64 (A r (m / 64) ||| 2 ^ (m % 64) : Nat))).drew)) := by
            have h3 : Sta D z2 fF (wr.setCell ⟨D + 1, r * 2 + m / 64, none⟩ (.int .u64 (A r (m / 64) ||| 2 ^ (m % 64) : Nat))) := by
              unfold Sta
              rw [heap_setCell_other _ _ _ _ (by simp)]
              exact hz
            exact h3
          have HB3 := hide ((hb.setCell (p := ⟨D + 1, r * 2 + m / 64, none⟩) (by simp) (.int .u64 (A r (m / 64) ||| 2 ^ (m % 64) : Nat))).drew)
          clear hs hi hz hb hc hf
          go_wp2_with fail
          refine KA.out.mono ?_
          rintro e X2 ⟨rfl, rfl⟩
          go_wp2_with fail
          go_roundw
          case rel => exact ⟨m + 1, _, by omega, by go_num, HS3.out, HN.out, HZ3.out, HB3.out⟩
          case measure => simp [intOf]; omega
        · have hmn : m = M := by omega
          have hni : (M : Int) ≤ m := by omega
          rw [hmn] at hi
          have HIR := hide hi.row
          clear hs hi hz hb
          go_wp2_with fail
          go_roundw
          case rel => exact ⟨r + 1, A, by omega, by go_num, HS.out, HIR.out, HZ.out, HB.out⟩
          case measure => simp [intOf]; omega
    · have hrn : r = n := by omega
      have hni : (n : Int) ≤ r := by omega
      rw [hrn] at HI
      have HT := hide (sta_there HZ.out A fF)
      have hput := sta_put HZ.out A fF
      have HL := hide (sta_load hput)
      have HBE := hide (setCells_bel (b := D) (Nat.le_refl _) (stA A fF).toList 0 wr HB.out)
      have HWH := hide HS.out.whole
      clear hput
      go_wp2_with (first
        | (refine wpList_load_mid rfl 63 (.tmp 3) rfl (D + 1) 0 rfl (stA A fF).toList _ HWH.out Tryd.underlying63 rfl (by rw [Array.length_toList, stA_size]; exact infoState) ?_; rw [Array.toArray_toList])
        | (refine wpList_store_mid rfl 63 (.tmp 2) (.tmp 28) rfl D 0 (stA A fF) rfl rfl HT.out (infoState2 A fF) (stA_one A fF) ?_))
      refine bodyPost_ret (v := .agg (stA A fF)) ?_ rfl ⟨A, rfl, HI.out, by rw [HDE.out]; exact HBE.out⟩
      simp [results, Tryd.results18, Act.put, asAddr, Sem.run_bind, Result.andThen, HL.out]
end Go.Proofs.YtnaggcadmfmibaaDoor
