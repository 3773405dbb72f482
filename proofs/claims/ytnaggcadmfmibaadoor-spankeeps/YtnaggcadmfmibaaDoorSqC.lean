/- package span: choose. -/
import Derived.Test.YtnaggcadmfmibaaDoorSqB
import Derived.Deep.WholeRow
namespace Go.Proofs.YtnaggcadmfmibaaDoor
open Go.RowKit
set_option linter.unusedVariables false
set_option linter.unusedSimpArgs false

theorem sta_there {E : Nat} {A : Nat → Nat → Nat} {C : Nat → Bool} {X : World} (h : Sta E A C X) (A' : Nat → Nat → Nat) (C' : Nat → Bool) : X.there E 0 (stA A' C').size := fun j hj => by
  rw [Nat.zero_add, cell_of_row _ _ _ _ _ (0, 0) h]
  exact ⟨by rw [Array.getElem?_eq_getElem (by rw [stA_size]; rw [stA_size] at hj; exact hj)]; rfl, frozen_of_row _ _ _ _ _ h⟩
theorem sta_put {E : Nat} {A : Nat → Nat → Nat} {C : Nat → Bool} {X : World} (h : Sta E A C X) (A' : Nat → Nat → Nat) (C' : Nat → Bool) : Sta E A' C' (X.setCells E 0 (stA A' C').toList) :=
  setCells_whole h (by rw [stA_size, stA_size])
theorem sta_load {E : Nat} {A : Nat → Nat → Nat} {C : Nat → Bool} {X : World} (h : Sta E A C X) : Sem.run Tryd.prog (loadVar 63 ⟨E, 0, none⟩) X = .ok (.agg (stA A C)) X := by
  have := run_loadVar_mid (P := Tryd.prog) X E 0 63 (stA A C).toList _ h.whole Tryd.underlying63 rfl (by rw [Array.length_toList, stA_size]; exact infoState)
  rw [Array.toArray_toList] at this
  exact this
theorem Sta.set2 {B : Nat} {A : Nat → Nat → Nat} {C : Nat → Bool} {X : World} (h : Sta B A C X) (i v0 v1 : Nat) (hi : i < 6) :
    Sta B (upd (upd A i 0 v0) i 1 v1) C ((X.setCell ⟨B, i * 2, none⟩ (.int .u64 (v0 : Nat))).setCell ⟨B, i * 2 + 1, none⟩ (.int .u64 (v1 : Nat))) := by
  have e1 := heap_setCell_same X B (i * 2) _ _ (.int .u64 (v0 : Nat)) h
  have e0 := stA_setw A C i 0 v0 hi (by omega)
  rw [Nat.add_zero] at e0
  rw [e0] at e1
  have e2 := heap_setCell_same _ B (i * 2 + 1) _ _ (.int .u64 (v1 : Nat)) e1
  rw [stA_setw _ C i 1 v1 hi (by omega)] at e2
  exact e2
theorem infoState2 (A : Nat → Nat → Nat) (C : Nat → Bool) : (Tryd.prog.info? 63).map (·.size) = some (stA A C).size := by rw [stA_size]; exact infoState
def fF : Nat → Bool := fun _ => false
/-- what choose leaves of what may be, the first r done -/
structure ChS (M : Nat) (N : Nat → Nat → Nat) (fr to : Nat → Nat) (A : Nat → Nat → Nat) (C : Nat → Bool) (i a r : Nat) (A' : Nat → Nat → Nat) : Prop where
  lt : ∀ k j, A' k j < 18446744073709551616
  rest : ∀ k j, r ≤ k → A' k j = A k j
  done : ∀ k b, k < r → b < 128 → mb (A' k) b = chM (RS N fr to) C (fun k => mb (A k)) i a k b
theorem ChS.keep {M : Nat} {N : Nat → Nat → Nat} {fr to : Nat → Nat} {A : Nat → Nat → Nat} {C : Nat → Bool} {i a r : Nat} {A' : Nat → Nat → Nat} (h : ChS M N fr to A C i a r A') (hc : chC C i r = true) : ChS M N fr to A C i a (r + 1) A' :=
  ⟨h.lt, fun k j hk => h.rest k j (by omega), fun k b hk hb => by
    rcases Nat.lt_or_ge k r with hl | hl
    · exact h.done k b hl hb
    · have : k = r := by omega
      subst this
      unfold chM
      rw [if_pos hc]
      unfold mb
      rw [h.rest k _ (Nat.le_refl _)]⟩
theorem ChS.next {M : Nat} {N : Nat → Nat → Nat} {fr to : Nat → Nat} {A : Nat → Nat → Nat} {C : Nat → Bool} {i a r : Nat} {A' : Nat → Nat → Nat} {L : Nat → Nat} (h : ChS M N fr to A C i a r A') (hc : chC C i r = false)
    (hm : ∀ b, b < 128 → mb (A r) b = true → b < M) (hL : ∀ j, L j < 18446744073709551616) (hl : ∀ b, b < 128 → mb L b = (decide (b < M) && RS N fr to i r a b)) :
    ChS M N fr to A C i a (r + 1) (upd (upd A' r 0 (A' r 0 &&& L 0)) r 1 (A' r 1 &&& L 1)) := by
  have e0 : ∀ j, j < 2 → upd (upd A' r 0 (A' r 0 &&& L 0)) r 1 (A' r 1 &&& L 1) r j = A' r j &&& L j := fun j hj => by
    have : j = 0 ∨ j = 1 := by omega
    rcases this with rfl | rfl <;> simp [upd]
  have e1 : ∀ k j, (k ≠ r ∨ 2 ≤ j) → upd (upd A' r 0 (A' r 0 &&& L 0)) r 1 (A' r 1 &&& L 1) k j = A' k j := fun k j hk => by
    unfold upd
    rw [if_neg (by omega), if_neg (by omega)]
  refine ⟨fun k j => ?_, fun k j hk => ?_, fun k b hk hb => ?_⟩
  · by_cases hx : k = r ∧ j < 2
    · obtain ⟨rfl, hj⟩ := hx
      rw [e0 j hj]
      exact Nat.lt_of_le_of_lt Nat.and_le_left (h.lt k j)
    · rw [e1 k j (by omega)]; exact h.lt k j
  · rw [e1 k j (by omega)]; exact h.rest k j (by omega)
  · rcases Nat.lt_or_ge k r with hlt | hge
    · have : mb (upd (upd A' r 0 (A' r 0 &&& L 0)) r 1 (A' r 1 &&& L 1) k) b = mb (A' k) b := by unfold mb; rw [e1 k _ (by omega)]
      rw [this]; exact h.done k b hlt hb
    · have : k = r := by omega
      subst this
      have h1 : mb (upd (upd A' k 0 (A' k 0 &&& L 0)) k 1 (A' k 1 &&& L 1) k) b = (mb (A k) b && mb L b) := by
        unfold mb
        rw [e0 _ (by omega), Nat.testBit_and, h.rest k _ (Nat.le_refl _)]
      rw [h1, hl b hb]
      unfold chM
      rw [hc]
      cases hmb : mb (A k) b with
      | false => simp [hmb]
      | true => have := hm b hb hmb; simp [this, hmb]
set_option maxRecDepth 100000 in
set_option maxHeartbeats 8000000 in
theorem choose_any (s n M : Nat) (N : Nat → Nat → Nat) (fr to : Nat → Nat) (A : Nat → Nat → Nat) (C : Nat → Bool) (i a : Nat) (w : World) (h1 : 1 ≤ n) (h6 : n ≤ 6) (hM : M ≤ 66) (hi : i < n) (ha : a < M)
    (hA : ∀ i j, A i j < 18446744073709551616) (hm : ∀ k b, k < n → b < 128 → mb (A k) b = true → b < M) (h : SRC s n M N fr to w) :
    Calls Tryd.prog 40 #[.pointer (some ⟨s, 0, none⟩), .agg (stA A C), .int .i64 i, .int .i64 a] w fun e w' => ∃ (A' : Nat → Nat → Nat) (C' : Nat → Bool) (ok : Bool), e = .returned (.tuple #[.agg (stA A' C'), .bool ok]) ∧ Below w.heap.size w w' ∧
      ((ok = true ∧ C' = chC C i ∧ ChS M N fr to A C i a n A') ∨ (ok = false ∧ ∃ k, k < n ∧ chC C i k = false ∧ ∀ b, b < M → chM (RS N fr to) C (fun k => mb (A k)) i a k b = false)) := by
  have hb0 : Below w.heap.size w ((w.alloc (.cells (stA A (chC C i)) 63)).alloc (.cells (stA z2 fF) 63)) := ((Below.refl _ w).alloc (Nat.le_refl _) _).alloc (by simp) _
  have hs : Sta w.heap.size A (chC C i) ((w.alloc (.cells (stA A (chC C i)) 63)).alloc (.cells (stA z2 fF) 63)) :=
    (sta_new w A (chC C i)).step ((Below.refl _ _).alloc (Nat.le_refl _) _)
  have hz : Sta (w.heap.size + 1) z2 fF ((w.alloc (.cells (stA A (chC C i)) 63)).alloc (.cells (stA z2 fF) 63)) := by
    have := sta_new (w.alloc (.cells (stA A (chC C i)) 63)) z2 fF
    rw [show (w.alloc (.cells (stA A (chC C i)) 63)).heap.size = w.heap.size + 1 by simp] at this
    exact this
  have hr := h.step hb0
  have hgi := stA_c A C i (by omega)
  have hse := stA_setc A C i (by omega)
  have hsz := hr.sz
  have HA := hide hA
  have HM := hide hm
  have HB0 := hide hb0
  have HS := hide hs
  have HZ := hide hz
  have HR := hide hr
  have HI := hide (And.intro hi ha)
  have HR0 := hide (fun X (hb : Below w.heap.size w X) => h.step hb)
  clear hA hb0 h hm hz hs hr
  have hi6 : (i : Int) < 6 := by omega
  have ez : stA z2 fF = #[.int .u64 0, .int .u64 0, .int .u64 0, .int .u64 0, .int .u64 0, .int .u64 0, .int .u64 0, .int .u64 0, .int .u64 0, .int .u64 0, .int .u64 0, .int .u64 0, .bool false, .bool false, .bool false, .bool false, .bool false, .bool false] := rfl
  rw [ez] at hsz
  have HEZ := hide ez
  clear ez
  go_enter Tryd.func40, Tryd.ntmps40
  go_wp2_with fail
  clear hgi hse hsz
  generalize hW1 : World.alloc (World.alloc w _) _ = W1
  have hW1' : (w.alloc (.cells (stA A (chC C i)) 63)).alloc (.cells (stA z2 fF) 63) = W1 := by rw [HEZ.out]; exact hW1
  rw [hW1'] at HB0 HS HZ HR
  clear hW1 hW1' HEZ
  generalize hD : w.heap.size = D at *
  have HDE := hide hD
  clear hD
  go_loopw [18] (fun ix wr => ∃ (r : Nat) (A' : Nat → Nat → Nat), r ≤ n ∧ ix = .int .i64 r ∧ ChS M N fr to A C i a r A' ∧ Sta D A' (chC C i) wr ∧ Sta (D + 1) z2 fF wr ∧ SRC s n M N fr to wr ∧ Below D w wr) (fun ix _ => n - (intOf ix).toNat)
  case atStart => exact ⟨0, A, by omega, rfl, ⟨HA.out, fun _ _ _ => rfl, fun k b hk => by omega⟩, HS.out, HZ.out, HR.out, HB0.out⟩
  case round =>
    clear HB0 HS HZ HR
    obtain ⟨r, A', hr, rfl, hch, hs, hz, hsr, hb⟩ := hrel
    have HCH := hide hch
    have HS := hide hs
    have HZ := hide hz
    have HR := hide hsr
    have HB := hide hb
    by_cases hlt : r < n
    · have hri : (r : Int) < n := by omega
      have hri6 : (r : Int) < 6 := by omega
      obtain ⟨hcc, hcf⟩ := hs.c r (by omega)
      generalize hcr : chC C i r = cr at *
      have HCR := hide hcr
      clear hcr hch hz hb
      cases cr
      · obtain ⟨⟨hc0, hf0⟩, hc1, hf1⟩ := hs.w r (by omega)
        obtain ⟨q, cq, L, hq, hL⟩ := hsr.lets i r hi hlt
        obtain ⟨hl0, hl1, hll, hlb⟩ := hL a ha
        have HLL := hide hll
        have HLB := hide hlb
        have hai : (a : Int) < M := by omega
        have KB := hide (fun W => mboth_any (A' r) (L a) W (HCH.out.lt r) hll)
        clear hll hlb hL hs hsr
        go_wp2_with fail
        go_region_with (first | (go_at_call 56; refine (KB.out _).mono ?_; rintro e X ⟨rfl, hx⟩; have hsX := hide (Sta.step (show Sta D A' (chC C i) wr.drew from HS.out) hx); obtain ⟨⟨hcX0, hfX0⟩, hcX1, hfX1⟩ := hsX.out.w r (by omega)))
        all_goals
          clear hc0 hf0 hc1 hf1 hq hl0 hl1 hcX0 hfX0 hcX1 hfX1 hcc hcf
          have hbX : Below D w X := HB.out.drew.trans (hx.mono (by have := HB.out.drew.size; have := HDE.out; omega))
          have hs2 := hsX.out.set2 r (A' r 0 &&& L a 0) (A' r 1 &&& L a 1) (by omega)
          have hz2 : Sta (D + 1) z2 fF ((X.setCell ⟨D, r * 2, none⟩ (.int .u64 (A' r 0 &&& L a 0 : Nat))).setCell ⟨D, r * 2 + 1, none⟩ (.int .u64 (A' r 1 &&& L a 1 : Nat))) := by
            have := Sta.step (show Sta (D + 1) z2 fF wr.drew from HZ.out) hx
            unfold Sta
            rw [heap_setCell_other _ _ _ _ (by simp), heap_setCell_other _ _ _ _ (by simp)]
            exact this
          have hb2 : Below D w ((X.setCell ⟨D, r * 2, none⟩ (.int .u64 (A' r 0 &&& L a 0 : Nat))).setCell ⟨D, r * 2 + 1, none⟩ (.int .u64 (A' r 1 &&& L a 1 : Nat))) := (hbX.setCell (Nat.le_refl _) _).setCell (Nat.le_refl _) _
          have hn := HCH.out.next HCR.out (HM.out r · hlt) HLL.out HLB.out
          generalize hA2 : upd (upd A' r 0 (A' r 0 &&& L a 0)) r 1 (A' r 1 &&& L a 1) = A2 at *
          generalize World.setCell (World.setCell X _ _) _ _ = W2 at *
          have hsr2 := HR0.out W2 hb2
          obtain ⟨⟨hc0, hf0⟩, hc1, hf1⟩ := hs2.w r (by omega)
          have KC := hide (fun W => mcount_any (A2 r) W (hn.lt r))
          have HCN := hide (cntB_zero (p := mb (A2 r)) 128)
          have hcl := cntB_le (mb (A2 r)) 128
          have HN := hide hn
          have HS2 := hide hs2
          have HZ2 := hide hz2
          have HB2 := hide hb2
          have HR2 := hide hsr2
          generalize cntB (mb (A2 r)) 128 = m at *
          clear hbX hs2 hz2 hb2 hn hsr2 KB hx hsX HS HZ HR HB
          go_wp2_with fail
          refine (KC.out _).mono ?_
          rintro e X3 ⟨rfl, hb3⟩
          clear hc0 hf0 hc1 hf1 KC
          have HS3 := hide (HS2.out.step hb3)
          have HZ3 := hide (HZ2.out.step hb3)
          have HR3 := hide (HR2.out.step hb3)
          have HB3 := hide (HB2.out.trans (hb3.mono (by have := HB2.out.size; have := HDE.out; omega)))
          clear hb3 HS2 HZ2 HR2 HB2
          by_cases hm0 : m = 0
          · subst hm0
            have HT := hide (sta_there HZ3.out z2 fF)
            have hput := sta_put HZ3.out z2 fF
            have HL := hide (sta_load hput)
            have HBE := hide (setCells_bel (b := D + 1) (by omega) (stA z2 fF).toList 0 X3 HB3.out)
            clear hput
            go_wp2_with (first
              | (refine wpList_store_mid rfl 63 (.tmp 8) (.tmp 50) rfl (D + 1) 0 (stA z2 fF) rfl rfl HT.out (infoState2 z2 fF) (stA_one z2 fF) ?_))
            refine bodyPost_ret (v := .tuple #[.agg (stA z2 fF), .bool false]) ?_ rfl ⟨z2, fF, false, rfl, by rw [HDE.out]; exact HBE.out, .inr ⟨rfl, r, hlt, HCR.out, fun b hb => ?_⟩⟩
            · rw [results_cell_tmp rfl]
              simp [asAddr, Result.andThen, HL.out]
            · rw [← HN.out.done r b (by omega) (by omega)]
              exact HCN.out.1 trivial b (by omega)
          · have hmi : ¬ (m : Int) = 0 := by omega
            go_wp2_with fail
            go_roundw
            case rel => exact ⟨r + 1, A2, by omega, by go_num, HN.out, HS3.out, HZ3.out, HR3.out, HB3.out⟩
            case measure => simp [intOf]; omega
      · clear hs hsr
        go_wp2_with fail
        go_roundw
        case rel => exact ⟨r + 1, A', by omega, by go_num, HCH.out.keep HCR.out, HS.out, HZ.out, HR.out, HB.out⟩
        case measure => simp [intOf]; omega
    · have hrn : r = n := by omega
      have hni : (n : Int) ≤ r := by omega
      clear hch hs hz hsr hb
      rw [hrn] at HCH
      have HT := hide (sta_there HZ.out A' (chC C i))
      have hput := sta_put HZ.out A' (chC C i)
      have HL := hide (sta_load hput)
      have HBE := hide (setCells_bel (b := D + 1) (by omega) (stA A' (chC C i)).toList 0 wr HB.out)
      have HWH := hide HS.out.whole
      clear hput
      go_wp2_with (first
        | (refine wpList_load_mid rfl 63 (.tmp 5) rfl D 0 rfl (stA A' (chC C i)).toList _ HWH.out Tryd.underlying63 rfl (by rw [Array.length_toList, stA_size]; exact infoState) ?_; rw [Array.toArray_toList])
        | (refine wpList_store_mid rfl 63 (.tmp 8) (.tmp 52) rfl (D + 1) 0 (stA A' (chC C i)) rfl rfl HT.out (infoState2 A' (chC C i)) (stA_one A' (chC C i)) ?_))
      refine bodyPost_ret (v := .tuple #[.agg (stA A' (chC C i)), .bool true]) ?_ rfl ⟨A', chC C i, true, rfl, by rw [HDE.out]; exact HBE.out, .inl ⟨rfl, rfl, HCH.out⟩⟩
      rw [results_cell_tmp rfl]
      simp [asAddr, Result.andThen, HL.out]
end Go.Proofs.YtnaggcadmfmibaaDoor
