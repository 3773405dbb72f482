/- package span: (*grid).match. -/
import Derived.Test.YtnaggcadmfmibaaDoorSpnQ
import Derived.BigRegion
namespace Go.Proofs.YtnaggcadmfmibaaDoor
open Go.RowKit
set_option linter.unusedVariables false
set_option linter.unusedSimpArgs false

theorem Bk_and (a b : Nat) : Bk (a &&& b) = Bk a &&& Bk b := by
  apply Nat.eq_of_testBit_eq
  intro z
  rw [Nat.testBit_and, Bk_bit, Bk_bit, Bk_bit, Nat.testBit_and]
  cases decide (z ≤ 12) <;> simp
/-- what match leaves of a net; of its first i rows; and of a row's first k places -/
def mtc (S : Nat → Nat → Nat) (a b : Nat) : Nat := if a = b then S a a &&& 64 else S a b &&& Bk (S b a)
def mtR (S : Nat → Nat → Nat) (i : Nat) : Nat → Nat → Nat := fun a b => if a < i then mtc S a b else S a b
def mtS (S : Nat → Nat → Nat) (i k : Nat) : Nat → Nat → Nat := fun a b => if a < i ∨ (a = i ∧ (b < k ∨ b = i)) then mtc S a b else S a b
theorem mt_diag (S : Nat → Nat → Nat) (r a b : Nat) : upd (mtR S r) r r (S r r &&& 64) a b = mtS S r 0 a b := by
  unfold upd mtR mtS
  by_cases h : a = r ∧ b = r
  · obtain ⟨rfl, rfl⟩ := h
    rw [if_pos ⟨rfl, rfl⟩, if_pos (.inr ⟨rfl, .inr rfl⟩)]
    unfold mtc; rw [if_pos rfl]
  · rw [if_neg h]
    by_cases h2 : a < r
    · rw [if_pos h2, if_pos (.inl h2)]
    · rw [if_neg h2, if_neg (by omega)]
theorem mt_new (S : Nat → Nat → Nat) (r m : Nat) (hl : S r m < 8192) : mtS S r m r m &&& Bk (mtS S r m m r) = mtc S r m := by
  have e1 : mtS S r m r m = if m = r then mtc S r r else S r m := by
    unfold mtS
    by_cases h : m = r
    · rw [if_pos h, if_pos (.inr ⟨rfl, .inr h⟩), h]
    · rw [if_neg h, if_neg (by omega)]
  have e2 : mtS S r m m r = if m < r ∨ m = r then mtc S m r else S m r := by
    unfold mtS
    by_cases h : m < r ∨ m = r
    · rw [if_pos h, if_pos (by omega)]
    · rw [if_neg h, if_neg (by omega)]
  rw [e1, e2]
  rcases Nat.lt_trichotomy m r with h | h | h
  · rw [if_neg (by omega), if_pos (.inl h)]
    unfold mtc
    rw [if_neg (by omega), if_neg (by omega), Bk_and, Bk_Bk hl, Nat.and_comm (Bk (S m r)), ← Nat.and_assoc, Nat.and_self]
  · subst h
    rw [if_pos rfl, if_pos (.inr rfl), Bk_eq (by unfold mtc; rw [if_pos rfl]; exact and_sub_right _ _), Nat.and_self]
  · rw [if_neg (by omega), if_neg (by omega)]
    unfold mtc
    rw [if_neg (by omega)]
theorem mt_step (S : Nat → Nat → Nat) (r m a b : Nat) : upd (mtS S r m) r m (mtc S r m) a b = mtS S r (m + 1) a b := by
  unfold upd mtS
  by_cases h : a = r ∧ b = m
  · obtain ⟨rfl, rfl⟩ := h
    rw [if_pos ⟨rfl, rfl⟩, if_pos (by omega)]
  · rw [if_neg h]
    by_cases h2 : a < r ∨ (a = r ∧ (b < m ∨ b = r))
    · rw [if_pos h2, if_pos (by omega)]
    · rw [if_neg h2, if_neg (by omega)]
theorem mt_row (S : Nat → Nat → Nat) (n r a b : Nat) (hz : ∀ a b, n ≤ b → S a b = 0) : mtS S r n a b = mtR S (r + 1) a b := by
  unfold mtS mtR
  by_cases h : a < r + 1
  · rw [if_pos h]
    by_cases h2 : a < r ∨ (a = r ∧ (b < n ∨ b = r))
    · rw [if_pos h2]
    · rw [if_neg h2]
      have hb : n ≤ b := by omega
      unfold mtc
      by_cases h3 : a = b
      · omega
      · rw [if_neg h3, hz a b hb, Nat.zero_and]
  · rw [if_neg h, if_neg (by omega)]
theorem mt_mat (S : Nat → Nat → Nat) (n : Nat) (hl : ∀ a b, S a b < 8192) : Mat n (mtR S n) ∧ Within n (mtR S n) S ∧ ∀ M, Closed n M → Within n M S → Within n M (mtR S n) := by
  have e : ∀ a b, a < n → mtR S n a b = mtc S a b := fun a b ha => by unfold mtR; rw [if_pos ha]
  refine ⟨⟨fun i k hi hk => ?_, fun i hi => ?_, fun i k hi hk => ?_⟩, fun i k hi hk => ?_, fun M hM hw i k hi hk => ?_⟩
  · rw [e i k hi]; unfold mtc
    split
    · exact Nat.lt_of_le_of_lt Nat.and_le_left (hl i i)
    · exact Nat.lt_of_le_of_lt Nat.and_le_left (hl i k)
  · rw [e i i hi]; unfold mtc; rw [if_pos rfl]; exact and_sub_right _ _
  · rw [e i k hi, e k i hk]; unfold mtc
    by_cases h : i = k
    · subst h; rw [if_pos rfl, Bk_eq (and_sub_right _ _)]
    · rw [if_neg h, if_neg (fun g => h g.symm), Bk_and, Bk_Bk (hl k i), Nat.and_comm]
  · rw [e i k hi]; unfold mtc
    by_cases h : i = k
    · subst h; rw [if_pos rfl]; exact and_sub_left _ _
    · rw [if_neg h]; exact and_sub_left _ _
  · rw [e i k hi]; unfold mtc
    by_cases h : i = k
    · subst h; rw [if_pos rfl]; exact sub_and (hw i i hi hi) (hM.eq i hi)
    · rw [if_neg h]; exact sub_and (hw i k hi hk) ((hM.bk i k hi hk).trans (Bk_mono (hw k i hk hi)))
theorem i64_and_nat' (a b : Nat) (ha : a < 8192) (hb : b < 8192) : bits .and .i64 (a : Int) (b : Int) = ((a &&& b : Nat) : Int) := by
  have h1 : (BitVec.ofInt 64 (a : Int)).toNat = a := by rw [BitVec.toNat_ofInt]; omega
  have h2 : (BitVec.ofInt 64 (b : Int)).toNat = b := by rw [BitVec.toNat_ofInt]; omega
  have h3 : a &&& b ≤ a := Nat.and_le_left
  show IntKind.i64.wrap ((BitVec.ofInt 64 (a : Int) &&& BitVec.ofInt 64 (b : Int)).toNat : Nat) = ((a &&& b : Nat) : Int)
  rw [BitVec.toNat_and, h1, h2, IntKind.wrap_i64]
  omega
theorem mtS_lt {S : Nat → Nat → Nat} (hl : ∀ a b, S a b < 8192) (r m a b : Nat) : mtS S r m a b < 8192 := by
  unfold mtS mtc
  split
  · split
    · exact Nat.lt_of_le_of_lt Nat.and_le_left (hl a a)
    · exact Nat.lt_of_le_of_lt Nat.and_le_left (hl a b)
  · exact hl a b
theorem Gr.congr {B n : Nat} {N M : Nat → Nat → Nat} {X : World} (h : Gr B n N X) (e : ∀ a b, a < 6 → b < 6 → N a b = M a b) : Gr B n M X := by
  unfold Gr at *
  rw [← grA_congr e]; exact h
theorem Gr.bel {B n : Nat} {N : Nat → Nat → Nat} {w X : World} (h : Gr B n N X) (hb : Below B w X) {a : Addr} (ha : a.block = B) (v : Value) : Below B w (X.setCell a v) := hb.setCell (by omega) v
set_option maxRecDepth 100000 in
set_option maxHeartbeats 8000000 in
theorem match_any (B n : Nat) (S : Nat → Nat → Nat) (w : World) (h1 : 1 ≤ n) (h6 : n ≤ 6) (hl : ∀ a b, S a b < 8192) (hz : ∀ a b, n ≤ b → S a b = 0) (h : Gr B n S w) :
    Calls Tryd.prog 33 #[.pointer (some ⟨B, 0, none⟩)] w fun e w' => e = .returned (.tuple #[]) ∧ Gr B n (mtR S n) w' ∧ Below B w w' := by
  have HL := hide hl
  have HZ := hide hz
  have h0 : Gr B n (mtR S 0) w := by
    have : mtR S 0 = S := by funext a b; unfold mtR; rw [if_neg (by omega)]
    rw [this]; exact h
  have hs := h.size
  have H0 := hide h0
  clear hl hz h h0
  go_enter Tryd.func33, Tryd.ntmps33
  go_wp2_with fail
  clear hs
  go_loopw [8] (fun i wr => ∃ r : Nat, r ≤ n ∧ i = .int .i64 r ∧ Gr B n (mtR S r) wr ∧ Below B w wr) (fun i _ => n - (intOf i).toNat)
  case atStart => exact ⟨0, by omega, rfl, H0.out, Below.refl _ _⟩
  case round =>
    clear H0
    obtain ⟨r, hr, rfl, hgr, hb⟩ := hrel
    have HG := hide hgr
    have HB := hide hb
    clear hgr hb
    by_cases hlt : r < n
    · have hri : (r : Int) < n := by omega
      have hri6 : (r : Int) < 6 := by omega
      obtain ⟨hc, hf⟩ := HG.out.at r r (by omega) (by omega)
      have hrr : mtR S r r r = S r r := by unfold mtR; rw [if_neg (by omega)]
      rw [hrr] at hc
      clear hrr
      have hlr := HL.out r r
      have HA : Hid (bits .and .i64 ((S r r : Nat) : Int) 64 = ((S r r &&& 64 : Nat) : Int)) := i64_and_nat' (S r r) 64 hlr (by omega)
      go_wp2_with fail
      go_region
      clear hc hf hlr
      have hg1 := (HG.out.set r r (S r r &&& 64) (by omega) (by omega)).congr (fun a b _ _ => mt_diag S r a b)
      have hb1 : Below B w (wr.setCell ⟨B, 1 + r * 6 + r, none⟩ (.int .i64 ((S r r &&& 64 : Nat) : Int))) := HB.out.setCell (Nat.le_refl _) _
      rw [HA.out]
      have hg1 : Gr B n (mtS S r 0) (wr.setCell ⟨B, 1 + r * 6 + r, none⟩ (.int .i64 ((S r r &&& 64 : Nat) : Int))).drew := hg1
      have hb1 : Below B w (wr.setCell ⟨B, 1 + r * 6 + r, none⟩ (.int .i64 ((S r r &&& 64 : Nat) : Int))).drew := hb1.drew
      generalize (wr.setCell ⟨B, 1 + r * 6 + r, none⟩ (.int .i64 ((S r r &&& 64 : Nat) : Int))).drew = W1 at *
      clear HA HG HB
      have hs := hg1.size
      have HG1 := hide hg1
      have HB1 := hide hb1
      clear hg1 hb1
      go_wp2_with fail
      clear hs
      go_loopw [28] (fun i wr => ∃ m : Nat, m ≤ n ∧ i = .int .i64 m ∧ Gr B n (mtS S r m) wr ∧ Below B w wr) (fun i _ => n - (intOf i).toNat)
      case atStart => exact ⟨0, by omega, rfl, HG1.out, HB1.out⟩
      case round =>
        clear HG1 HB1
        obtain ⟨m, hm, rfl, hgr, hb⟩ := hrel
        have HG := hide hgr
        have HB := hide hb
        by_cases hmt : m < n
        · have hmi : (m : Int) < n := by omega
          have hmi6 : (m : Int) < 6 := by omega
          obtain ⟨hc, hf⟩ := hgr.at r m (by omega) (by omega)
          obtain ⟨hc2, hf2⟩ := hgr.at m r (by omega) (by omega)
          have l1 := mtS_lt HL.out r m r m
          have l2 := mtS_lt HL.out r m m r
          have HA := hide (i64_and_nat' _ _ l1 (Bk_lt (mtS S r m m r)))
          have HN := hide (mt_new S r m (HL.out r m))
          have KB := hide (fun W => cback_any (mtS S r m m r) W l2)
          have HK := hide (show bkN (mtS S r m m r) 13 = Bk (mtS S r m m r) from rfl)
          rw [HK.out] at KB
          clear hgr hb HK
          generalize hv1 : mtS S r m r m = v1 at *
          generalize hv2 : mtS S r m m r = v2 at *
          have HV1 := hide hv1
          clear hv1 hv2
          generalize Bk v2 = v3 at *
          go_wp2_with fail
          go_region_with (first | (go_at_call 53; refine (KB.out _).mono ?_; rintro e X ⟨rfl, hx⟩; have hgX := hide (Gr.step (show Gr B n (mtS S r m) wr.drew from HG.out) hx); obtain ⟨hcX, hfX⟩ := hgX.out.at r m (by omega) (by omega); rw [HV1.out] at hcX))
          all_goals
            have hgf := (hgX.out.set r m (mtc S r m) (by omega) (by omega)).congr (fun a b _ _ => mt_step S r m a b)
            have hbX : Below B w X := HB.out.drew.trans (hx.mono (Nat.le_of_lt HG.out.lt))
            have hbf : Below B w (X.setCell ⟨B, 1 + r * 6 + m, none⟩ (.int .i64 ((mtc S r m : Nat) : Int))) := hbX.setCell (Nat.le_refl _) _
            rw [HA.out, HN.out]
            clear hc hf hc2 hf2 hcX hfX
            go_wp2
            go_roundw
            case rel => exact ⟨m + 1, by omega, by go_num, hgf, hbf⟩
            case measure => simp [intOf]; omega
        · have hmn : m = n := by omega
          have hni : (n : Int) ≤ m := by omega
          rw [hmn] at hgr
          have hg2 := hgr.congr (fun a b _ _ => mt_row S n r a b HZ.out)
          clear hgr HG
          go_wp2
          go_roundw
          case rel => exact ⟨r + 1, by omega, by go_num, hg2, hb⟩
          case measure => simp [intOf]; omega
    · have hrn : r = n := by omega
      have hni : (n : Int) ≤ r := by omega
      rw [hrn] at HG
      go_wp2
      go_end0
      exact ⟨rfl, HG.out, HB.out⟩
end Go.Proofs.YtnaggcadmfmibaaDoor
