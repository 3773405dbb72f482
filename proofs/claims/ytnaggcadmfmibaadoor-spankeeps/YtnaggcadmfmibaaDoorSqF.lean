/- package span: letsOf. -/
import Derived.Test.YtnaggcadmfmibaaDoorSqE
namespace Go.Proofs.YtnaggcadmfmibaaDoor
open Go.RowKit
set_option linter.unusedVariables false
set_option linter.unusedSimpArgs false

/-- a list of marks in a block -/
def LtR (q M : Nat) (L : Nat → Nat → Nat) (X : World) : Prop := ∃ cur, X.heap[q]? = some (.cells cur 59 (0, 0)) ∧ ∀ a j, a < M → j < 2 → cur[a * 2 + j]? = some (.int .u64 (L a j : Nat))
theorem LtR.at {q M : Nat} {L : Nat → Nat → Nat} {X : World} (h : LtR q M L X) (a j : Nat) (ha : a < M) (hj : j < 2) : X.cell? ⟨q, a * 2 + j, none⟩ = some (.int .u64 (L a j : Nat)) ∧ X.frozen? ⟨q, a * 2 + j, none⟩ = false := by
  obtain ⟨cur, h1, h2⟩ := h
  exact ⟨(cell_of_row _ _ _ _ _ (0, 0) h1).trans (h2 a j ha hj), frozen_of_row _ _ _ _ _ h1⟩
theorem LtR.set {q M : Nat} {L : Nat → Nat → Nat} {X : World} (h : LtR q M L X) (a j v : Nat) (ha : a < M) (hj : j < 2) : LtR q M (upd L a j v) (X.setCell ⟨q, a * 2 + j, none⟩ (.int .u64 (v : Nat))) := by
  obtain ⟨cur, h1, h2⟩ := h
  refine ⟨_, heap_setCell_same X q (a * 2 + j) _ _ _ h1, fun x y hx hy => ?_⟩
  have hlt : a * 2 + j < cur.size := by
    have := h2 a j ha hj
    exact (Array.getElem?_eq_some_iff.1 this).1
  rw [Array.getElem?_setIfInBounds]
  unfold upd
  by_cases hxy : x = a ∧ y = j
  · obtain ⟨rfl, rfl⟩ := hxy
    rw [if_pos rfl, if_pos hlt, if_pos ⟨rfl, rfl⟩]
  · rw [if_neg (by omega), if_neg hxy]
    exact h2 x y hx hy
theorem LtR.lt {q M : Nat} {L : Nat → Nat → Nat} {X : World} (h : LtR q M L X) : q < X.heap.size := by
  obtain ⟨cur, h1, _⟩ := h
  exact (Array.getElem?_eq_some_iff.1 h1).1
theorem LtR.step {q M : Nat} {L : Nat → Nat → Nat} {X X' : World} (h : LtR q M L X) (hb : Below X.heap.size X X') : LtR q M L X' := by
  have hl := h.lt
  obtain ⟨cur, h1, h2⟩ := h
  exact ⟨cur, (hb.block _ hl).trans h1, h2⟩
/-- what letsOf has told so far -/
structure LtI (M : Nat) (fr to : Nat → Nat) (S a m : Nat) (L : Nat → Nat → Nat) : Prop where
  lt : ∀ x j, L x j < 18446744073709551616
  bit : ∀ x b, x < M → b < 128 → mb (L x) b = (decide ((x < a ∧ b < M) ∨ (x = a ∧ b < m)) && S.testBit (Spn.way (fr x) (to x) (fr b) (to b)))
theorem LtI.row {M : Nat} {fr to : Nat → Nat} {S a : Nat} {L : Nat → Nat → Nat} (h : LtI M fr to S a M L) : LtI M fr to S (a + 1) 0 L :=
  ⟨h.lt, fun x b hx hb => by
    rw [h.bit x b hx hb]
    congr 1
    rw [decide_eq_decide]
    omega⟩
theorem LtI.skip {M : Nat} {fr to : Nat → Nat} {S a m : Nat} {L : Nat → Nat → Nat} (h : LtI M fr to S a m L) (hn : S.testBit (Spn.way (fr a) (to a) (fr m) (to m)) = false) : LtI M fr to S a (m + 1) L :=
  ⟨h.lt, fun x b hx hb => by
    rw [h.bit x b hx hb]
    by_cases hx' : x = a ∧ b = m
    · obtain ⟨rfl, rfl⟩ := hx'
      rw [hn]; simp
    · congr 1
      rw [decide_eq_decide]
      omega⟩
theorem LtI.hit {M : Nat} {fr to : Nat → Nat} {S a m : Nat} {L : Nat → Nat → Nat} (h : LtI M fr to S a m L) (hm : m < 128) (hy : S.testBit (Spn.way (fr a) (to a) (fr m) (to m)) = true) :
    LtI M fr to S a (m + 1) (upd L a (m / 64) (L a (m / 64) ||| 2 ^ (m % 64))) := by
  refine ⟨fun x j => ?_, fun x b hx hb => ?_⟩
  · unfold upd
    split
    · have h1 : 2 ^ (m % 64) < 2 ^ 64 := Nat.pow_lt_pow_right (by omega) (Nat.mod_lt m (by omega))
      have := Nat.or_lt_two_pow (n := 64) (show L a (m / 64) < 2 ^ 64 from h.lt a (m / 64)) h1
      exact this
    · exact h.lt x j
  · have hx0 := h.bit x b hx hb
    by_cases hxa : x = a
    · subst hxa
      have h2 : mb (upd L x (m / 64) (L x (m / 64) ||| 2 ^ (m % 64)) x) b = (mb (L x) b || decide (b = m)) := by
        unfold mb upd
        by_cases hw : b / 64 = m / 64
        · rw [if_pos ⟨rfl, hw⟩, Nat.testBit_or, Nat.testBit_two_pow, hw]
          congr 1
          rw [decide_eq_decide]
          omega
        · rw [if_neg (by omega)]
          have : decide (b = m) = false := by simp; omega
          rw [this, Bool.or_false]
      rw [h2, hx0]
      by_cases hbm : b = m
      · subst hbm
        rw [hy]; simp
      · have : decide (b = m) = false := by simp [hbm]
        rw [this, Bool.or_false]
        congr 1
        rw [decide_eq_decide]
        omega
    · have h2 : mb (upd L a (m / 64) (L a (m / 64) ||| 2 ^ (m % 64)) x) b = mb (L x) b := by
        unfold mb upd
        rw [if_neg (by omega)]
      rw [h2, hx0]
      congr 1
      rw [decide_eq_decide]
      omega
theorem infoMarks3 : (Tryd.prog.info? 59).map (fun i => (i.zero, i.size, i.bytes)) = some (some (.agg #[.int .u64 0, .int .u64 0]), 2, 16) := by kernel_rfl
theorem made_ltr {g : Nat} {M cap : Nat} {B : Nat} {X : World} (h : X.ownsRow B 59 2 (.slice (some ⟨g, 0, none⟩) M cap) M (madeCells (Value.cells (.agg #[.int .u64 0, .int .u64 0])) (M * 2)).toList) (h1 : 1 ≤ M) : LtR g M z2 X := by
  rcases h.2 with ⟨h0, _⟩ | ⟨g', cap', cur, hv, _, hg, _, _, _, ht⟩
  · cases h0
  · simp only [Value.slice.injEq, Option.some.injEq, Addr.mk.injEq, and_true, true_and] at hv
    obtain ⟨rfl, rfl⟩ := hv
    refine ⟨cur, hg, fun a j ha hj => ?_⟩
    have h2 : (cur.toList.take (M * 2))[a * 2 + j]? = some (.int .u64 0) := by
      rw [ht, Array.getElem?_toList]
      unfold madeCells
      rw [Array.getElem?_map, Array.getElem?_range, if_pos (by omega)]
      have : j = 0 ∨ j = 1 := by omega
      rcases this with rfl | rfl
      · have e : (a * 2 + 0) % 2 = 0 := by omega
        simp [Value.cells, e]
      · have e : (a * 2 + 1) % 2 = 1 := by omega
        simp [Value.cells, e]
    rw [List.getElem?_take, if_pos (by omega), Array.getElem?_toList] at h2
    exact h2
theorem keep4 {w X X' : World} {p0 p1 p2 p3 : Addr} {v0 v1 v2 v3 : Value} (h : ((X.cell? p0 = some v0 ∧ X.cell? p1 = some v1) ∧ (X.cell? p2 = some v2 ∧ X.cell? p3 = some v3)) ∧ Below w.heap.size w X) (hb : Below X.heap.size X X') :
    ((X'.cell? p0 = some v0 ∧ X'.cell? p1 = some v1) ∧ (X'.cell? p2 = some v2 ∧ X'.cell? p3 = some v3)) ∧ Below w.heap.size w X' :=
  ⟨⟨⟨cell_step h.1.1.1 hb, cell_step h.1.1.2 hb⟩, cell_step h.1.2.1 hb, cell_step h.1.2.2 hb⟩, h.2.trans (hb.mono h.2.size)⟩
set_option maxRecDepth 100000 in
set_option maxHeartbeats 8000000 in
theorem lets_any (g M cap S : Nat) (fr to : Nat → Nat) (w : World) (h1 : 1 ≤ M) (hM : M ≤ 66) (h : ∀ a, a < M → w.cell? ⟨g, a * 2, none⟩ = some (.int .i64 (fr a)) ∧ w.cell? ⟨g, a * 2 + 1, none⟩ = some (.int .i64 (to a))) :
    Calls Tryd.prog 37 #[.slice (some ⟨g, 0, none⟩) M cap, .int .i64 S] w fun e w' => ∃ (q : Nat) (L : Nat → Nat → Nat), e = .returned (.slice (some ⟨q, 0, none⟩) M M) ∧ w.heap.size ≤ q ∧ LtR q M L w' ∧ LtI M fr to S M 0 L ∧ Below w.heap.size w w' := by
  have H := hide h
  have KW := hide way_any
  have KH := hide has_any
  clear h
  obtain ⟨i0, hi, hz0, hz1, hz2⟩ := info_parts infoMarks3
  go_enter Tryd.func37, Tryd.ntmps37
  go_wp2_with (refine wpList_make_full _ rfl (.tmp 9) (.tmp 9) 67 rfl w.heap.size 59 i0 (.agg #[.int .u64 0, .int .u64 0]) 2 Tryd.underlying67 hi hz0 hz1 .i64 .i64 _ _ M rfl rfl rfl rfl (by rw [hz2]; omega) (by unfold maxLen; omega) (Nat.le_refl _) ?_; intro W1 hown hgrow)
  have hlt := made_ltr hown h1
  have hb1 : Below w.heap.size w W1 := Below.grown (Below.refl _ w) hgrow (Nat.le_refl _) (fun k hk => by cases hk)
  have HLT := hide hlt
  have HB := hide hb1
  have HQ : Hid (w.heap.size < W1.heap.size) := hlt.lt
  clear hown hgrow hlt hb1 hz0 hz1 hz2 hi
  generalize hD : w.heap.size = q at *
  have HDE := hide hD
  clear hD
  go_wp2_with fail
  go_loopw [13] (fun i wr => ∃ (r : Nat) (L : Nat → Nat → Nat), r ≤ M ∧ i = .int .i64 r ∧ LtR q M L wr ∧ LtI M fr to S r 0 L ∧ Below q w wr) (fun i _ => M - (intOf i).toNat)
  case atStart => exact ⟨0, z2, by omega, rfl, HLT.out, ⟨fun _ _ => by unfold z2; omega, fun x b _ _ => by unfold mb z2; simp⟩, HB.out⟩
  case round =>
    clear HLT HB HQ
    obtain ⟨r, L, hr, rfl, hlt, hli, hb⟩ := hrel
    have HLT := hide hlt
    have HLI := hide hli
    have HB := hide hb
    clear hlt hli hb
    by_cases hrm : r < M
    · have hri : (r : Int) < M := by omega
      go_wp2_with fail
      go_loopw [18] (fun i wr => ∃ (m : Nat) (L : Nat → Nat → Nat), m ≤ M ∧ i = .int .i64 m ∧ LtR q M L wr ∧ LtI M fr to S r m L ∧ Below q w wr) (fun i _ => M - (intOf i).toNat)
      case atStart => exact ⟨0, L, by omega, rfl, HLT.out, HLI.out, HB.out⟩
      case round =>
        clear HLT HLI HB
        obtain ⟨m, L, hm, rfl, hlt, hli, hb⟩ := hrel
        have HLT := hide hlt
        have HLI := hide hli
        have HB := hide hb
        by_cases hmt : m < M
        · have hmi : (m : Int) < M := by omega
          obtain ⟨s0, s1⟩ := H.out r hrm
          obtain ⟨t0, t1⟩ := H.out m hmt
          have KQ := hide (fun W => KW.out (fr r) (to r) (fr m) (to m) W)
          have hq := Spn.way_lt (fr r) (to r) (fr m) (to m)
          have hskip := hide hli.skip
          have hhit := hide (hli.hit (by omega))
          have hbt := hasB_bit S (Spn.way (fr r) (to r) (fr m) (to m))
          generalize Spn.way (fr r) (to r) (fr m) (to m) = u at *
          have KX := hide (fun W => KH.out (S : Int) u W (by omega))
          rw [hbt] at KX
          generalize S.testBit u = x at *
          have hdb : Below w.heap.size w wr := by rw [HDE.out]; exact hb
          have hS := keep4 (w := wr) (X := wr) (X' := wr.drew) (And.intro (And.intro (And.intro (cell_step s0 hdb) (cell_step s1 hdb)) (And.intro (cell_step t0 hdb) (cell_step t1 hdb))) (Below.refl _ wr)) (Below.drew (Below.refl _ wr))
          clear s0 s1 t0 t1 hlt hli hb hbt hdb
          go_wp2_with fail
          go_region_held3 (fun X => ((X.cell? ⟨g, r * 2, none⟩ = some (.int .i64 (fr r)) ∧ X.cell? ⟨g, r * 2 + 1, none⟩ = some (.int .i64 (to r))) ∧ (X.cell? ⟨g, m * 2, none⟩ = some (.int .i64 (fr m)) ∧ X.cell? ⟨g, m * 2 + 1, none⟩ = some (.int .i64 (to m)))) ∧ Below wr.heap.size wr X)
            (first | (with_reducible exact hS))
            (first
              | (go_at_call 51; refine (KQ.out _).mono ?_; rintro e X ⟨rfl, hx⟩; have hS := keep4 hS hx)
              | (go_at_call 50; refine (KX.out _).mono ?_; rintro e X ⟨rfl, rfl⟩))
          have hB := hS.2
          clear hS
          have hlt2 := HLT.out.step hB
          have hb2 := HB.out.trans (hB.mono (by have := HB.out.size; have := HDE.out; omega))
          have HL2 := hide hlt2
          have HB2 := hide hb2
          clear hb2 hB HLT HB
          cases x
          · have HSK := hide (hskip.out rfl)
            clear hlt2
            go_wp2_with fail
            go_roundw
            case rel => exact ⟨m + 1, L, by omega, by go_num, HL2.out, HSK.out, HB2.out⟩
            case measure => simp [intOf]; omega
          · obtain ⟨hc, hf⟩ := hlt2.at r (m / 64) hrm (by omega)
            have KA := hide (madd_any q (r * 2) (fun j => L r j) m X (fun j => HLI.out.lt r j) (by omega) hc hf)
            have hn := hhit.out rfl
            have hl3 := hlt2.set r (m / 64) (L r (m / 64) ||| 2 ^ (m % 64)) hrm (by omega)
            have hb3 : Below q w ((X.setCell ⟨q, r * 2 + m / 64, none⟩ (.int .u64 (L r (m / 64) ||| 2 ^ (m % 64) : Nat))).drew) := (HB2.out.setCell (Nat.le_refl _) _).drew
            have HN := hide hn
            have HL3 : Hid (LtR q M (upd L r (m / 64) (L r (m / 64) ||| 2 ^ (m % 64))) ((X.setCell ⟨q, r * 2 + m / 64, none⟩ (.int .u64 (L r (m / 64) ||| 2 ^ (m % 64) : Nat))).drew)) := hl3
            have HB3 := hide hb3
            clear hc hf hn hl3 hb3 hlt2
            go_wp2_with fail
            refine KA.out.mono ?_
            rintro e X2 ⟨rfl, rfl⟩
            go_wp2_with fail
            go_roundw
            case rel => exact ⟨m + 1, _, by omega, by go_num, HL3.out, HN.out, HB3.out⟩
            case measure => simp [intOf]; omega
        · have hmn : m = M := by omega
          have hni : (M : Int) ≤ m := by omega
          rw [hmn] at hli
          have HLR := hide hli.row
          clear hlt hli hb
          go_wp2_with fail
          go_roundw
          case rel => exact ⟨r + 1, L, by omega, by go_num, HLT.out, HLR.out, HB.out⟩
          case measure => simp [intOf]; omega
    · have hrn : r = M := by omega
      have hni : (M : Int) ≤ r := by omega
      rw [hrn] at HLI
      go_wp2_with fail
      go_ret
      exact ⟨q, L, rfl, by rw [HDE.out]; exact Nat.le_refl _, HLT.out, HLI.out, by rw [HDE.out]; exact HB.out⟩
end Go.Proofs.YtnaggcadmfmibaaDoor
