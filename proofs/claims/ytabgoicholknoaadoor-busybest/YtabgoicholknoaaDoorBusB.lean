/- busy: rows of sets and of rooms in memory; (meeting).room. -/
import Derived.Test.YtabgoicholknoaaDoorBusA
namespace Go.Proofs.YtabgoicholknoaaDoor
open Go.RowKit Go.Shelf
set_option linter.unusedVariables false
set_option linter.unusedSimpArgs false

/-- a slice of sets -/
def PsAt (w : World) (v : Value) (Ps : List (List (Int × Int))) : Prop :=
  ∃ ad c, v = .slice ad Ps.length c ∧ ∀ j, j < Ps.length → ∃ g a l k, ad = some ⟨g, 0, none⟩ ∧ w.cell? ⟨g, j, none⟩ = some (.slice a l k) ∧ SetAt w (.slice a l k) (Ps.getD j [])
theorem PsAt.below {w w' : World} {v : Value} {Ps : List (List (Int × Int))} (h : PsAt w v Ps) (hB : Below w.heap.size w w') : PsAt w' v Ps := by
  obtain ⟨ad, c, rfl, hj⟩ := h
  refine ⟨ad, c, rfl, fun j hl => ?_⟩
  obtain ⟨g, a, l, k, e, hc, hs⟩ := hj j hl
  exact ⟨g, a, l, k, e, (hB.cell (World.block_lt_of_cell? w _ hc)).trans hc, hs.below hB⟩
/-- a slice of rooms -/
def RsAt (w : World) (v : Value) (Rs : List (Int × List (Int × Int))) : Prop :=
  ∃ ad c, v = .slice ad Rs.length c ∧ ∀ j, j < Rs.length → ∃ g a l k, ad = some ⟨g, 0, none⟩ ∧ w.cell? ⟨g, j * 2, none⟩ = some (.int .i64 (Rs.getD j (0, [])).1) ∧ w.cell? ⟨g, j * 2 + 1, none⟩ = some (.slice a l k) ∧ SetAt w (.slice a l k) (Rs.getD j (0, [])).2
theorem RsAt.below {w w' : World} {v : Value} {Rs : List (Int × List (Int × Int))} (h : RsAt w v Rs) (hB : Below w.heap.size w w') : RsAt w' v Rs := by
  obtain ⟨ad, c, rfl, hj⟩ := h
  refine ⟨ad, c, rfl, fun j hl => ?_⟩
  obtain ⟨g, a, l, k, e, h1, hc, hs⟩ := hj j hl
  exact ⟨g, a, l, k, e, (hB.cell (World.block_lt_of_cell? w _ h1)).trans h1, (hB.cell (World.block_lt_of_cell? w _ hc)).trans hc, hs.below hB⟩
/-- the room that is taken among the first ones -/
theorem rmLs_snoc (s : Int) (free : List (Int × Int) → Bool) : ∀ (rs : List (Int × List (Int × Int))) (acc : RmS) (i : Int) (r : Int × List (Int × Int)), rmLs s free acc i (rs ++ [r]) = rmL s free (rmLs s free acc i rs) (i + rs.length) r
  | [], acc, i, r => by simp [rmLs]
  | x :: rs, acc, i, r => by
    rw [List.cons_append, rmLs, rmLs_snoc s free rs, rmLs]
    have : i + 1 + (rs.length : Int) = i + ((x :: rs).length : Int) := by simp; omega
    rw [this]
def rmP (s : Int) (free : List (Int × Int) → Bool) (Rs : List (Int × List (Int × Int))) (m : Nat) : RmS := rmLs s free none 0 (Rs.take m)
theorem rmP_succ (s : Int) (free : List (Int × Int) → Bool) (Rs : List (Int × List (Int × Int))) (m : Nat) (h : m < Rs.length) : rmP s free Rs (m + 1) = rmL s free (rmP s free Rs m) m (Rs.getD m (0, [])) := by
  unfold rmP
  rw [List.take_succ_eq_append_getElem h, rmLs_snoc, getD_at Rs m _ h]
  congr 1
  rw [List.length_take]; omega
theorem rmP_some (s : Int) (free : List (Int × Int) → Bool) (Rs : List (Int × List (Int × Int))) : ∀ (m : Nat) (a : Int × Int), m ≤ Rs.length → rmP s free Rs m = some a → ∃ k : Nat, k < m ∧ a = ((k : Int), (Rs.getD k (0, [])).1)
  | 0, a, _, h => by simp [rmP, rmLs] at h
  | m + 1, a, hm, h => by
    rw [rmP_succ s free Rs m (by omega)] at h
    have old : ∀ a, rmP s free Rs m = some a → ∃ k : Nat, k < m + 1 ∧ a = ((k : Int), (Rs.getD k (0, [])).1) := fun a ha => by
      obtain ⟨k, hk, e⟩ := rmP_some s free Rs m a (by omega) ha
      exact ⟨k, by omega, e⟩
    cases hp : rmP s free Rs m with
    | none =>
      rw [hp, rmL] at h
      split at h
      · exact ⟨m, by omega, (Option.some.inj h).symm⟩
      · cases h
    | some b =>
      rw [hp, rmL] at h
      split at h
      · exact ⟨m, by omega, (Option.some.inj h).symm⟩
      · exact old a (hp.trans h)
def bFree (t n : Int) (L : List (Int × Int)) : Bool := !bz t n L
/-- what room answers -/
def rmA (t n s : Int) (Rs : List (Int × List (Int × Int))) : Int := if s = 0 then -1 else rmAt s (bFree t n) Rs
def rmB (t n s : Int) (Rs : List (Int × List (Int × Int))) : Bool := decide (s = 0) || decide (0 ≤ rmA t n s Rs)
theorem rmP_all (s : Int) (free : List (Int × Int) → Bool) (Rs : List (Int × List (Int × Int))) : rmP s free Rs Rs.length = rmLs s free none 0 Rs := by unfold rmP; rw [List.take_length]
theorem bdr {B : Nat} {w w' : World} (h : Below B w w') (n : Nat) : Below B w (w'.drewN n) := ⟨h.os, h.tape, h.output, h.size, h.block⟩
/-- rooms that are of the form of sets -/
def RsOk (Rs : List (Int × List (Int × Int))) : Prop := ∀ r ∈ Rs, InvL r.2 ∧ r.2.length ≤ 1000000
theorem RsOk.at' {Rs : List (Int × List (Int × Int))} (h : RsOk Rs) {m : Nat} (hm : m < Rs.length) : InvL (Rs.getD m (0, [])).2 ∧ (Rs.getD m (0, [])).2.length ≤ 1000000 := by
  rw [getD_at Rs m _ hm]; exact h _ (List.getElem_mem hm)
set_option maxHeartbeats 1000000 in
theorem broom_any (t n : Int) (t1 : -1000000000000 ≤ t) (t2 : t ≤ 1000000000000) (n1 : 0 ≤ n) (n2 : n ≤ 1000000000000) (s : Int) (Rs : List (Int × List (Int × Int))) (hRs : RsOk Rs) (hlen : Rs.length ≤ 1000000) (v : Value) (w : World) (hR : RsAt w v Rs) :
    Calls Tryd.prog 27 #[.agg #[.int .i64 t, .int .i64 n], .int .i64 s, v] w fun e w' => e = .returned (.tuple #[.int .i64 (rmA t n s Rs), .bool (rmB t n s Rs)]) ∧ Below w.heap.size w w' := by
  obtain ⟨ad, cap, rfl, hall⟩ := hR
  by_cases hs : s = 0
  · subst hs
    go_enter Tryd.func27, Tryd.ntmps27
    go_wp2
    go_ret2
    exact ⟨by simp [rmA, rmB], (Below.refl _ w).alloc (Nat.le_refl _) _⟩
  have hb0 : Below w.heap.size w (w.alloc (.cells #[.int .i64 t, .int .i64 n] 72)) := (Below.refl _ w).alloc (Nat.le_refl _) _
  have hc0 : (w.alloc (.cells #[.int .i64 t, .int .i64 n] 72)).cell? ⟨w.heap.size, 0, none⟩ = some (.int .i64 t) := by simp
  have hc1 : (w.alloc (.cells #[.int .i64 t, .int .i64 n] 72)).cell? ⟨w.heap.size, 1, none⟩ = some (.int .i64 n) := by simp
  have HB0 := hide (And.intro hb0 (And.intro hc0 hc1))
  have HALL := hide hall
  have HS := hide hs
  have hs0 : (s == 0) = false := by simpa using hs
  clear hb0 hc0 hc1 hall
  go_enter Tryd.func27, Tryd.ntmps27
  go_wp2_with fail
  go_loopw [6, 15] (fun q i wr => ∃ m : Nat, m ≤ Rs.length ∧ i = .int .i64 m ∧ q = .int .i64 (rmN (rmP s (bFree t n) Rs m)) ∧ Below (w.heap.size + 1) (w.alloc (.cells #[.int .i64 t, .int .i64 n] 72)) wr) (fun _ i _ => Rs.length - (intOf i).toNat)
  case atStart => exact ⟨0, by omega, rfl, rfl, by simpa using Below.refl _ _⟩
  case round =>
    obtain ⟨m, hm, rfl, rfl, hB⟩ := hrel
    by_cases hlt : m < Rs.length
    · have hmi : (m : Int) < (Rs.length : Int) := by omega
      obtain ⟨g, a, l, k, rfl, hx0, hx1, hset⟩ := HALL.out m hlt
      have hb1 : Below w.heap.size w wr := HB0.out.1.trans (hB.mono (by omega))
      have hy0 := (hb1.cell (World.block_lt_of_cell? w _ hx0)).trans hx0
      have hy1 := (hb1.cell (World.block_lt_of_cell? w _ hx1)).trans hx1
      have hset' := hset.below hb1
      have hd0 := (hB.cell (p := ⟨w.heap.size, 0, none⟩) (by simp)).trans HB0.out.2.1
      have hd1 := (hB.cell (p := ⟨w.heap.size, 1, none⟩) (by simp)).trans HB0.out.2.2
      have hstep := rmP_succ s (bFree t n) Rs m hlt
      have hsome := fun a h => rmP_some s (bFree t n) Rs m a (by omega) h
      have hok := hRs.at' hlt
      have hwz : w.heap.size < wr.heap.size := by have := hB.size; simp at this; omega
      have hX := hide (fun q : Nat => meets_any t n t1 t2 n1 n2 _ hok.1 hok.2 a l k _ (hset'.below (bdr ((Below.refl _ wr).alloc (Nat.le_refl _) (.cells #[.int .i64 (Rs.getD m (0, [])).1, .slice a l k] 53)) q)))
      have HBW := hide hb1
      have HBB := hide hB
      clear hx0 hx1 hset hset' hb1 hB hok
      generalize hr : Rs.getD m (0, []) = r at hy0 hy1 hstep hX
      have hnx : Below (w.heap.size + 1) (w.alloc (.cells #[.int .i64 t, .int .i64 n] 72)) (wr.alloc (.cells #[.int .i64 r.1, .slice a l k] 53)) := HBB.out.alloc (by omega) _
      have HN := hide hnx
      have hfree : bFree t n r.2 = !bz t n r.2 := rfl
      clear hnx
      by_cases h1 : r.1 < s
      · have HSt : rmP s (bFree t n) Rs (m + 1) = rmP s (bFree t n) Rs m := by
          rw [hstep]; unfold rmL; cases rmP s (bFree t n) Rs m <;> simp <;> omega
        clear hstep hsome hX
        have d1 : decide (r.1 < s) = true := decide_eq_true h1
        generalize hq : rmN (rmP s (bFree t n) Rs m) = q
        go_wp2_with fail
        go_quiet (fail)
        go_wp2
        go_roundw
        case rel => exact ⟨m + 1, by omega, by go_num, by rw [HSt, hq], bdr HN.out nq⟩
        case measure => simp [intOf]; omega
      · have d1 : decide (r.1 < s) = false := decide_eq_false h1
        have hX2 := hide (fun q => (hX.out q).mono fun e W' h => And.intro h.1 (HN.out.trans (((bdr (Below.refl _ _) q).trans (h.2.mono (Nat.le_refl _))).mono (by have := HN.out.size; simpa using this))))
        clear hX
        generalize hq : rmN (rmP s (bFree t n) Rs m) = q
        cases hp : rmP s (bFree t n) Rs m with
        | none =>
          rw [hp] at hstep
          clear hsome
          have d2 : decide ((0 : Int) ≤ -1) = false := by decide
          obtain rfl : q = -1 := by rw [← hq, hp]; rfl
          clear hq
          cases hf : bz t n r.2 with
          | true =>
            have HSt : rmP s (bFree t n) Rs (m + 1) = none := by rw [hstep, rmL, hfree, hf]; simp
            have hX3 := hX2.out
            rw [hf] at hX3
            have hX2 := hide hX3
            clear hX3
            go_wp2_with fail
            go_quiet (fail)
            go_wp2_with (go_at_call 26; refine (hX2.out _).mono ?_; rintro e w1 ⟨rfl, hb2⟩)
            go_roundw
            case rel => exact ⟨m + 1, by omega, by go_num, by rw [HSt]; rfl, hb2⟩
            case measure => simp [intOf]; omega
          | false =>
            have HSt : rmP s (bFree t n) Rs (m + 1) = some ((m : Int), r.1) := by rw [hstep, rmL, hfree, hf, if_pos ⟨by omega, rfl⟩]
            have hX3 := hX2.out
            rw [hf] at hX3
            have hX2 := hide hX3
            clear hX3
            go_wp2_with fail
            go_quiet (fail)
            go_wp2_with (go_at_call 26; refine (hX2.out _).mono ?_; rintro e w1 ⟨rfl, hb2⟩)
            go_roundw
            case rel => exact ⟨m + 1, by omega, by go_num, by rw [HSt]; rfl, hb2⟩
            case measure => simp [intOf]; omega
        | some b =>
          obtain ⟨j, hj, rfl⟩ := hsome b hp
          clear hsome
          rw [hp] at hstep
          obtain ⟨g', a', l', k', hg', hz0, _, _⟩ := HALL.out j (by omega)
          obtain rfl : g = g' := by simpa using hg'
          clear hg'
          have hz0 := (HBW.out.cell (World.block_lt_of_cell? w _ hz0)).trans hz0
          generalize hs' : (Rs.getD j (0, [])).1 = s' at hz0 hstep hp
          have hz1 : (wr.alloc (.cells #[.int .i64 r.1, .slice a l k] 53)).cell? ⟨g, j * 2, none⟩ = some (.int .i64 s') := (World.cell?_alloc_past _ _ _ (World.block_lt_of_cell? wr _ hz0)).trans hz0
          have hj0 : (0 : Int) ≤ j := by omega
          have hj1 : (j : Int) < Rs.length := by omega
          have hj2 : (j : Int).toNat = j := by omega
          have d2 : decide ((0 : Int) ≤ j) = true := decide_eq_true hj0
          obtain rfl : q = j := by rw [← hq, hp]; rfl
          clear hq
          by_cases h3 : s' ≤ r.1
          · have HSt : rmP s (bFree t n) Rs (m + 1) = some ((j : Int), s') := by rw [hstep, rmL, if_neg (by simp only; omega)]
            have d3 : decide (s' ≤ r.1) = true := decide_eq_true h3
            go_wp2_with fail
            go_quiet (fail)
            go_wp2
            go_roundw
            case rel => exact ⟨m + 1, by omega, by go_num, by rw [HSt]; rfl, bdr HN.out nq⟩
            case measure => simp [intOf]; omega
          · have d3 : decide (s' ≤ r.1) = false := decide_eq_false h3
            cases hf : bz t n r.2 with
            | true =>
              have HSt : rmP s (bFree t n) Rs (m + 1) = some ((j : Int), s') := by rw [hstep, rmL, hfree, hf, if_neg (by simp)]
              have hX3 := hX2.out
              rw [hf] at hX3
              have hX2 := hide hX3
              clear hX3
              go_wp2_with fail
              go_quiet (fail)
              go_wp2_with (go_at_call 26; refine (hX2.out _).mono ?_; rintro e w1 ⟨rfl, hb2⟩)
              go_roundw
              case rel => exact ⟨m + 1, by omega, by go_num, by rw [HSt]; rfl, hb2⟩
              case measure => simp [intOf]; omega
            | false =>
              have HSt : rmP s (bFree t n) Rs (m + 1) = some ((m : Int), r.1) := by rw [hstep, rmL, hfree, hf, if_pos ⟨by omega, by simp only; omega, rfl⟩]
              have hX3 := hX2.out
              rw [hf] at hX3
              have hX2 := hide hX3
              clear hX3
              go_wp2_with fail
              go_quiet (fail)
              go_wp2_with (go_at_call 26; refine (hX2.out _).mono ?_; rintro e w1 ⟨rfl, hb2⟩)
              go_roundw
              case rel => exact ⟨m + 1, by omega, by go_num, by rw [HSt]; rfl, hb2⟩
              case measure => simp [intOf]; omega
    · obtain rfl : m = Rs.length := by omega
      have hmi : ¬ (Rs.length : Int) < (Rs.length : Int) := by omega
      go_wp2
      go_ret2
      have hs' := HS.out
      refine ⟨?_, HB0.out.1.trans (hB.mono (by omega))⟩
      have e1 : rmA t n s Rs = rmN (rmP s (bFree t n) Rs Rs.length) := by unfold rmA rmAt; rw [if_neg hs', rmP_all]
      rw [show rmB t n s Rs = decide (0 ≤ rmN (rmP s (bFree t n) Rs Rs.length)) by unfold rmB; rw [e1]; simp [hs'], e1]
      rfl
end Go.Proofs.YtabgoicholknoaaDoor
