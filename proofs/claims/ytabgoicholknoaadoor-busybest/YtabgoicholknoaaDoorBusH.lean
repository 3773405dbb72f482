/- plain.BusyFind, plain.BusyCheck. (Written by gen/bush.py.) -/
import Derived.Test.YtabgoicholknoaaDoorBusG
namespace Go.Proofs.YtabgoicholknoaaDoor
open Go.RowKit Go.Shelf Go.Maps
set_option linter.unusedVariables false
set_option linter.unusedSimpArgs false

theorem set_info : (Tryd.prog.info? 30).map (fun i => (i.zero, i.size, i.bytes)) = some (some (.agg #[.slice none 0 0]), 1, 24) := by kernel_rfl
theorem room_info : (Tryd.prog.info? 53).map (fun i => (i.zero, i.size, i.bytes)) = some (some (.agg #[.int .i64 0, .slice none 0 0]), 2, 32) := by kernel_rfl
/-- a row of one's own whose elements are sets of elder memory -/
def RowP (w : World) (B : Nat) (ty : TypeId) (v : Value) (Ps : List (List (Int × Int))) (m : Nat) (wr : World) : Prop :=
  ∃ xs, wr.ownsRow B ty 1 v m xs ∧ ∀ j, j < m → ∃ a l k, xs[j]? = some (.slice a l k) ∧ SetAt w (.slice a l k) (Ps.getD j [])
theorem RowP.at' {w : World} {B : Nat} {ty : TypeId} {v : Value} {Ps : List (List (Int × Int))} {wr : World} (h : RowP w B ty v Ps Ps.length wr) (hb : Below w.heap.size w wr) : PsAt wr v Ps := by
  obtain ⟨xs, hown, hx⟩ := h
  have hown' := hown
  rcases hown.2 with ⟨rfl, hn⟩ | ⟨g, cap, cur, rfl, _⟩
  · exact ⟨none, 0, by rw [hn], fun j hj => by omega⟩
  · refine ⟨some ⟨g, 0, none⟩, cap, rfl, fun j hj => ?_⟩
    obtain ⟨a, l, k, e, hs⟩ := hx j hj
    exact ⟨g, a, l, k, rfl, (hown'.cellAt j (by omega)).trans e, hs.below hb⟩
def RowR (w : World) (B : Nat) (ty : TypeId) (v : Value) (Rs : List (Int × List (Int × Int))) (m : Nat) (wr : World) : Prop :=
  ∃ xs, wr.ownsRow B ty 2 v m xs ∧ ∀ j, j < m → ∃ a l k, xs[j * 2]? = some (.int .i64 (Rs.getD j (0, [])).1) ∧ xs[j * 2 + 1]? = some (.slice a l k) ∧ SetAt w (.slice a l k) (Rs.getD j (0, [])).2
theorem RowR.at' {w : World} {B : Nat} {ty : TypeId} {v : Value} {Rs : List (Int × List (Int × Int))} {wr : World} (h : RowR w B ty v Rs Rs.length wr) (hb : Below w.heap.size w wr) : RsAt wr v Rs := by
  obtain ⟨xs, hown, hx⟩ := h
  have hown' := hown
  rcases hown.2 with ⟨rfl, hn⟩ | ⟨g, cap, cur, rfl, _⟩
  · exact ⟨none, 0, by rw [hn], fun j hj => by omega⟩
  · refine ⟨some ⟨g, 0, none⟩, cap, rfl, fun j hj => ?_⟩
    obtain ⟨a, l, k, e1, e2, hs⟩ := hx j hj
    exact ⟨g, a, l, k, rfl, (hown'.cellAt (j * 2) (by omega)).trans e1, (hown'.cellAt (j * 2 + 1) (by omega)).trans e2, hs.below hb⟩
theorem RowP.later {w : World} {B : Nat} {ty : TypeId} {v : Value} {Ps : List (List (Int × Int))} {m : Nat} {wr wr' : World} (h : RowP w B ty v Ps m wr) (hb : Below wr.heap.size wr wr') : RowP w B ty v Ps m wr' := by
  obtain ⟨xs, hown, hx⟩ := h
  exact ⟨xs, own_bel hown hb, hx⟩
theorem push1 {w : World} {B : Nat} {ty : TypeId} {v v' : Value} {Ps : List (List (Int × Int))} {m : Nat} {wr wr' : World} {xs : List Value} {a : Option Addr} {l k : Nat} (hown : wr.ownsRow B ty 1 v m xs) (hx : ∀ j, j < m → ∃ a l k, xs[j]? = some (.slice a l k) ∧ SetAt w (.slice a l k) (Ps.getD j []))
    (hown' : wr'.ownsRow B ty 1 v' (m + 1) (xs ++ [.slice a l k])) (hs : SetAt w (.slice a l k) (Ps.getD m [])) : RowP w B ty v' Ps (m + 1) wr' := by
  have hl : xs.length = m := by have := hown.1; omega
  refine ⟨_, hown', fun j hj => ?_⟩
  by_cases e : j = m
  · subst e
    exact ⟨a, l, k, by rw [List.getElem?_append_right (by omega), hl]; simp, hs⟩
  · obtain ⟨a', l', k', h1, h2⟩ := hx j (by omega)
    exact ⟨a', l', k', by rw [List.getElem?_append_left (by omega)]; exact h1, h2⟩
theorem push2 {w : World} {B : Nat} {ty : TypeId} {v v' : Value} {Rs : List (Int × List (Int × Int))} {m : Nat} {wr wr' : World} {xs : List Value} {a : Option Addr} {l k : Nat} (hown : wr.ownsRow B ty 2 v m xs) (hx : ∀ j, j < m → ∃ a l k, xs[j * 2]? = some (.int .i64 (Rs.getD j (0, [])).1) ∧ xs[j * 2 + 1]? = some (.slice a l k) ∧ SetAt w (.slice a l k) (Rs.getD j (0, [])).2)
    (hown' : wr'.ownsRow B ty 2 v' (m + 1) (xs ++ [.int .i64 (Rs.getD m (0, [])).1, .slice a l k])) (hs : SetAt w (.slice a l k) (Rs.getD m (0, [])).2) : RowR w B ty v' Rs (m + 1) wr' := by
  have hl : xs.length = m * 2 := hown.1
  refine ⟨_, hown', fun j hj => ?_⟩
  by_cases e : j = m
  · subst e
    exact ⟨a, l, k, by rw [List.getElem?_append_right (by omega), hl]; simp, by rw [List.getElem?_append_right (by omega), hl]; simp, hs⟩
  · obtain ⟨a', l', k', h1, h2, h3⟩ := hx j (by omega)
    exact ⟨a', l', k', by rw [List.getElem?_append_left (by omega)]; exact h1, by rw [List.getElem?_append_left (by omega)]; exact h2, h3⟩
theorem own_apart2 {w : World} {b1 b2 : Nat} {e1 e2 : TypeId} {z1 z2 : Nat} {v1 v2 : Value} {n1 n2 : Nat} {xs1 xs2 : List Value} (h1 : w.ownsRow b1 e1 z1 v1 n1 xs1) (h2 : w.ownsRow b2 e2 z2 v2 n2 xs2) (hne : e1 ≠ e2) :
    v1.ownBlock = none ∨ v1.ownBlock ≠ v2.ownBlock := by
  rcases h1.2 with ⟨rfl, _⟩ | ⟨g1, c1, cur1, rfl, _, hg1, _⟩
  · exact .inl rfl
  · rcases h2.2 with ⟨rfl, _⟩ | ⟨g2, c2, cur2, rfl, _, hg2, _⟩
    · exact .inr (by simp [Value.ownBlock])
    · refine .inr fun e => hne ?_
      have e' : g1 = g2 := by simpa [Value.ownBlock] using e
      subst e'
      have := hg1.symm.trans hg2
      simp only [Option.some.injEq, Obj.cells.injEq] at this
      exact this.2.1
def PFindP (W : Wn) (Ps : List (List (Int × Int))) (Rs : List (Int × List (Int × Int))) (w : World) (e : Ending) (w' : World) : Prop :=
  ∃ r, e = .returned (.tuple #[.agg #[.int .i64 (mtA (W.ans Ps Rs).2), .int .i64 (mtR (W.ans Ps Rs).2), r], .int .i64 (W.ans Ps Rs).1]) ∧ w'.ownsRow w.heap.size 3 1 r (mtM (W.ans Ps Rs).2).length ((mtM (W.ans Ps Rs).2).map (Value.int .i64)) ∧ Below w.heap.size w w'
theorem bfind_any (W : Wn) (mv sv : Value) (pd : Option Addr) (pc : Nat) (rv : Value) (Ps : List (List (Int × Int))) (Rs : List (Int × List (Int × Int))) (w : World) (hm : IsAt w mv W.must) (hs : IsAt w sv W.should) (hwf : ∀ x ∈ W.must ++ W.should, (Lit.int .i64 x).wf = true)
    (hPs : PsOk Ps) (hPl : Ps.length ≤ 1000000) (hp : PsAt w (.slice pd Ps.length pc) Ps) (hRs : RsOk Rs) (hRl : Rs.length ≤ 1000000) (hr : RsAt w rv Rs) :
    Calls Tryd.prog 11 #[wantV W mv sv, .slice pd Ps.length pc, rv] w (FindP W Ps Rs w) := by
  by_cases hc : W.chk Ps.length = 0
  · exact bfind_yes W mv sv pd pc rv Ps Rs w hm hs hwf hPs hPl hp hRs hRl hr ((W.chk_iff _).1 hc)
  · exact bfind_no W mv sv pd pc rv Ps Rs w hm hs hwf hc
set_option maxHeartbeats 2000000 in
theorem pbcheck_any (W : Wn) (people : Int) (mv sv : Value) (w : World) (hd : Hd w) (hm : IsAt w mv W.must) (hs : IsAt w sv W.should) (hwf : ∀ x ∈ W.must ++ W.should, (Lit.int .i64 x).wf = true) :
    Calls Tryd.prog 6 #[wantV W mv sv, .int .i64 people] w fun e w' => e = .returned (.int .i64 (W.chk people)) ∧ Below w.heap.size w w' := by
  have hb0 : Below w.heap.size w (w.alloc (wantC W mv sv)) := (Below.refl _ w).alloc (Nat.le_refl _) _
  have HK := hide (bcheck_any W people mv sv _ (hm.below hb0) (hs.below hb0) hwf)
  have HB := hide hb0
  have HD := hide hd
  clear hb0 hm hs hwf hd
  generalize W.chk people = c at *
  obtain ⟨E, hE⟩ : ∃ E, eB c = E := ⟨_, rfl⟩
  have HT := hide (fun X (h : Below w.heap.size w X) => tell_eB c X (HD.out.later h))
  rw [hE] at HK HT
  unfold wantV at *
  go_enter Tryd.func6, Tryd.ntmps6
  go_wp2_with (first
    | (go_at_call 13; refine HK.out.mono ?_; rintro e W1 ⟨rfl, hb1⟩; (have hb2 := HB.out.trans (hb1.mono (by simp))); clear hb1)
    | (go_at_call 12; refine (HT.out _ hb2).mono ?_; rintro e W2 ⟨rfl, hb3⟩))
  go_ret
  exact ⟨rfl, hb2.trans (hb3.mono hb2.size)⟩

set_option maxRecDepth 100000 in
set_option maxHeartbeats 1000000 in
theorem pbfind_any (W : Wn) (mv sv : Value) (pd : Option Addr) (pc : Nat) (rd : Option Addr) (rc : Nat) (Ps : List (List (Int × Int))) (Rs : List (Int × List (Int × Int))) (w : World) (hd : Hd w) (hm : IsAt w mv W.must) (hs : IsAt w sv W.should) (hwf : ∀ x ∈ W.must ++ W.should, (Lit.int .i64 x).wf = true)
    (hPs : PsOk Ps) (hPl : Ps.length ≤ 1000000) (hp : PsAt w (.slice pd Ps.length pc) Ps) (hRs : RsOk Rs) (hRl : Rs.length ≤ 1000000) (hr : RsAt w (.slice rd Rs.length rc) Rs) :
    Calls Tryd.prog 5 #[wantV W mv sv, .slice pd Ps.length pc, .slice rd Rs.length rc] w (PFindP W Ps Rs w) := by
  obtain ⟨i0, hi, hz0, hz1, hz2⟩ := info_parts set_info
  obtain ⟨j0, hj, hy0, hy1, hy2⟩ := info_parts room_info
  have hb0 : Below w.heap.size w ((w.alloc (wantC W mv sv)).alloc (.cells #[.int .i64 0, .int .i64 0, .slice none 0 0] 35)) := ((Below.refl _ w).alloc (Nat.le_refl _) _).alloc (by simp) _
  have hx0 : ((w.alloc (wantC W mv sv)).alloc (.cells #[.int .i64 0, .int .i64 0, .slice none 0 0] 35)).heap[w.heap.size]? = some (wantC W mv sv) := ((Below.refl (w.heap.size + 1) (w.alloc (wantC W mv sv))).alloc (by simp) _).block _ (by omega) |>.trans (World.alloc_heap_new w _)
  have hq0 : ((w.alloc (wantC W mv sv)).alloc (.cells #[.int .i64 0, .int .i64 0, .slice none 0 0] 35)).heap[w.heap.size + 1]? = some (.cells #[.int .i64 0, .int .i64 0, .slice none 0 0] 35 (0, 0)) := by
    have := World.alloc_heap_new (w.alloc (wantC W mv sv)) (.cells #[.int .i64 0, .int .i64 0, .slice none 0 0] 35)
    simpa using this
  have HB0 := hide (And.intro hb0 (And.intro hx0 hq0))
  have HI := hide (And.intro hm (And.intro hs (And.intro hp hr)))
  have HD := hide hd
  have HT := hide (fun c X (h : Below w.heap.size w X) => tell_eB c X (HD.out.later h))
  have HF := hide (fun pd pc rv X (hb : Below w.heap.size w X) hp hr => bfind_any W mv sv pd pc rv Ps Rs X (hm.below hb) (hs.below hb) hwf hPs hPl hp hRs hRl hr)
  have HQ := hide (rfl : PFindP W Ps Rs w = PFindP W Ps Rs w)
  unfold FindP at HF
  unfold PFindP
  generalize W.ans Ps Rs = R at *
  clear HQ hb0 hx0 hq0 hm hs hp hr hd
  unfold wantV at *
  go_enter Tryd.func5, Tryd.ntmps5
  go_wp2_with fail
  go_loopw [8, 18] (fun v i wr => ∃ m : Nat, m ≤ Ps.length ∧ i = .int .i64 m ∧ RowP w (w.heap.size + 2) 30 v Ps m wr ∧ Below (w.heap.size + 2) ((w.alloc (wantC W mv sv)).alloc (.cells #[.int .i64 0, .int .i64 0, .slice none 0 0] 35)) wr) (fun _ i _ => Ps.length - (intOf i).toNat)
  case atStart => exact ⟨0, by omega, rfl, ⟨[], World.ownsRow_nil _ _ _ _, fun j hj => absurd hj (Nat.not_lt_zero j)⟩, Below.refl _ _⟩
  case round =>
    obtain ⟨m, hm, rfl, hrow, hB⟩ := hrel
    by_cases hlt : m < Ps.length
    · have hmi : (m : Int) < (Ps.length : Int) := by omega
      obtain ⟨g, a, l, k, rfl, hc, hset⟩ := HI.out.2.2.1.form hlt
      have hb1 : Below w.heap.size w wr := HB0.out.1.trans (hB.mono (by omega))
      have hx := (hb1.cell (World.block_lt_of_cell? w _ hc)).trans hc
      obtain ⟨xs, hown, hxs⟩ := hrow
      have hsz : w.heap.size + 2 ≤ wr.heap.size := by have := hB.size; simpa using this
      have HX := hide (And.intro hxs hset)
      have HBB := hide hB
      clear hc hset hxs hB
      have hcn := cell_one_new (wr.alloc (.cells #[.slice a l k] 32)) (.slice a l k) 30
      rw [World.size_alloc] at hcn
      go_wp2_with (at_builtin; refine wpList_append_own _ rfl _ _ 48 rfl (w.heap.size + 2) 30 i0 (.agg #[.slice none 0 0]) 1 24 Tryd.underlying48 hi hz0 hz1 hz2 rfl (by decide) _ _ _ rfl ((hown.alloc (.cells #[.slice a l k] 32)).alloc (.cells #[.slice a l k] 30)) ⟨wr.heap.size + 1, 0, none⟩ 1 1 [.slice a l k] rfl rfl hcn (fun u hu => by simp at hu; subst hu; rfl) (by unfold maxLen; omega) (by omega) (by simp; omega) ?_; intro v' w1 hown1 hgrow1 hnil1)
      have hr1 := (hown.alloc (.cells #[.slice a l k] 32)).alloc (.cells #[.slice a l k] 30)
      have hbn : Below (w.heap.size + 2) ((w.alloc (wantC W mv sv)).alloc (.cells #[.int .i64 0, .int .i64 0, .slice none 0 0] 35)) w1 := ((HBB.out.alloc hsz _).alloc (by simp; omega) _).grown hgrow1 (by simp; omega) (fun j hj => (hr1.lt j hj).1)
      go_roundw
      case rel => exact ⟨m + 1, by omega, by go_num, push1 hown HX.out.1 hown1 HX.out.2, hbn⟩
      case measure => simp [intOf]; omega
    · obtain rfl : m = Ps.length := by omega
      have hmi : ¬ (Ps.length : Int) < (Ps.length : Int) := by omega
      have HP := hide (And.intro hrow hB)
      clear hrow hB
      go_wp2_with fail
      go_loopw [11, 30] (fun v i wr => ∃ m : Nat, m ≤ Rs.length ∧ i = .int .i64 m ∧ RowR w (w.heap.size + 2) 53 v Rs m wr ∧ RowP w (w.heap.size + 2) 30 u8 Ps Ps.length wr ∧ Below (w.heap.size + 2) ((w.alloc (wantC W mv sv)).alloc (.cells #[.int .i64 0, .int .i64 0, .slice none 0 0] 35)) wr) (fun _ i _ => Rs.length - (intOf i).toNat)
      case atStart => exact ⟨0, by omega, rfl, ⟨[], World.ownsRow_nil _ _ _ _, fun j hj => absurd hj (Nat.not_lt_zero j)⟩, HP.out.1, HP.out.2⟩
      case round =>
        obtain ⟨m, hm, rfl, hrow, hP, hB⟩ := hrel
        by_cases hlt : m < Rs.length
        · have hmi : (m : Int) < (Rs.length : Int) := by omega
          obtain ⟨rd0, rc0, er, hrall⟩ := HI.out.2.2.2
          cases er
          obtain ⟨g, a, l, k, rfl, hc0, hc, hset⟩ := hrall m hlt
          have hb1 : Below w.heap.size w wr := HB0.out.1.trans (hB.mono (by omega))
          have hx0 := (hb1.cell (World.block_lt_of_cell? w _ hc0)).trans hc0
          have hx := (hb1.cell (World.block_lt_of_cell? w _ hc)).trans hc
          obtain ⟨xs, hown, hxs⟩ := hrow
          obtain ⟨ps, hpo, hpx⟩ := hP
          have hsz : w.heap.size + 2 ≤ wr.heap.size := by have := hB.size; simpa using this
          have hpush := fun v' w1 hn => push2 (v' := v') (wr' := w1) hown hxs hn hset
          generalize (Rs.getD m (0, [])).1 = se at *
          have HX := hide hpush
          have HBB := hide hB
          have HPP := hide hpx
          clear hc0 hc hset hxs hB hpush hpx
          have hcn : ∀ j u, [Value.int .i64 se, .slice a l k][j]? = some u → ((wr.alloc (.cells #[.int .i64 se, .slice a l k] 51)).alloc (.cells #[.int .i64 se, .slice a l k] 53)).cell? ((⟨wr.heap.size + 1, 0, none⟩ : Addr).add j) = some u := fun j u hu => by
            have hq := cell_new2 (wr.alloc (.cells #[.int .i64 se, .slice a l k] 51)) (.int .i64 se) (.slice a l k) 53 (wr.heap.size + 1) (by simp)
            match j, hu with
            | 0, hu => simp at hu; subst hu; exact hq.1
            | 1, hu => simp at hu; subst hu; exact hq.2
            | j + 2, hu => simp at hu
          go_wp2_with (at_builtin; refine wpList_append_own _ rfl _ _ 49 rfl (w.heap.size + 2) 53 j0 (.agg #[.int .i64 0, .slice none 0 0]) 2 32 Tryd.underlying49 hj hy0 hy1 hy2 rfl (by decide) _ _ _ rfl ((hown.alloc (.cells #[.int .i64 se, .slice a l k] 51)).alloc (.cells #[.int .i64 se, .slice a l k] 53)) ⟨wr.heap.size + 1, 0, none⟩ 1 1 [.int .i64 se, .slice a l k] rfl rfl hcn (fun u hu => by simp at hu; rcases hu with rfl | rfl <;> rfl) (by unfold maxLen; omega) (by omega) (by simp; omega) ?_; intro v' w1 hown1 hgrow1 hnil1)
          have hr1 := (hown.alloc (.cells #[.int .i64 se, .slice a l k] 51)).alloc (.cells #[.int .i64 se, .slice a l k] 53)
          have hp1 := (hpo.alloc (.cells #[.int .i64 se, .slice a l k] 51)).alloc (.cells #[.int .i64 se, .slice a l k] 53)
          have hap := own_apart2 hp1 hr1 (by decide)
          have hp2 := hp1.kept hgrow1 hap
          have hbn : Below (w.heap.size + 2) ((w.alloc (wantC W mv sv)).alloc (.cells #[.int .i64 0, .int .i64 0, .slice none 0 0] 35)) w1 := ((HBB.out.alloc hsz _).alloc (by simp; omega) _).grown hgrow1 (by simp; omega) (fun j hj => (hr1.lt j hj).1)
          go_roundw
          case rel => exact ⟨m + 1, by omega, by go_num, HX.out _ _ hown1, ⟨ps, hp2, HPP.out⟩, hbn⟩
          case measure => simp [intOf]; omega
        · obtain rfl : m = Rs.length := by omega
          have hmi : ¬ (Rs.length : Int) < (Rs.length : Int) := by omega
          have hb1 : Below w.heap.size w wr := HB0.out.1.trans (hB.mono (by omega))
          have hPA := hP.at' hb1
          have hRA := hrow.at' hb1
          obtain ⟨pa, pk, rfl, _⟩ := id hPA
          obtain ⟨qa, qk, rfl, _⟩ := id hRA
          have hX := hide (HF.out pa pk _ wr hb1 hPA hRA)
          have hq1 : wr.heap[w.heap.size + 1]? = some (.cells #[.int .i64 0, .int .i64 0, .slice none 0 0] 35 (0, 0)) := (hB.block _ (by omega)).trans HB0.out.2.2
          have hx1 : wr.heap[w.heap.size]? = some (wantC W mv sv) := (hB.block _ (by omega)).trans HB0.out.2.1
          have c0 : wr.cell? ⟨w.heap.size, 0, none⟩ = some (.int .i64 W.len) := cell_of_row _ _ _ _ _ (0, 0) hx1
          have c1 : wr.cell? ⟨w.heap.size, 1, none⟩ = some (.int .i64 W.step) := cell_of_row _ _ _ _ _ (0, 0) hx1
          have c2 : wr.cell? ⟨w.heap.size, 2, none⟩ = some (.int .i64 W.from') := cell_of_row _ _ _ _ _ (0, 0) hx1
          have c3 : wr.cell? ⟨w.heap.size, 3, none⟩ = some (.int .i64 W.to') := cell_of_row _ _ _ _ _ (0, 0) hx1
          have c4 : wr.cell? ⟨w.heap.size, 4, none⟩ = some mv := cell_of_row _ _ _ _ _ (0, 0) hx1
          have c5 : wr.cell? ⟨w.heap.size, 5, none⟩ = some sv := cell_of_row _ _ _ _ _ (0, 0) hx1
          have c6 : wr.cell? ⟨w.heap.size, 6, none⟩ = some (.int .i64 W.seats) := cell_of_row _ _ _ _ _ (0, 0) hx1
          have hsz : w.heap.size + 2 ≤ wr.heap.size := by have := hB.size; simpa using this
          have HZ := hide (And.intro hb1 (And.intro hq1 hsz))
          clear hPA hRA hP hrow hB hb1 hq1 hx1 HP HI HB0 hsz
          go_wp2_with (go_at_call 11; refine hX.out.mono ?_; rintro e W3 ⟨r, rfl, hr3, hb3⟩; obtain ⟨ra, rk, rfl⟩ := own_len hr3)
          have hz3 := hb3.size
          have hq3 := (hb3.block (w.heap.size + 1) (by have := HZ.out.2.2; omega)).trans HZ.out.2.1
          have hB3 := HZ.out.1.trans (hb3.mono HZ.out.1.size)
          obtain ⟨A0, hA0⟩ : ∃ A0, mtA R.2 = A0 := ⟨_, rfl⟩
          obtain ⟨R0, hR0⟩ : ∃ R0, mtR R.2 = R0 := ⟨_, rfl⟩
          obtain ⟨M0, hM0⟩ : ∃ M0, mtM R.2 = M0 := ⟨_, rfl⟩
          obtain ⟨C0, hC0⟩ : ∃ C0, R.1 = C0 := ⟨_, rfl⟩
          rw [hA0, hR0, hM0, hC0]
          rw [hM0] at hr3
          have h4 := World.alloc_heap_new W3 (.cells #[.int .i64 A0, .int .i64 R0, .slice ra M0.length rk] 35)
          have hb4 : Below W3.heap.size W3 (W3.alloc (.cells #[.int .i64 A0, .int .i64 R0, .slice ra M0.length rk] 35)) := (Below.refl _ W3).alloc (Nat.le_refl _) _
          have hqz : w.heap.size + 1 < W3.heap.size := by have := HZ.out.2.2; omega
          have HR := hide (And.intro hr3 hqz)
          have hS : (((W3.alloc (.cells #[.int .i64 A0, .int .i64 R0, .slice ra M0.length rk] 35)).drew.cell? ⟨W3.heap.size, 0, none⟩ = some (.int .i64 A0) ∧ (W3.alloc (.cells #[.int .i64 A0, .int .i64 R0, .slice ra M0.length rk] 35)).drew.cell? ⟨W3.heap.size, 1, none⟩ = some (.int .i64 R0) ∧ (W3.alloc (.cells #[.int .i64 A0, .int .i64 R0, .slice ra M0.length rk] 35)).drew.cell? ⟨W3.heap.size, 2, none⟩ = some (.slice ra M0.length rk)) ∧ (W3.alloc (.cells #[.int .i64 A0, .int .i64 R0, .slice ra M0.length rk] 35)).drew.heap[w.heap.size + 1]? = some (.cells #[.int .i64 0, .int .i64 0, .slice none 0 0] 35 (0, 0))) ∧ Below W3.heap.size W3 (W3.alloc (.cells #[.int .i64 A0, .int .i64 R0, .slice ra M0.length rk] 35)).drew :=
            ⟨⟨⟨cell_of_row _ _ _ _ _ (0, 0) h4, cell_of_row _ _ _ _ _ (0, 0) h4, cell_of_row _ _ _ _ _ (0, 0) h4⟩, (hb4.block _ hqz).trans hq3⟩, hb4.drew⟩
          clear h4 hb4 hq3 hX c0 c1 c2 c3 c4 c5 c6 hb3 hr3
          refine wp_region_noPanic ?_
          refine wp_region_linGM (S := fun X => ((X.cell? ⟨W3.heap.size, 0, none⟩ = some (.int .i64 A0) ∧ X.cell? ⟨W3.heap.size, 1, none⟩ = some (.int .i64 R0) ∧ X.cell? ⟨W3.heap.size, 2, none⟩ = some (.slice ra M0.length rk)) ∧ X.heap[w.heap.size + 1]? = some (.cells #[.int .i64 0, .int .i64 0, .slice none 0 0] 35 (0, 0))) ∧ Below W3.heap.size W3 X) (R := fun _ => True) [3] (by kernel_rfl) (by kernel_rfl) [(0, none, 0), (1, none, 1), (2, none, 2), (3, none, 3), (4, none, 1)] (by kernel_rfl) (by kernel_rfl) (fun _ _ _ _ _ h => h) (by exact trivial) (by exact hS) (fun ops' Q' hops hQ' => ?_)
          refine wpLinG_read (o := { dst := some 51, op := Go.Op.load 35 (Go.Operand.tmp 14), type := 35, pos := "plain.go:636", after := #[], guard := none }) (v := ?vx0) (by rw [hops]; rfl) (by first | exact trivial | rfl) hS ?ex0 ?hx0
          case ex0 => intro w' hw'; obtain ⟨⟨⟨e1, e2, e3⟩, _⟩, _⟩ := hw'; go_simp; (try rfl)
          (try simp only [Act.put, List.setIfInBounds_toArray, List.set_cons_zero, List.set_cons_succ])
          refine wpLinG_pure (o := { dst := some 52, op := Go.Op.move (Go.Operand.tmp 15), type := 55, pos := "plain.go:636", after := #[], guard := none }) (v := ?vx1) (by rw [hops]; rfl) (by first | exact trivial | rfl) ?ex1 ?hx1
          case ex1 => intro w'; go_simp; (try rfl)
          (try simp only [Act.put, List.setIfInBounds_toArray, List.set_cons_zero, List.set_cons_succ])
          refine wpLinG_do (o := { dst := some 53, op := Go.Op.call { callee := Go.Callee.value (Go.Operand.func 12), args := #[Go.Operand.tmp 52], argTypes := #[55] }, type := 36, pos := "plain.go:636", after := #[{ on := 1, ground := Go.Ground.data }], guard := none }) (by rw [hops]; rfl) (by first | exact trivial | rfl) (fun K hK => ?_)
          go_simp
          have hq := hS.2
          refine (HT.out _ _ (hB3.trans (hq.mono hB3.size))).mono ?_
          rintro e X ⟨rfl, hb⟩
          replace hS : ((X.cell? ⟨W3.heap.size, 0, none⟩ = some (.int .i64 A0) ∧ X.cell? ⟨W3.heap.size, 1, none⟩ = some (.int .i64 R0) ∧ X.cell? ⟨W3.heap.size, 2, none⟩ = some (.slice ra M0.length rk)) ∧ X.heap[w.heap.size + 1]? = some (.cells #[.int .i64 0, .int .i64 0, .slice none 0 0] 35 (0, 0))) ∧ Below W3.heap.size W3 X := ⟨⟨⟨(hb.cell (World.block_lt_of_cell? _ _ hS.1.1.1)).trans hS.1.1.1, (hb.cell (World.block_lt_of_cell? _ _ hS.1.1.2.1)).trans hS.1.1.2.1, (hb.cell (World.block_lt_of_cell? _ _ hS.1.1.2.2)).trans hS.1.1.2.2⟩, (hb.block _ (Array.getElem?_eq_some_iff.1 hS.1.2).1).trans hS.1.2⟩, hq.trans (hb.mono hq.size)⟩
          have hqX := hS.1.2
          have s0 : X.cell? ⟨w.heap.size + 1, 0, none⟩ = some (.int .i64 0) := cell_of_row _ _ _ _ _ (0, 0) hqX
          have s1 : X.cell? ⟨w.heap.size + 1, 1, none⟩ = some (.int .i64 0) := cell_of_row _ _ _ _ _ (0, 0) hqX
          have s2 : X.cell? ⟨w.heap.size + 1, 2, none⟩ = some (.slice none 0 0) := cell_of_row _ _ _ _ _ (0, 0) hqX
          have fR := frz hqX
          clear hb hq
          refine hK _ _ trivial hS ?_
          clear hK K
          (try simp only [Act.put, List.setIfInBounds_toArray, List.set_cons_zero, List.set_cons_succ])
          refine wpLinG_store (o := { dst := none, op := Go.Op.store 35 (Go.Operand.tmp 6) (Go.Operand.tmp 51), type := 0, pos := "plain.go:636", after := #[{ on := 0, ground := Go.Ground.data }, { on := 2, ground := Go.Ground.chain }, { on := 0, ground := Go.Ground.phase }, { on := 1, ground := Go.Ground.textOnly Go.Departure.lateStores }, { on := 2, ground := Go.Ground.textOnly Go.Departure.lateStoresUnsure }], guard := none }) (by rw [hops]; rfl) (by first | exact trivial | rfl) (fun K hK => ?_)
          go_simp
          refine hK _ _ trivial ?_
          clear hK K
          (try simp only [Act.put, List.setIfInBounds_toArray, List.set_cons_zero, List.set_cons_succ])
          refine wpLinG_pure (o := { dst := some 7, op := Go.Op.assign (Go.Operand.tmp 53), type := 36, pos := "plain.go:636", after := #[{ on := 2, ground := Go.Ground.data }, { on := 3, ground := Go.Ground.chain }, { on := 0, ground := Go.Ground.phase }, { on := 1, ground := Go.Ground.phase }, { on := 2, ground := Go.Ground.phase }, { on := 3, ground := Go.Ground.phase }], guard := none }) (v := ?vx4) (by rw [hops]; rfl) (by first | exact trivial | rfl) ?ex4 ?hx4
          case ex4 => intro w'; go_simp; (try rfl)
          (try simp only [Act.put, List.setIfInBounds_toArray, List.set_cons_zero, List.set_cons_succ])
          subst hQ'
          refine NoPanic.normal ?_
          clear hops
          obtain ⟨g1, g2, g3⟩ := put3 hqX (.int .i64 A0) (.int .i64 R0) (.slice ra M0.length rk)
          have hBX := hB3.trans (hS.2.mono hB3.size)
          have hbE := below3 hBX (show w.heap.size ≤ w.heap.size + 1 by omega) g2 g3
          have hrX := own_bel HR.out.1 hS.2
          have hzw := HZ.out.1.size
          have hzz := HZ.out.2.2
          have hro : (((X.setCell ⟨w.heap.size + 1, 0, none⟩ (.int .i64 A0)).setCell ⟨w.heap.size + 1, 1, none⟩ (.int .i64 R0)).setCell ⟨w.heap.size + 1, 2, none⟩ (.slice ra M0.length rk)).ownsRow w.heap.size 3 1 (.slice ra M0.length rk) M0.length (M0.map (Value.int .i64)) :=
            own_mono ⟨hrX.1, hrX.2.imp id fun ⟨g, cap, cur, h1, h2, h3, h4⟩ => ⟨g, cap, cur, h1, h2, (g2 g (fun e => by omega)).trans h3, h4⟩⟩ hzw
          have HE := hide (And.intro hbE (And.intro g1 hro))
          clear g1 g2 g3 hBX hbE hrX hro hS s0 s1 s2 fR hqX
          go_wp2
          refine bodyPost_ret (v := .tuple #[.agg #[.int .i64 A0, .int .i64 R0, .slice ra M0.length rk], .int .i64 C0]) ?_ rfl ⟨.slice ra M0.length rk, by rw [hA0, hR0, hC0], by rw [hM0]; exact HE.out.2.2, HE.out.1⟩
          rw [results_cell_tmp rfl]
          show ((asAddr (.pointer (some ⟨w.heap.size + 1, 0, none⟩))).run _ _).andThen _ = _
          simp only [asAddr, Sem.run_pure, Result.andThen_ok, run_loadVar_row _ (w.heap.size + 1) _ 35 _ _ _ HE.out.2.1 Tryd.underlying35 rfl (by kernel_rfl)]
          rfl
end Go.Proofs.YtabgoicholknoaaDoor
