/- busy: Find. -/
import Derived.Test.YtabgoicholknoaaDoorBusF
import Derived.Laws.ResultCell
import Derived.Laws.Tables
namespace Go.Proofs.YtabgoicholknoaaDoor
open Go.RowKit Go.Shelf Go.Maps
set_option linter.unusedVariables false
set_option linter.unusedSimpArgs false

theorem frz {W : World} {B : Nat} {cs : Array Value} {t : TypeId} (h : W.heap[B]? = some (.cells cs t (0, 0))) (k : Nat) : W.frozen? ⟨B, k, none⟩ = false := by
  simp [World.frozen?, h]
/-- a struct of three cells, stored -/
theorem put3 {W : World} {R : Nat} {a b c : Value} {t : TypeId} (h : W.heap[R]? = some (.cells #[a, b, c] t (0, 0))) (x y z : Value) :
    (((W.setCell ⟨R, 0, none⟩ x).setCell ⟨R, 1, none⟩ y).setCell ⟨R, 2, none⟩ z).heap[R]? = some (.cells #[x, y, z] t (0, 0)) ∧
    (∀ k, k ≠ R → (((W.setCell ⟨R, 0, none⟩ x).setCell ⟨R, 1, none⟩ y).setCell ⟨R, 2, none⟩ z).heap[k]? = W.heap[k]?) ∧
    W.heap.size ≤ (((W.setCell ⟨R, 0, none⟩ x).setCell ⟨R, 1, none⟩ y).setCell ⟨R, 2, none⟩ z).heap.size := by
  have h1 : (W.setCell ⟨R, 0, none⟩ x).heap[R]? = some (.cells #[x, b, c] t (0, 0)) := by
    rw [setCell_eq_setRow W R 0 _ _ _ _ h]; exact setRow_heap W R _ _ _ _ h
  have h2 : ((W.setCell ⟨R, 0, none⟩ x).setCell ⟨R, 1, none⟩ y).heap[R]? = some (.cells #[x, y, c] t (0, 0)) := by
    rw [setCell_eq_setRow _ R 1 _ _ _ _ h1]; exact setRow_heap _ R _ _ _ _ h1
  refine ⟨?_, fun k hk => (Below.heap_setCell _ _ _ k (fun e => hk e)).trans ((Below.heap_setCell _ _ _ k (fun e => hk e)).trans (Below.heap_setCell _ _ _ k (fun e => hk e))), Nat.le_trans (KeepsWalks.setCell _ _ _).size (Nat.le_trans (KeepsWalks.setCell _ _ _).size (KeepsWalks.setCell _ _ _).size)⟩
  rw [setCell_eq_setRow _ R 2 _ _ _ _ h2]; exact setRow_heap _ R _ _ _ _ h2
theorem own_mono {w : World} {b b' z n : Nat} {v : Value} {ty : TypeId} {xs : List Value} (h : w.ownsRow b ty z v n xs) (hb : b' ≤ b) : w.ownsRow b' ty z v n xs :=
  ⟨h.1, h.2.imp id fun ⟨g, cap, cur, h1, h2, h3⟩ => ⟨g, cap, cur, h1, Nat.le_trans hb h2, h3⟩⟩
theorem below3 {w W : World} {B R : Nat} {x y z : Value} (h : Below B w W) (hR : B ≤ R) (g2 : ∀ k, k ≠ R → (((W.setCell ⟨R, 0, none⟩ x).setCell ⟨R, 1, none⟩ y).setCell ⟨R, 2, none⟩ z).heap[k]? = W.heap[k]?) (g3 : W.heap.size ≤ (((W.setCell ⟨R, 0, none⟩ x).setCell ⟨R, 1, none⟩ y).setCell ⟨R, 2, none⟩ z).heap.size) :
    Below B w (((W.setCell ⟨R, 0, none⟩ x).setCell ⟨R, 1, none⟩ y).setCell ⟨R, 2, none⟩ z) :=
  ⟨h.os, h.tape, h.output, Nat.le_trans h.size g3, fun k hk => (g2 k (by omega)).trans (h.block k hk)⟩
theorem own_len {w : World} {b z n : Nat} {v : Value} {ty : TypeId} {xs : List Value} (h : w.ownsRow b ty z v n xs) : ∃ a c, v = .slice a n c := by
  rcases h.2 with ⟨rfl, rfl⟩ | ⟨g, cap, cur, rfl, _⟩
  · exact ⟨_, _, rfl⟩
  · exact ⟨_, _, rfl⟩
def mtA : Mt → Int | none => 0 | some a => a.1
def mtR : Mt → Int | none => 0 | some a => a.2.1
def mtM : Mt → List Int | none => [] | some a => a.2.2
/-- the boxes of Find: what is looked for, people, the answer; the best so far -/
structure BW (W : Wn) (mv sv pv : Value) (w : World) (Bb : Nat) (acc : Mt) (wr : World) : Prop where
  x : wr.heap[w.heap.size]? = some (.cells #[.int .i64 W.len, .int .i64 W.step, .int .i64 W.from', .int .i64 W.to', mv, sv, .int .i64 W.seats] 25 (0, 0))
  p : wr.heap[w.heap.size + 1]? = some (.cells #[pv] 48 (0, 0))
  q : wr.heap[w.heap.size + 2]? = some (.cells #[.int .i64 0, .int .i64 0, .slice none 0 0] 35 (0, 0))
  l : w.heap.size + 2 < Bb
  y : ∃ r, wr.heap[Bb]? = some (.cells #[.int .i64 (mtA acc), .int .i64 (mtR acc), r] 35 (0, 0)) ∧ wr.ownsRow w.heap.size 3 1 r (mtM acc).length ((mtM acc).map (Value.int .i64))
  b : Below w.heap.size w wr
theorem BW.lt {W : Wn} {mv sv pv : Value} {w : World} {Bb : Nat} {acc : Mt} {wr : World} (h : BW W mv sv pv w Bb acc wr) : Bb < wr.heap.size := by
  obtain ⟨r, hy, _⟩ := h.y
  exact (Array.getElem?_eq_some_iff.1 hy).1
theorem BW.later {W : Wn} {mv sv pv : Value} {w : World} {Bb : Nat} {acc : Mt} {wr wr' : World} (h : BW W mv sv pv w Bb acc wr) (hb : Below wr.heap.size wr wr') : BW W mv sv pv w Bb acc wr' := by
  have hl := h.lt
  have hl2 := h.l
  obtain ⟨r, hy, hr⟩ := h.y
  exact ⟨(hb.block _ (by omega)).trans h.x, (hb.block _ (by omega)).trans h.p, (hb.block _ (by omega)).trans h.q, hl2, ⟨r, (hb.block _ hl).trans hy, own_bel hr hb⟩, h.b.trans (hb.mono h.b.size)⟩
/-- a better one is kept -/
theorem BW.put {W : Wn} {mv sv pv : Value} {w : World} {Bb : Nat} {acc : Mt} {wr : World} (h : BW W mv sv pv w Bb acc wr) (t rm : Int) (ms : List Int) (r : Value) (base : Nat) (hr : wr.ownsRow base 3 1 r ms.length (ms.map (Value.int .i64))) (hbase : Bb < base) :
    BW W mv sv pv w Bb (some (t, rm, ms)) (((wr.setCell ⟨Bb, 0, none⟩ (.int .i64 t)).setCell ⟨Bb, 1, none⟩ (.int .i64 rm)).setCell ⟨Bb, 2, none⟩ r) := by
  have hl := h.lt
  have hl2 := h.l
  obtain ⟨r0, hy, _⟩ := h.y
  obtain ⟨g1, g2, g3⟩ := put3 hy (.int .i64 t) (.int .i64 rm) r
  have hr' : (((wr.setCell ⟨Bb, 0, none⟩ (.int .i64 t)).setCell ⟨Bb, 1, none⟩ (.int .i64 rm)).setCell ⟨Bb, 2, none⟩ r).ownsRow base 3 1 r ms.length (ms.map (Value.int .i64)) :=
    ⟨hr.1, hr.2.imp id fun ⟨g, cap, cur, h1, h2, h3, h4⟩ => ⟨g, cap, cur, h1, h2, (g2 g (by omega)).trans h3, h4⟩⟩
  exact ⟨(g2 _ (by omega)).trans h.x, (g2 _ (by omega)).trans h.p, (g2 _ (by omega)).trans h.q, hl2, ⟨r, g1, own_mono hr' (by omega)⟩,
    ⟨h.b.os, h.b.tape, h.b.output, Nat.le_trans h.b.size g3, fun k hk => (g2 k (by omega)).trans (h.b.block k hk)⟩⟩
theorem BW.wants {W : Wn} {mv sv pv : Value} {w : World} {Bb : Nat} {acc : Mt} {wr : World} (h : BW W mv sv pv w Bb acc wr) :
    wr.cell? ⟨w.heap.size, 0, none⟩ = some (.int .i64 W.len) ∧ wr.cell? ⟨w.heap.size, 1, none⟩ = some (.int .i64 W.step) ∧ wr.cell? ⟨w.heap.size, 2, none⟩ = some (.int .i64 W.from') ∧ wr.cell? ⟨w.heap.size, 3, none⟩ = some (.int .i64 W.to') ∧
    wr.cell? ⟨w.heap.size, 4, none⟩ = some mv ∧ wr.cell? ⟨w.heap.size, 5, none⟩ = some sv ∧ wr.cell? ⟨w.heap.size, 6, none⟩ = some (.int .i64 W.seats) ∧ wr.cell? ⟨w.heap.size + 1, 0, none⟩ = some pv :=
  ⟨cell_of_row _ _ _ _ _ (0, 0) h.x, cell_of_row _ _ _ _ _ (0, 0) h.x, cell_of_row _ _ _ _ _ (0, 0) h.x, cell_of_row _ _ _ _ _ (0, 0) h.x, cell_of_row _ _ _ _ _ (0, 0) h.x, cell_of_row _ _ _ _ _ (0, 0) h.x, cell_of_row _ _ _ _ _ (0, 0) h.x, cell_of_row _ _ _ _ _ (0, 0) h.p⟩
theorem bw_start (W : Wn) (mv sv pv : Value) (w W1 : World) (hb : Below (((w.alloc (wantC W mv sv)).alloc (.cells #[pv] 48)).alloc (.cells #[.int .i64 0, .int .i64 0, .slice none 0 0] 35)).heap.size (((w.alloc (wantC W mv sv)).alloc (.cells #[pv] 48)).alloc (.cells #[.int .i64 0, .int .i64 0, .slice none 0 0] 35)) W1) :
    BW W mv sv pv w W1.heap.size none (W1.alloc (.cells #[.int .i64 0, .int .i64 0, .slice none 0 0] 35)) := by
  have hz : w.heap.size + 3 ≤ W1.heap.size := by have := hb.size; simp at this; omega
  have a1 : (w.alloc (wantC W mv sv)).heap[w.heap.size]? = some (wantC W mv sv) := World.alloc_heap_new w _
  have a2 : ((w.alloc (wantC W mv sv)).alloc (.cells #[pv] 48)).heap[w.heap.size + 1]? = some (.cells #[pv] 48) := by
    have := World.alloc_heap_new (w.alloc (wantC W mv sv)) (.cells #[pv] 48)
    simpa using this
  have a3 : (((w.alloc (wantC W mv sv)).alloc (.cells #[pv] 48)).alloc (.cells #[.int .i64 0, .int .i64 0, .slice none 0 0] 35)).heap[w.heap.size + 2]? = some (.cells #[.int .i64 0, .int .i64 0, .slice none 0 0] 35) := by
    have := World.alloc_heap_new ((w.alloc (wantC W mv sv)).alloc (.cells #[pv] 48)) (.cells #[.int .i64 0, .int .i64 0, .slice none 0 0] 35)
    simpa using this
  have s1 := ((Below.refl w.heap.size w).alloc (Nat.le_refl _) (wantC W mv sv))
  have s2 := ((Below.refl (w.heap.size + 1) (w.alloc (wantC W mv sv))).alloc (by simp) (.cells #[pv] 48))
  have s3 := ((Below.refl (w.heap.size + 2) ((w.alloc (wantC W mv sv)).alloc (.cells #[pv] 48))).alloc (by simp) (.cells #[.int .i64 0, .int .i64 0, .slice none 0 0] 35))
  have s4 := hb.mono (show w.heap.size + 3 ≤ _ by simp)
  have s5 := ((Below.refl W1.heap.size W1).alloc (Nat.le_refl _) (.cells #[.int .i64 0, .int .i64 0, .slice none 0 0] 35))
  have a4 := World.alloc_heap_new W1 (.cells #[.int .i64 0, .int .i64 0, .slice none 0 0] 35)
  exact ⟨(s5.block _ (by omega)).trans ((s4.block _ (by omega)).trans ((s3.block _ (by omega)).trans ((s2.block _ (by omega)).trans a1))),
    (s5.block _ (by omega)).trans ((s4.block _ (by omega)).trans ((s3.block _ (by omega)).trans a2)),
    (s5.block _ (by omega)).trans ((s4.block _ (by omega)).trans a3), by omega, ⟨_, a4, World.ownsRow_nil _ _ _ _⟩,
    s1.trans ((s2.mono (by omega)).trans ((s3.mono (by omega)).trans ((s4.mono (by omega)).trans (s5.mono (by omega)))))⟩
/-- what Find answers: what is wrong, and the meeting -/
def Wn.ans (W : Wn) (Ps : List (List (Int × Int))) (Rs : List (Int × List (Int × Int))) : Int × Mt :=
  if W.chk Ps.length = 0 then (if (W.fndN Ps Rs W.many).isSome = true then 0 else 12, W.fndN Ps Rs W.many) else (W.chk Ps.length, none)
def FindP (W : Wn) (Ps : List (List (Int × Int))) (Rs : List (Int × List (Int × Int))) (w : World) (e : Ending) (w' : World) : Prop :=
  ∃ r, e = .returned (.tuple #[.agg #[.int .i64 (mtA (W.ans Ps Rs).2), .int .i64 (mtR (W.ans Ps Rs).2), r], eB (W.ans Ps Rs).1]) ∧ w'.ownsRow w.heap.size 3 1 r (mtM (W.ans Ps Rs).2).length ((mtM (W.ans Ps Rs).2).map (Value.int .i64)) ∧ Below w.heap.size w w'
set_option maxRecDepth 100000 in
set_option maxHeartbeats 4000000 in
theorem bfind_no (W : Wn) (mv sv : Value) (pd : Option Addr) (pc : Nat) (rv : Value) (Ps : List (List (Int × Int))) (Rs : List (Int × List (Int × Int))) (w : World) (hm : IsAt w mv W.must) (hs : IsAt w sv W.should) (hwf : ∀ x ∈ W.must ++ W.should, (Lit.int .i64 x).wf = true) (hc : W.chk Ps.length ≠ 0) :
    Calls Tryd.prog 11 #[wantV W mv sv, .slice pd Ps.length pc, rv] w (FindP W Ps Rs w) := by
  have hb0 : Below w.heap.size w (((w.alloc (wantC W mv sv)).alloc (.cells #[.slice pd Ps.length pc] 48)).alloc (.cells #[.int .i64 0, .int .i64 0, .slice none 0 0] 35)) :=
    (((Below.refl _ w).alloc (Nat.le_refl _) _).alloc (by simp) _).alloc (by simp; omega) _
  have hq := World.alloc_heap_new ((w.alloc (wantC W mv sv)).alloc (.cells #[.slice pd Ps.length pc] 48)) (.cells #[.int .i64 0, .int .i64 0, .slice none 0 0] 35)
  simp only [World.size_alloc] at hq
  have k0 := bcheck_any W Ps.length mv sv _ (hm.below hb0) (hs.below hb0) hwf
  have he : eB (W.chk Ps.length) = .iface 36 (.int .i64 (W.chk Ps.length)) := if_neg hc
  have hA : W.ans Ps Rs = (W.chk Ps.length, none) := if_neg hc
  unfold FindP
  rw [hA]
  rw [he] at k0
  simp only [he]
  have HK := hide k0
  have HB := hide (And.intro hb0 hq)
  clear hb0 hq hm hs hwf hA k0 he
  generalize W.chk Ps.length = c at *
  unfold wantV at *
  go_enter Tryd.func11, Tryd.ntmps11
  go_wp2_with (go_at_call 13; refine HK.out.mono ?_; rintro e W1 ⟨rfl, hb1⟩
               have hq1 := (hb1.block (w.heap.size + 1 + 1) (by simp)).trans HB.out.2
               have s0 : W1.cell? ⟨w.heap.size + 1 + 1, 0, none⟩ = some (.int .i64 0) := cell_of_row _ _ _ _ _ (0, 0) hq1
               have s1 : W1.cell? ⟨w.heap.size + 1 + 1, 1, none⟩ = some (.int .i64 0) := cell_of_row _ _ _ _ _ (0, 0) hq1
               have s2 : W1.cell? ⟨w.heap.size + 1 + 1, 2, none⟩ = some (.slice none 0 0) := cell_of_row _ _ _ _ _ (0, 0) hq1
               have fR := frz hq1)
  obtain ⟨g1, g2, g3⟩ := put3 hq1 (.int .i64 0) (.int .i64 0) (.slice none 0 0)
  have hbE := below3 (HB.out.1.trans (hb1.mono (by simp; omega))) (show w.heap.size ≤ w.heap.size + 1 + 1 by omega) g2 g3
  refine bodyPost_ret (v := .tuple #[.agg #[.int .i64 0, .int .i64 0, .slice none 0 0], .iface 36 (.int .i64 c)]) ?_ rfl ⟨_, rfl, World.ownsRow_nil _ _ _ _, hbE⟩
  rw [results_cell_tmp rfl]
  show ((asAddr (.pointer (some ⟨w.heap.size + 1 + 1, 0, none⟩))).run _ _).andThen _ = _
  simp only [asAddr, Sem.run_pure, Result.andThen_ok, run_loadVar_row _ (w.heap.size + 1 + 1) _ 35 _ _ _ g1 Tryd.underlying35 rfl (by kernel_rfl)]
  rfl
set_option maxRecDepth 100000 in
set_option maxHeartbeats 1000000 in
theorem bfind_yes (W : Wn) (mv sv : Value) (pd : Option Addr) (pc : Nat) (rv : Value) (Ps : List (List (Int × Int))) (Rs : List (Int × List (Int × Int))) (w : World) (hm : IsAt w mv W.must) (hs : IsAt w sv W.should) (hwf : ∀ x ∈ W.must ++ W.should, (Lit.int .i64 x).wf = true)
    (hPs : PsOk Ps) (hPl : Ps.length ≤ 1000000) (hp : PsAt w (.slice pd Ps.length pc) Ps) (hRs : RsOk Rs) (hRl : Rs.length ≤ 1000000) (hr : RsAt w rv Rs) (hc : W.Good Ps.length) :
    Calls Tryd.prog 11 #[wantV W mv sv, .slice pd Ps.length pc, rv] w (FindP W Ps Rs w) := by
  have hb0 : Below w.heap.size w (((w.alloc (wantC W mv sv)).alloc (.cells #[.slice pd Ps.length pc] 48)).alloc (.cells #[.int .i64 0, .int .i64 0, .slice none 0 0] 35)) :=
    (((Below.refl _ w).alloc (Nat.le_refl _) _).alloc (by simp) _).alloc (by simp; omega) _
  have hq := World.alloc_heap_new ((w.alloc (wantC W mv sv)).alloc (.cells #[.slice pd Ps.length pc] 48)) (.cells #[.int .i64 0, .int .i64 0, .slice none 0 0] 35)
  have hp2 : ((w.alloc (wantC W mv sv)).alloc (.cells #[.slice pd Ps.length pc] 48)).heap[w.heap.size + 1]? = some (.cells #[.slice pd Ps.length pc] 48 (0, 0)) := by
    have := World.alloc_heap_new (w.alloc (wantC W mv sv)) (.cells #[.slice pd Ps.length pc] 48)
    simpa using this
  have hx2 : (w.alloc (wantC W mv sv)).heap[w.heap.size]? = some (wantC W mv sv) := World.alloc_heap_new w _
  simp only [World.size_alloc] at hq
  have k0 := bcheck_any W Ps.length mv sv _ (hm.below hb0) (hs.below hb0) hwf
  have hck : W.chk Ps.length = 0 := (W.chk_iff _).2 hc
  have hA : W.ans Ps Rs = (if (W.fndN Ps Rs W.many).isSome = true then 0 else 12, W.fndN Ps Rs W.many) := if_pos hck
  unfold FindP
  rw [hA]
  rw [hck, show eB 0 = .nilIface from rfl] at k0
  obtain ⟨R, hR⟩ : ∃ R, W.fndN Ps Rs W.many = R := ⟨_, rfl⟩
  rw [hR]
  have HR := hide hR
  clear hR
  have hl1 := hc.l1
  have hl2 := hc.l2
  have hs1 := hc.s1
  have hft := hc.ft
  have hf1 := hc.f1
  have ht1 := hc.t1
  have HK := hide k0
  have KM := hide (fun X => meetings_any W mv sv (by omega) (by omega) (by omega) (by omega) (by omega) (by omega) hs1 X)
  have HB := hide (And.intro hb0 (And.intro hq (And.intro hp2 hx2)))
  have HI := hide (And.intro hm (And.intro hs (And.intro hp hr)))
  have HG := hide hc
  clear hb0 hq hp2 hx2 hm hs hwf hA k0 hck hp hr
  unfold wantV at *
  go_enter Tryd.func11, Tryd.ntmps11
  go_wp2_with (first
    | (go_at_call 13; refine HK.out.mono ?_; rintro e W1 ⟨rfl, hb1⟩; (have hw := bw_start W mv sv (.slice pd Ps.length pc) w W1 hb1); (obtain ⟨c0, c1, c2, c3, c4, c5, c6, c7⟩ := hw.wants); (have HW1 := hide hw); clear hw hb1)
    | (go_at_call 23; refine (KM.out _).mono ?_; rintro e W2 ⟨rfl, hb2⟩; (have HW2 := hide (HW1.out.later hb2)); clear c0 c1 c2 c3 c4 c5 c6 c7 hb2 HW1 KM))
  go_loopw [10, 26] (fun f i wr => ∃ k : Nat, k ≤ W.many ∧ i = .int .i64 k ∧ f = .bool (W.fndN Ps Rs k).isSome ∧ BW W mv sv (.slice pd Ps.length pc) w W1.heap.size (W.fndN Ps Rs k) wr) (fun _ i _ => W.many - (intOf i).toNat)
  case atStart => exact ⟨0, by omega, rfl, rfl, HW2.out⟩
  case round =>
    obtain ⟨k, hk, rfl, rfl, hw⟩ := hrel
    by_cases hlt : k < W.many
    · have hki : (k : Int) < (W.many : Int) := by omega
      have hat := (W.many_iff (by omega) k).1 hlt
      have hks : (0 : Int) ≤ k * W.step := Int.mul_nonneg (by omega) (by omega)
      have hst : W.fndN Ps Rs (k + 1) = bst (W.fndN Ps Rs k) (W.at' k) (W.okM Ps (W.at' k) && W.okR Rs (W.at' k)) (W.rm Rs (W.at' k)) (W.ms Ps (W.at' k)) := rfl
      obtain ⟨t, ht⟩ : ∃ t, W.at' k = t := ⟨_, rfl⟩
      rw [ht] at hst hat
      unfold Wn.at' at ht
      have hm1 : wrap64 ((k : Int) * W.step) = k * W.step := by rw [wrap64_id] <;> omega
      have hm2 : wrap64 (W.from' + (k : Int) * W.step) = t := by rw [wrap64_id] <;> omega
      have hmany := HG.out.many_le
      have e1 : W.okM Ps t = !(W.must.any (bads t W.len Ps)) := by
        unfold Wn.okM; rw [List.not_any_eq_all_not]; rfl
      have e2 : W.okR Rs t = rmB t W.len W.seats Rs := rfl
      have e3 : W.rm Rs t = rmA t W.len W.seats Rs := rfl
      have e4 : W.ms Ps t = msP (bads t W.len Ps) W.should := rfl
      rw [e1, e2, e3, e4] at hst
      obtain ⟨c0, c1, c2, c3, c4, c5, c6, c7⟩ := hw.wants
      have hb2 : Below wr.heap.size wr (wr.alloc (.cells #[.int .i64 t, .int .i64 W.len] 72)) := (Below.refl _ wr).alloc (Nat.le_refl _) _
      have hw1 := hw.later hb2
      obtain ⟨d0, d1, d2, d3, d4, d5, d6, d7⟩ := hw1.wants
      have hmt := World.alloc_heap_new wr (.cells #[.int .i64 t, .int .i64 W.len] 72)
      have m0 : (wr.alloc (.cells #[.int .i64 t, .int .i64 W.len] 72)).cell? ⟨wr.heap.size, 0, none⟩ = some (.int .i64 t) := cell_of_row _ _ _ _ _ (0, 0) hmt
      have m1 : (wr.alloc (.cells #[.int .i64 t, .int .i64 W.len] 72)).cell? ⟨wr.heap.size, 1, none⟩ = some (.int .i64 W.len) := cell_of_row _ _ _ _ _ (0, 0) hmt
      have hmem := fun x h => HG.out.mem (x := x) h
      have KC := hide (fcont_any wr.heap.size (w.heap.size + 1) t W.len (by omega) (by omega) (by omega) (by omega) pd pc Ps hPs W.must (fun x h => hmem x (.inl h)) mv _ (HI.out.1.below hw1.b) ⟨m0, m1, d7, HI.out.2.2.1.below hw1.b⟩)
      have KR := hide (fun X (hb : Below w.heap.size w X) => broom_any t W.len (by omega) (by omega) (by omega) (by omega) W.seats Rs hRs hRl rv X (HI.out.2.2.2.below hb))
      have KS := hide (fun X (hb : Below w.heap.size w X) => missing_any t W.len (by omega) (by omega) (by omega) (by omega) W.should Ps hPs (fun x h => hmem x (.inr h)) HG.out.nodup (by have := HG.out.small; omega) sv (.slice pd Ps.length pc) X (HI.out.2.1.below hb) (HI.out.2.2.1.below hb))
      have HST := hide hst
      have HW1 := hide (And.intro hw1 hmt)
      clear hw hw1 hst e1 e2 e3 e4 hmem hb2 hmt
      generalize W.fndN Ps Rs k = acc at *
      generalize hmb : W.must.any (bads t W.len Ps) = mb at *
      go_wp2_with fail
      refine KC.out.mono ?_
      rintro e W3 ⟨rfl, hb3⟩
      have hw3 := HW1.out.1.later hb3
      have hmt3 := (hb3.block wr.heap.size (by simp)).trans HW1.out.2
      have n0 : W3.cell? ⟨wr.heap.size, 0, none⟩ = some (.int .i64 t) := cell_of_row _ _ _ _ _ (0, 0) hmt3
      have n1 : W3.cell? ⟨wr.heap.size, 1, none⟩ = some (.int .i64 W.len) := cell_of_row _ _ _ _ _ (0, 0) hmt3
      obtain ⟨a0, a1, a2, a3, a4, a5, a6, a7⟩ := hw3.wants
      have HW3 := hide (And.intro hw3 hmt3)
      clear c0 c1 c2 c3 c4 c5 c6 c7 d0 d1 d2 d3 d4 d5 d6 d7 m0 m1 hb3 hw3 hmt3 KC
      cases mb with
      | true =>
        have hE : W.fndN Ps Rs (k + 1) = acc := by rw [HST.out]; exact bst_no _ _ _ _
        clear HST
        go_wp2
        go_roundw
        case rel => exact ⟨k + 1, by omega, by go_num, by rw [hE], by rw [hE]; exact HW3.out.1⟩
        case measure => simp [intOf]; omega
      | false =>
        have hX := hide (KR.out W3 HW3.out.1.b)
        clear KR
        generalize hrb : rmB t W.len W.seats Rs = rb at *
        generalize hra : rmA t W.len W.seats Rs = ra at *
        go_wp2_with fail
        refine hX.out.mono ?_
        rintro e W4 ⟨rfl, hb4⟩
        have hw4 := HW3.out.1.later hb4
        have hmt4 := (hb4.block wr.heap.size (Array.getElem?_eq_some_iff.1 HW3.out.2).1).trans HW3.out.2
        have p0 : W4.cell? ⟨wr.heap.size, 0, none⟩ = some (.int .i64 t) := cell_of_row _ _ _ _ _ (0, 0) hmt4
        have p1 : W4.cell? ⟨wr.heap.size, 1, none⟩ = some (.int .i64 W.len) := cell_of_row _ _ _ _ _ (0, 0) hmt4
        obtain ⟨b0, b1, b2, b3, b4, b5, b6, b7⟩ := hw4.wants
        have HW4 := hide (And.intro hw4 hmt4)
        clear a0 a1 a2 a3 a4 a5 a6 a7 n0 n1 hb4 hw4 hmt4 hX
        cases rb with
        | false =>
          have hE : W.fndN Ps Rs (k + 1) = acc := by rw [HST.out]; exact bst_no _ _ _ _
          clear HST
          go_wp2
          go_roundw
          case rel => exact ⟨k + 1, by omega, by go_num, by rw [hE], by rw [hE]; exact HW4.out.1⟩
          case measure => simp [intOf]; omega
        | true =>
          have hX := hide (KS.out W4 HW4.out.1.b)
          clear KS
          go_wp2_with fail
          refine hX.out.mono ?_
          rintro e W5 ⟨r, rfl, hr, hb5⟩
          have hbz := HW4.out.1.lt
          have hw5 := HW4.out.1.later hb5
          have hmt5 := (hb5.block wr.heap.size (Array.getElem?_eq_some_iff.1 HW4.out.2).1).trans HW4.out.2
          have n0 : W5.cell? ⟨wr.heap.size, 0, none⟩ = some (.int .i64 t) := cell_of_row _ _ _ _ _ (0, 0) hmt5
          have n1 : W5.cell? ⟨wr.heap.size, 1, none⟩ = some (.int .i64 W.len) := cell_of_row _ _ _ _ _ (0, 0) hmt5
          obtain ⟨r0, hy, hr0⟩ := hw5.y
          have y0 : W5.cell? ⟨W1.heap.size, 0, none⟩ = some (.int .i64 (mtA acc)) := cell_of_row _ _ _ _ _ (0, 0) hy
          have y1 : W5.cell? ⟨W1.heap.size, 1, none⟩ = some (.int .i64 (mtR acc)) := cell_of_row _ _ _ _ _ (0, 0) hy
          have y2 : W5.cell? ⟨W1.heap.size, 2, none⟩ = some r0 := cell_of_row _ _ _ _ _ (0, 0) hy
          have fR := frz hy
          obtain ⟨aa, ac, rfl⟩ := own_len hr
          obtain ⟨ra0, rc0, rfl⟩ := own_len hr0
          have hput := hw5.put t ra (msP (bads t W.len Ps) W.should) _ _ hr (by omega)
          have HP := hide (And.intro hw5 hput)
          clear b0 b1 b2 b3 b4 b5 b6 b7 p0 p1 hb5 hmt5 hX hr hr0 hy hw5 hput hbz
          generalize msP (bads t W.len Ps) W.should = ms at *
          cases acc with
          | none =>
            have hE : W.fndN Ps Rs (k + 1) = some (t, ra, ms) := HST.out
            clear HST
            go_wp2
            go_roundw
            case rel => exact ⟨k + 1, by omega, by go_num, by rw [hE]; rfl, by rw [hE]; exact HP.out.2⟩
            case measure => simp [intOf]; omega
          | some b =>
            by_cases hlen : ms.length < b.2.2.length
            · have hli : (ms.length : Int) < ((mtM (some b)).length : Int) := by show (ms.length : Int) < (b.2.2.length : Int); omega
              have hE : W.fndN Ps Rs (k + 1) = some (t, ra, ms) := by rw [HST.out]; exact if_pos ⟨rfl, hlen⟩
              clear HST
              go_wp2
              go_roundw
              case rel => exact ⟨k + 1, by omega, by go_num, by rw [hE]; rfl, by rw [hE]; exact HP.out.2⟩
              case measure => simp [intOf]; omega
            · have hli : ¬ (ms.length : Int) < ((mtM (some b)).length : Int) := by show ¬ (ms.length : Int) < (b.2.2.length : Int); omega
              have hE : W.fndN Ps Rs (k + 1) = some b := by rw [HST.out]; exact if_neg fun h => hlen h.2
              clear HST
              go_wp2
              go_roundw
              case rel => exact ⟨k + 1, by omega, by go_num, by rw [hE]; rfl, by rw [hE]; exact HP.out.1⟩
              case measure => simp [intOf]; omega
    · obtain rfl : k = W.many := by omega
      have hki : ¬ (W.many : Int) < (W.many : Int) := by omega
      rw [HR.out] at hw
      have hff := HR.out
      generalize hfn : W.fndN Ps Rs W.many = acc0 at *
      obtain rfl : acc0 = R := hff
      have hq1 := hw.q
      rw [show w.heap.size + 2 = w.heap.size + 1 + 1 from rfl] at hq1
      have s0 : wr.cell? ⟨w.heap.size + 1 + 1, 0, none⟩ = some (.int .i64 0) := cell_of_row _ _ _ _ _ (0, 0) hq1
      have s1 : wr.cell? ⟨w.heap.size + 1 + 1, 1, none⟩ = some (.int .i64 0) := cell_of_row _ _ _ _ _ (0, 0) hq1
      have s2 : wr.cell? ⟨w.heap.size + 1 + 1, 2, none⟩ = some (.slice none 0 0) := cell_of_row _ _ _ _ _ (0, 0) hq1
      have fR := frz hq1
      obtain ⟨r0, hy, hr0⟩ := hw.y
      obtain ⟨ra0, rc0, rfl⟩ := own_len hr0
      cases acc0 with
      | none =>
        obtain ⟨g1, g2, g3⟩ := put3 hq1 (.int .i64 0) (.int .i64 0) (.slice none 0 0)
        have HE := hide (And.intro (below3 hw.b (show w.heap.size ≤ w.heap.size + 1 + 1 by omega) g2 g3) g1)
        clear g1 g2 g3 hw hy hr0 hq1
        go_wp2
        refine bodyPost_ret (v := .tuple #[.agg #[.int .i64 0, .int .i64 0, .slice none 0 0], .iface 36 (.int .i64 12)]) ?_ rfl ⟨_, rfl, World.ownsRow_nil _ _ _ _, HE.out.1⟩
        rw [results_cell_tmp rfl]
        show ((asAddr (.pointer (some ⟨w.heap.size + 1 + 1, 0, none⟩))).run _ _).andThen _ = _
        simp only [asAddr, Sem.run_pure, Result.andThen_ok, run_loadVar_row _ (w.heap.size + 1 + 1) _ 35 _ _ _ HE.out.2 Tryd.underlying35 rfl (by kernel_rfl)]
        rfl
      | some b =>
        obtain ⟨t, rm, ms⟩ := b
        have y0 : wr.cell? ⟨W1.heap.size, 0, none⟩ = some (.int .i64 t) := cell_of_row _ _ _ _ _ (0, 0) hy
        have y1 : wr.cell? ⟨W1.heap.size, 1, none⟩ = some (.int .i64 rm) := cell_of_row _ _ _ _ _ (0, 0) hy
        have y2 : wr.cell? ⟨W1.heap.size, 2, none⟩ = some (.slice ra0 ms.length rc0) := cell_of_row _ _ _ _ _ (0, 0) hy
        obtain ⟨g1, g2, g3⟩ := put3 hq1 (.int .i64 t) (.int .i64 rm) (.slice ra0 ms.length rc0)
        have hro : (((wr.setCell ⟨w.heap.size + 1 + 1, 0, none⟩ (.int .i64 t)).setCell ⟨w.heap.size + 1 + 1, 1, none⟩ (.int .i64 rm)).setCell ⟨w.heap.size + 1 + 1, 2, none⟩ (.slice ra0 ms.length rc0)).ownsRow w.heap.size 3 1 (.slice ra0 ms.length rc0) ms.length (ms.map (Value.int .i64)) :=
          ⟨hr0.1, hr0.2.imp id fun ⟨g, cap, cur, h1, h2, h3, h4⟩ => ⟨g, cap, cur, h1, h2, (g2 g (fun e => by subst e; rw [hq1] at h3; cases h3)).trans h3, h4⟩⟩
        have HE := hide (And.intro (below3 hw.b (show w.heap.size ≤ w.heap.size + 1 + 1 by omega) g2 g3) (And.intro g1 hro))
        clear g1 g2 g3 hw hy hr0 hq1 hro
        go_wp2
        refine bodyPost_ret (v := .tuple #[.agg #[.int .i64 t, .int .i64 rm, .slice ra0 ms.length rc0], .nilIface]) ?_ rfl ⟨_, rfl, HE.out.2.2, HE.out.1⟩
        rw [results_cell_tmp rfl]
        show ((asAddr (.pointer (some ⟨w.heap.size + 1 + 1, 0, none⟩))).run _ _).andThen _ = _
        simp only [asAddr, Sem.run_pure, Result.andThen_ok, run_loadVar_row _ (w.heap.size + 1 + 1) _ 35 _ _ _ HE.out.2.1 Tryd.underlying35 rfl (by kernel_rfl)]
        rfl
end Go.Proofs.YtabgoicholknoaaDoor
