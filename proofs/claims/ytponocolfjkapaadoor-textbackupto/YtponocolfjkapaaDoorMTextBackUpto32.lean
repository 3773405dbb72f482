/- package text: the tree's line; beginOf, checkEnd. -/
import Derived.Test.YtponocolfjkapaaDoorMTextBackUpto31
namespace Go.Proofs.YtponocolfjkapaaDoor
open Go.RowKit Go.Shelf
set_option linter.unusedVariables false
set_option linter.unusedSimpArgs false

/-- a tree's box -/
def TB (W : World) (B : Nat) (A : Option Addr) (n c : Nat) (i : Int) : Prop := W.heap[B]? = some (.cells #[.slice A n c, .int .i64 i] 78 (0, 0))
theorem TB.lt {W : World} {B : Nat} {A : Option Addr} {n c : Nat} {i : Int} (h : TB W B A n c i) : B < W.heap.size := (Array.getElem?_eq_some_iff.1 h).1
theorem TB.cells {W : World} {B : Nat} {A : Option Addr} {n c : Nat} {i : Int} (h : TB W B A n c i) : W.cell? ⟨B, 0, none⟩ = some (.slice A n c) ∧ W.cell? ⟨B, 1, none⟩ = some (.int .i64 i) :=
  ⟨cell_of_row _ _ _ _ _ (0, 0) h, cell_of_row _ _ _ _ _ (0, 0) h⟩
theorem TB.later {W W' : World} {B : Nat} {A : Option Addr} {n c : Nat} {i : Int} (h : TB W B A n c i) (hb : Below W.heap.size W W') : TB W' B A n c i := (hb.block B h.lt).trans h
theorem TB.set1 {W : World} {B : Nat} {A : Option Addr} {n c : Nat} {i : Int} (h : TB W B A n c i) (k : Int) : TB (W.setCell ⟨B, 1, none⟩ (.int .i64 k)) B A n c k := by
  unfold TB at *
  rw [setCell_eq_setRow W B 1 _ _ _ _ h]
  exact setRow_heap W B _ _ _ _ h
set_option maxRecDepth 100000 in
set_option maxHeartbeats 8000000 in
theorem tline_any (x : PLn) (hx : RdOk x) (ho : LnOk x) (hs : (lT x).length ≤ 100000000) (L : List ByteArray) (A : Option Addr) (c i : Nat) (hi : i < L.length) (hLi : L[i] = Tl.str (lT x)) (hL9 : L.length ≤ 1000000000) (B : Nat) (w : World) (hB : TB w B A L.length c i) (hS : SL A L w) :
    Calls Tryd.prog 47 #[.pointer (some ⟨B, 0, none⟩)] w fun e w' => ∃ A k, e = .returned (.tuple #[.agg #[.string x.n, .slice A x.ps.length k, .string x.v], .nilIface]) ∧ Fpt (PS A x.ps) w.heap.size w'.heap.size w' ∧ Below w.heap.size w w' := by
  have K := hide (fun W => readLine_any x hx ho hs W)
  obtain ⟨ad, hA, hc⟩ := hS i hi
  rw [hLi] at hc
  generalize Tl.str (lT x) = Z at *
  have hii : (i : Int) < L.length := by omega
  have hie : ((i : Int) == (L.length : Int)) = false := by rw [beq_eq_false_iff_ne]; omega
  subst hA
  have hb0 : Below w.heap.size w (w.alloc (.cells #[.string ⟨#[]⟩, .slice none 0 0, .string ⟨#[]⟩] 56)) := (Below.refl _ w).alloc (Nat.le_refl _) _
  have hq0 : (w.alloc (.cells #[.string ⟨#[]⟩, .slice none 0 0, .string ⟨#[]⟩] 56)).heap[w.heap.size]? = some (.cells #[.string ⟨#[]⟩, .slice none 0 0, .string ⟨#[]⟩] 56 (0, 0)) := World.alloc_heap_new w _
  have hB0 := hB.later hb0
  obtain ⟨d0, d1⟩ := hB0.cells
  have dc := (hb0.cell (World.block_lt_of_cell? _ _ hc)).trans hc
  have H0 := hide (And.intro hq0 hb0)
  clear hq0 hb0 hB0 hB hS hc hLi hx ho
  go_enter Tryd.func47, Tryd.ntmps47
  go_upto_region 1 with fail
  generalize w.alloc (.cells #[.string ⟨#[]⟩, .slice none 0 0, .string ⟨#[]⟩] 56) = W0 at *
  go_region
  go_wp2_with fail
  go_region_with (go_at_call 58; refine (K.out _).mono ?_; rintro e W1 ⟨A1, k1, rfl, hF, b1⟩
                  have hq1 := (b1.block w.heap.size (Array.getElem?_eq_some_iff.1 H0.out.1).1).trans H0.out.1
                  have s0 : W1.cell? ⟨w.heap.size, 0, none⟩ = some (.string ⟨#[]⟩) := cell_of_row _ _ _ _ _ (0, 0) hq1
                  have s1 : W1.cell? ⟨w.heap.size, 1, none⟩ = some (.slice none 0 0) := cell_of_row _ _ _ _ _ (0, 0) hq1
                  have s2 : W1.cell? ⟨w.heap.size, 2, none⟩ = some (.string ⟨#[]⟩) := cell_of_row _ _ _ _ _ (0, 0) hq1
                  have fR := frozen_of hq1)
  all_goals
    obtain ⟨g1, g2, g3⟩ := set3 hq1 (.string x.n) (.slice A1 x.ps.length k1) (.string x.v)
    have o1 : (((W1.setCell ⟨w.heap.size, 0, none⟩ (.string x.n)).setCell ⟨w.heap.size, 1, none⟩ (.slice A1 x.ps.length k1)).setCell ⟨w.heap.size, 2, none⟩ (.string x.v)).os = W1.os := rfl
    have o2 : (((W1.setCell ⟨w.heap.size, 0, none⟩ (.string x.n)).setCell ⟨w.heap.size, 1, none⟩ (.slice A1 x.ps.length k1)).setCell ⟨w.heap.size, 2, none⟩ (.string x.v)).tape = W1.tape := rfl
    have o3 : (((W1.setCell ⟨w.heap.size, 0, none⟩ (.string x.n)).setCell ⟨w.heap.size, 1, none⟩ (.slice A1 x.ps.length k1)).setCell ⟨w.heap.size, 2, none⟩ (.string x.v)).output = W1.output := rfl
    have h0 := H0.out.2
    have hz0 : w.heap.size < W0.heap.size := (Array.getElem?_eq_some_iff.1 H0.out.1).1
    have hsz : W0.heap.size ≤ W1.heap.size := b1.size
    have hdd : W0.drew.drew.heap.size = W0.heap.size := rfl
    have hdd1 : W0.drew.heap.size = W0.heap.size := rfl
    clear s0 s1 s2 fR d0 d1 dc
    generalize ((W1.setCell ⟨w.heap.size, 0, none⟩ (.string x.n)).setCell ⟨w.heap.size, 1, none⟩ (.slice A1 x.ps.length k1)).setCell ⟨w.heap.size, 2, none⟩ (.string x.v) = W6 at *
    have hF6 : Fpt (PS A1 x.ps) w.heap.size W6.heap.size W6 := (hF.later (fun b h1 h2 => g2 b (by omega)) g3).widen (by omega) g3 (Nat.le_refl _)
    have hB6 : Below w.heap.size w W6 := ⟨o1.trans (b1.os.trans h0.os), o2.trans (b1.tape.trans h0.tape), o3.trans (b1.output.trans h0.output), by omega, fun k hk => (g2 k (by omega)).trans ((b1.block k (by omega)).trans (h0.block k hk))⟩
    have HF := hide (And.intro hF6 (And.intro hB6 g1))
    clear hF6 hB6 hF b1 hq1 g1 g2 g3 o1 o2 o3 h0 H0 hsz hz0 hdd hdd1
    go_wp2
    refine bodyPost_ret (v := .tuple #[.agg #[.string x.n, .slice A1 x.ps.length k1, .string x.v], .nilIface]) ?_ rfl ⟨A1, k1, rfl, HF.out.1, HF.out.2.1⟩
    rw [results_cell_tmp rfl]
    show ((asAddr (.pointer (some ⟨w.heap.size, 0, none⟩))).run _ _).andThen _ = _
    simp only [asAddr, Sem.run_pure, Result.andThen_ok, run_loadVar_row _ w.heap.size _ 56 _ _ _ HF.out.2.2 Tryd.underlying56 rfl (by kernel_rfl)]
    rfl
set_option maxHeartbeats 4000000 in
theorem beginOf_any (BG nm : ByteArray) (A : Option Addr) (k : Nat) (d : Int) (w : World) (h0 : (BG.toList == [66, 69, 71, 73, 78]) = true) (hn : nmS nm = true) (hd : d ≤ 8) :
    Calls Tryd.prog 59 #[.agg #[.string BG, .slice A 0 k, .string nm], .int .i64 d] w fun e w' => e = .returned (.tuple #[.string nm, .nilIface]) ∧ Below w.heap.size w w' := by
  have K := hide (fun W => readName_any nm hn W)
  have hb0 : Below w.heap.size w (w.alloc (.cells #[.string BG, .slice A 0 k, .string nm] 56)) := (Below.refl _ w).alloc (Nat.le_refl _) _
  have hd' : ¬ (8 : Int) < d := by omega
  have h1 : BG.toList = [66, 69, 71, 73, 78] := eq_of_beq h0
  clear hn
  go_enter Tryd.func59, Tryd.ntmps59
  go_wp2_with fail
  refine (K.out _).mono ?_
  rintro e W1 ⟨rfl, b1⟩
  have hB := hb0.trans (b1.mono hb0.size)
  clear b1 hb0
  go_wp2
  go_ret2
  exact ⟨rfl, hB⟩
set_option maxHeartbeats 4000000 in
theorem checkEnd_any (EN nm : ByteArray) (A : Option Addr) (k : Nat) (w : World) (hn : nmS nm = true) :
    Calls Tryd.prog 60 #[.agg #[.string EN, .slice A 0 k, .string nm], .string nm] w fun e w' => e = .returned .nilIface ∧ Below w.heap.size w w' := by
  have K := hide (fun W => readName_any nm hn W)
  have hx : Below w.heap.size w (w.alloc (.cells #[.string EN, .slice A 0 k, .string nm] 56)) := (Below.refl _ w).alloc (Nat.le_refl _) _
  have hp : (w.alloc (.cells #[.string EN, .slice A 0 k, .string nm] 56)).heap[w.heap.size]? = some (.cells #[.string EN, .slice A 0 k, .string nm] 56 (0, 0)) := World.alloc_heap_new w _
  have HX := hide (And.intro hx hp)
  clear hx hp hn
  go_enter Tryd.func60, Tryd.ntmps60
  go_wp2_with fail
  refine (K.out _).mono ?_
  rintro e W1 ⟨rfl, b1⟩
  have hB := HX.out.1.trans (b1.mono HX.out.1.size)
  have hp1 := (b1.block _ (Array.getElem?_eq_some_iff.1 HX.out.2).1).trans HX.out.2
  have c1 : W1.cell? ⟨w.heap.size, 1, none⟩ = some (.slice A 0 k) := cell_of_row _ _ _ _ _ (0, 0) hp1
  clear b1 HX hp1
  go_wp2
  go_ret
  exact ⟨rfl, hB⟩
end Go.Proofs.YtponocolfjkapaaDoor
