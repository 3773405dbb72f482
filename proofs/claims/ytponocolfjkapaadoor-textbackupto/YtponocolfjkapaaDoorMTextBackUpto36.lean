/- package text: Print; plain.TextPrint; the reference's PartPrint; the law TextPrints. -/
import Derived.Test.YtponocolfjkapaaDoorMTextBackUpto35
import Derived.Test.YtponocolfjkapaaDoorMTextBackUpto29
import Derived.Test.YtponocolfjkapaaDoorMTextBackUpto26
import Derived.Test.YtponocolfjkapaaDoorLinG
namespace Go.Proofs.YtponocolfjkapaaDoor
open Go.RowKit Go.Shelf
set_option linter.unusedVariables false
set_option linter.unusedSimpArgs false

/-- what Print answers: the text, what is wrong -/
noncomputable def prT (t : PPt) : ByteArray := if eT t = 0 then Tl.str (ptT t) else ByteArray.empty
/-- what the walk keeps -/
def TpS (w : World) (cs : Array Value) (X : World) : Prop := X.heap[w.heap.size]? = some (.cells cs 25 (0, 0)) ∧ Below w.heap.size w X
theorem TpS.later {w : World} {cs : Array Value} {X Y : World} (h : TpS w cs X) (hb : Below X.heap.size X Y) : TpS w cs Y :=
  ⟨(hb.block _ (Array.getElem?_eq_some_iff.1 h.1).1).trans h.1, h.2.trans (hb.mono h.2.size)⟩
theorem TpS.cells {w X : World} {nm : ByteArray} {A A2 : Option Addr} {n c n2 c2 : Nat} (h : TpS w #[.string nm, .slice A n c, .slice A2 n2 c2] X) :
    X.cell? ⟨w.heap.size, 0, none⟩ = some (.string nm) ∧ X.cell? ⟨w.heap.size, 1, none⟩ = some (.slice A n c) ∧ X.cell? ⟨w.heap.size, 2, none⟩ = some (.slice A2 n2 c2) :=
  ⟨cell_of_row _ _ _ _ _ (0, 0) h.1, cell_of_row _ _ _ _ _ (0, 0) h.1, cell_of_row _ _ _ _ _ (0, 0) h.1⟩
set_option maxHeartbeats 4000000 in
theorem print_any (t : PPt) (v : Value) (w : World) (h : PtM t v w) (hz : ptz t ≤ 10000000) :
    Calls Tryd.prog 14 #[v] w fun e w' => e = .returned (.tuple #[.string (prT t), erV (eT t)]) ∧ Below w.heap.size w w' := by
  have K := hide (fun (X : World) (hx : Below w.heap.size w X) => tcheck_any t v X (PtM.later hx _ _ h))
  have K2 := hide (fun (X : World) (hx : Below w.heap.size w X) => partA_any t v (.slice none 0 0) [] X.heap.size X (PtB.new (PtM.later hx _ _ h)) (Nat.le_refl _) (BR.nil _ _) (by have := ptT_len t; simp; omega) hz)
  obtain ⟨nm, A, n, c, A2, n2, c2, rfl⟩ := h.agg
  clear h
  have HT : Hid (prT t = if eT t = 0 then Tl.str (ptT t) else ByteArray.empty) := rfl
  generalize prT t = T at *
  generalize eT t = k at *
  generalize ptT t = P at *
  have HX := hide (show TpS w #[.string nm, .slice A n c, .slice A2 n2 c2] (w.alloc (.cells #[.string nm, .slice A n c, .slice A2 n2 c2] 25)) from ⟨World.alloc_heap_new w _, (Below.refl _ w).alloc (Nat.le_refl _) _⟩)
  by_cases hk : k = 0
  · subst hk
    have hT := HT.out
    rw [if_pos rfl] at hT
    subst hT
    rw [erV0] at K ⊢
    clear HT
    go_enter Tryd.func14, Tryd.ntmps14
    go_wp2_with fail
    refine (K.out _ HX.out.2).mono ?_
    rintro e W1 ⟨rfl, b1⟩
    have hX1 := HX.out.later b1
    obtain ⟨c0, c1, c2'⟩ := hX1.cells
    have HB := hide hX1.2
    clear b1 hX1 HX
    go_wp2_with fail
    refine (K2.out _ HB.out).mono ?_
    rintro e W2 ⟨v2, rfl, hr, b2, _⟩
    have hB2 := HB.out.trans (b2.mono HB.out.size)
    have hcv := hr.conv
    rw [List.nil_append] at hcv
    obtain ⟨a0, l0, c0', rfl⟩ := ownr_form' hr
    clear hr b2
    go_wp2
    go_ret2
    exact ⟨rfl, hB2⟩
  · have hT := HT.out
    rw [if_neg hk] at hT
    subst hT
    rw [erV_no hk] at K ⊢
    clear HT K2
    go_enter Tryd.func14, Tryd.ntmps14
    go_wp2_with fail
    refine (K.out _ HX.out.2).mono ?_
    rintro e W1 ⟨rfl, b1⟩
    have hB := (HX.out.later b1).2
    clear b1 HX
    go_wp2
    go_ret2
    exact ⟨rfl, hB⟩
set_option maxHeartbeats 4000000 in
theorem ptextPrint_any (t : PPt) (v : Value) (w : World) (hd : Hd w) (h : PtM t v w) (hz : ptz t ≤ 10000000) :
    Calls Tryd.prog 5 #[v] w fun e w' => e = .returned (.tuple #[.string (prT t), .int .i64 (eT t)]) ∧ Below w.heap.size w w' := by
  have K := hide (fun (X : World) (hx : Below w.heap.size w X) => print_any t v X (PtM.later hx _ _ h) hz)
  have HH := hide (fun (X : World) (hx : Below w.heap.size w X) => hd.later hx)
  obtain ⟨nm, A, n, c, A2, n2, c2, rfl⟩ := h.agg
  clear h hd
  generalize prT t = T at *
  generalize eT t = k at *
  have hx : Below w.heap.size w (w.alloc (.cells #[.string nm, .slice A n c, .slice A2 n2 c2] 25)) := (Below.refl _ w).alloc (Nat.le_refl _) _
  have HX := hide hx
  clear hx
  by_cases hk : k = 0
  · subst hk
    rw [erV0] at K
    go_enter Tryd.func5, Tryd.ntmps5
    go_wp2_with fail
    refine (K.out _ HX.out).mono ?_
    rintro e W1 ⟨rfl, b1⟩
    have hB := HX.out.trans (b1.mono HX.out.size)
    clear b1
    go_wp2_with fail
    refine (tell_nil _).mono ?_
    rintro e W2 ⟨rfl, b2⟩
    have hB2 := hB.trans (b2.mono hB.size)
    go_wp2
    go_ret2
    exact ⟨rfl, hB2⟩
  · rw [erV_no hk] at K
    go_enter Tryd.func5, Tryd.ntmps5
    go_wp2_with fail
    refine (K.out _ HX.out).mono ?_
    rintro e W1 ⟨rfl, b1⟩
    have hB := HX.out.trans (b1.mono HX.out.size)
    clear b1
    go_wp2_with fail
    refine (tell_err k _ (HH.out _ hB)).mono ?_
    rintro e W2 ⟨rfl, b2⟩
    have hB2 := hB.trans (b2.mono hB.size)
    go_wp2
    go_ret2
    exact ⟨rfl, hB2⟩
set_option maxHeartbeats 4000000 in
theorem rprint_any (t : PPt) (v : Value) (w : World) (h : PtM t v w) (hz : ptz t ≤ 10000000) :
    Calls Tryd.prog 6 #[v] w fun e w' => e = .returned (.tuple #[.string (prT t), .int .i64 (eT t)]) ∧ Below w.heap.size w w' := by
  have K := hide (fun (X : World) (hx : Below w.heap.size w X) => rPartCheck_any t v X (PtM.later hx _ _ h))
  have K2 := hide (fun (X : World) (hx : Below w.heap.size w X) (hk : eT t = 0) => partX_any t v X (PtM.later hx _ _ h) (NeT.of t 1 0 hk) hz)
  obtain ⟨nm, A, n, c, A2, n2, c2, rfl⟩ := h.agg
  clear h
  have HT : Hid (prT t = if eT t = 0 then Tl.str (ptT t) else ByteArray.empty) := rfl
  generalize prT t = T at *
  generalize eT t = k at *
  generalize ptT t = P at *
  have HX := hide (show TpS w #[.string nm, .slice A n c, .slice A2 n2 c2] (w.alloc (.cells #[.string nm, .slice A n c, .slice A2 n2 c2] 25)) from ⟨World.alloc_heap_new w _, (Below.refl _ w).alloc (Nat.le_refl _) _⟩)
  by_cases hk : k = 0
  · subst hk
    have hT := HT.out
    rw [if_pos rfl] at hT
    subst hT
    clear HT
    go_enter Tryd.func6, Tryd.ntmps6
    go_wp2_with fail
    refine (K.out _ HX.out.2).mono ?_
    rintro e W1 ⟨rfl, b1⟩
    have hX1 := HX.out.later b1
    obtain ⟨c0, c1, c2'⟩ := hX1.cells
    have HB := hide hX1.2
    clear b1 hX1 HX
    go_wp2_with fail
    refine (K2.out _ HB.out (by trivial)).mono ?_
    rintro e W2 ⟨rfl, b2⟩
    have hB2 := HB.out.trans (b2.mono HB.out.size)
    clear b2
    go_wp2
    go_ret2
    exact ⟨rfl, hB2⟩
  · have hT := HT.out
    rw [if_neg hk] at hT
    subst hT
    clear HT K2
    have hkb : ((k : Int) == 0) = false := by rw [beq_eq_false_iff_ne]; exact hk
    go_enter Tryd.func6, Tryd.ntmps6
    go_wp2_with fail
    refine (K.out _ HX.out.2).mono ?_
    rintro e W1 ⟨rfl, b1⟩
    have hB := (HX.out.later b1).2
    clear b1 HX
    go_wp2
    go_ret2
    exact ⟨rfl, hB⟩
end Go.Proofs.YtponocolfjkapaaDoor
