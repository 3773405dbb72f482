/- Bytes of one's own, made of a text; what is appended to them; a row of such. -/
import Derived.Test.YtponocolfjkapaaDoorMTextBackUpto4
import Derived.Test.YtponocolfjkapaaDoorMTextBackUpto5
import Derived.Laws.CopyRow
import Derived.Laws.IdiomStrings
import Derived.Lib.ConvBytes
import Derived.Lib.AppendStr
namespace Go.Proofs.YtponocolfjkapaaDoor
open Go.RowKit
set_option linter.unusedVariables false
set_option linter.unusedSimpArgs false

theorem run_storeCells_fr {P : Program} (g o : Nat) (t : TypeId) (f : Nat × Nat) : ∀ (vs : List Value) (i : Nat) (cur : Array Value) (w : World), w.heap[g]? = some (.cells cur t f) → o + i + vs.length ≤ cur.size → (∀ j, j < cur.size → ¬ (f.1 ≤ j ∧ j < f.2)) → (∀ v ∈ vs, v.oneCell' = true) →
    (storeCells ⟨g, o, none⟩ vs i).run P w = .ok () (w.setRow g (cur.toList.take (o + i) ++ vs ++ cur.toList.drop (o + i + vs.length)).toArray)
  | [], i, cur, w, hg, _, _, _ => by
    simp only [storeCells, List.append_nil, List.length_nil, Nat.add_zero, List.take_append_drop, Array.toArray_toList]
    rw [setRow_self w g cur t f hg]
    rfl
  | v :: rest, i, cur, w, hg, hl, hf, h1 => by
    have hi : o + i < cur.size := by simp at hl; omega
    have hadd : (⟨g, o, none⟩ : Addr).add i = ⟨g, o + i, none⟩ := by unfold Addr.add; split <;> simp_all
    have hcell : w.cell? ⟨g, o + i, none⟩ = some cur[o + i] := by simp [World.cell?, hg, hi]
    have hfro : w.frozen? ⟨g, o + i, none⟩ = false := by
      have := hf (o + i) hi
      unfold World.frozen?
      simp only [hg]
      obtain ⟨lo, hi'⟩ := f
      simp only [Bool.and_eq_false_iff, decide_eq_false_iff_not] at *
      omega
    have hst : (store ((⟨g, o, none⟩ : Addr).add i) v).run P w = .ok () (w.setRow g (cur.setIfInBounds (o + i) v)) := by
      rw [hadd, run_store P w _ v _ (h1 v (by simp)), hcell]
      simp [hfro, setCell_eq_setRow w g (o + i) cur t f v hg]
    have ih := run_storeCells_fr (P := P) g o t f rest (i + 1) (cur.setIfInBounds (o + i) v) (w.setRow g (cur.setIfInBounds (o + i) v)) (setRow_heap w g cur _ t _ hg) (by simp at hl ⊢; omega) (by simpa using hf) (fun x hx => h1 x (by simp [hx]))
    simp only [storeCells, Sem.run_bind, hst, Result.andThen_ok, ih, setRow_setRow]
    congr 3
    have e := list_seg_step cur.toList (o + i) v rest (by simp at hl ⊢; omega)
    simpa [Array.toList_setIfInBounds, Nat.add_assoc] using e
/-- bytes in block g, from its head on, with room behind them that may be written -/
structure CB (w : World) (g cap : Nat) (l : List UInt8) : Prop where
  ex : ∃ cur f, w.heap[g]? = some (.cells cur 5 f) ∧ l.length ≤ cap ∧ cap ≤ maxLen ∧ cur.size = cap ∧ cur.toList.take l.length = Tl.bs l ∧ ∀ j, j < cap → ¬ (f.1 ≤ j ∧ j < f.2)
theorem CB.lt {w : World} {g cap : Nat} {l : List UInt8} (h : CB w g cap l) : g < w.heap.size := by
  obtain ⟨cur, f, h, _⟩ := h.ex
  exact (Array.getElem?_eq_some_iff.1 h).1
theorem CB.at {w w' : World} {g cap : Nat} {l : List UInt8} (h : CB w g cap l) (e : w'.heap[g]? = w.heap[g]?) : CB w' g cap l := by
  obtain ⟨cur, f, h1, h2⟩ := h.ex
  exact ⟨cur, f, e.trans h1, h2⟩
theorem CB.later {w w' : World} {g cap : Nat} {l : List UInt8} (h : CB w g cap l) (hb : Below w.heap.size w w') : CB w' g cap l := h.at (hb.block g h.lt)
theorem CB.cell {w : World} {g cap : Nat} {l : List UInt8} (h : CB w g cap l) (j : Nat) (hj : j < l.length) : w.cell? ⟨g, j, none⟩ = some (.int .u8 (l[j].toNat : Int)) := by
  obtain ⟨cur, f, h1, h2, _, h3, h4, _⟩ := h.ex
  have hjc : j < cur.size := by omega
  have : (cur.toList.take l.length)[j]? = (Tl.bs l)[j]? := by rw [h4]
  rw [List.getElem?_take, if_pos hj, Array.getElem?_toList] at this
  unfold Tl.bs at this
  rw [List.getElem?_map, List.getElem?_eq_getElem hj] at this
  simp only [World.cell?, h1, this, Option.map_some]
  rfl
theorem CB.conv {w : World} {g cap : Nat} {l : List UInt8} (h : CB w g cap l) : (convert 59 9 (.slice (some ⟨g, 0, none⟩) l.length cap)).run Tryd.prog w = .ok (.string (Tl.str l)) w := by
  refine run_convert_bytes_back w 59 9 5 ⟨g, 0, none⟩ cap l Tryd.underlying59 Tryd.underlying5 Tryd.underlying9 fun j hj => ?_
  rw [Addr.add_lit, Nat.zero_add]
  exact h.cell j hj
/-- append(bytes, text...) -/
theorem CB.append {w : World} {g cap : Nat} {l : List UInt8} (h : CB w g cap l) (t : ByteArray) (ty : TypeId) (hlen : l.length + t.size ≤ 4000000000) :
    ∃ g' cap' w', (Builtin.append_ #[59, 9] ty #[.slice (some ⟨g, 0, none⟩) l.length cap, .string t]).run Tryd.prog w = .ok (.slice (some ⟨g', 0, none⟩) (l ++ Tl.tx t).length cap') w' ∧ CB w' g' cap' (l ++ Tl.tx t) ∧
      (g' = g ∨ g' = w.heap.size) ∧ w.grownBy w' (some g) := by
  obtain ⟨i0, hi, hz0, hz1, hz2⟩ := info_of' infoByte
  obtain ⟨cur, f, h1, h2, h3, h4, h5, h6⟩ := h.ex
  have hll : (l ++ Tl.tx t).length = l.length + t.size := by rw [List.length_append, Tl.tx_len]
  have hcs : (Lib.strCells t).length = t.size := Lib.strCells_length t
  by_cases hroom : l.length + t.size ≤ cap
  · have hst := run_storeCells_fr (P := Tryd.prog) g l.length 5 f (Lib.strCells t) 0 cur w h1 (by rw [hcs]; omega) (by rw [h4]; exact h6) (Lib.strCells_oneCell t)
    have hf := Lib.run_firstCells_string (P := Tryd.prog) w 1 t
    refine ⟨g, cap, w.setRow g (cur.toList.take (l.length + 0) ++ Lib.strCells t ++ cur.toList.drop (l.length + 0 + (Lib.strCells t).length)).toArray, ?_, ?_, .inl rfl, ?_⟩
    rotate_left
    · refine ⟨_, f, setRow_heap w g cur (cur.toList.take (l.length + 0) ++ Lib.strCells t ++ cur.toList.drop (l.length + 0 + (Lib.strCells t).length)).toArray 5 f h1, by rw [hll]; omega, h3, ?_, ?_, h6⟩
      · simp only [List.size_toArray, List.length_append, List.length_take, List.length_drop, Array.length_toList, hcs]; omega
      · simp only [Nat.add_zero]
        rw [h5, hll, Tl.bs_app, show l.length + t.size = (Tl.bs l ++ Lib.strCells t).length by rw [List.length_append, Tl.bs_len, hcs]]
        exact List.take_left
    · exact ⟨rfl, rfl, rfl, by simp, fun k _ hk => setRow_other w g k _ (fun e => hk (by rw [e]))⟩
    · rw [hll]
      simp only [Nat.add_zero] at hst ⊢
      simp [Builtin.append_, run_underlying Tryd.underlying59, run_underlying Tryd.underlying9, sizeOf, typeInfo, hi, hz1, Builtin.lenOf, hroom, hf, Addr.add_lit, hst]
  · have hr := Lib.run_append_grow_string (P := Tryd.prog) w 59 9 ty 5 i0 (.int .u8 0) Tryd.underlying59 Tryd.underlying9 hi hz0 ⟨g, 0, none⟩ l.length cap (Tl.bs l) (by rw [Tl.bs_len, hz1, Nat.mul_one]) (fun j v hj => by
      have hjl : j < l.length := by have := (List.getElem?_eq_some_iff.1 hj).1; rwa [Tl.bs_len] at this
      rw [Addr.add_lit, Nat.zero_add, h.cell j hjl, ← hj]
      unfold Tl.bs
      rw [List.getElem?_map, List.getElem?_eq_getElem hjl]; rfl) t (by omega) (by omega) (by rw [hz2]; exact growslice_fits (by omega) (by omega))
    have hge := grownCap_ge w (l.length + t.size) cap 5
    have hcm := grownCap_le_maxLen w (l.length + t.size) cap 5 (by unfold maxLen; omega)
    refine ⟨w.heap.size, _, w.drew.alloc (.cells ((Tl.bs l).toArray ++ (Lib.strCells t).toArray ++ Builtin.zeroCells (Value.int IntKind.u8 0).cells (grownCap w (l.length + t.size) cap 5 - (l.length + t.size))) 5), by rw [hll]; exact hr, ?_, .inr rfl, ⟨rfl, rfl, rfl, by simp, fun k hk _ => heap_alloc_old w.drew _ hk⟩⟩
    refine ⟨_, _, heap_alloc_new w.drew _, by rw [hll]; exact hge, hcm, ?_, ?_, fun j _ hj => absurd hj.2 (Nat.not_lt_zero _)⟩
    · have hz : (Value.int IntKind.u8 0).cells.size = 1 := rfl
      simp only [Array.size_append, List.size_toArray, size_zeroCells, hz, Tl.bs_len, hcs]
      omega
    · simp only [Array.toList_append, List.append_assoc]
      rw [hll, Tl.bs_app, show l.length + t.size = (Tl.bs l ++ Lib.strCells t).length by rw [List.length_append, Tl.bs_len, hcs], ← List.append_assoc]
      exact List.take_left
/-- []byte(text) -/
theorem CB.new (w : World) (s : ByteArray) (hs : s.size ≤ 4000000000) : CB (Lib.bytesWorld w 5 s) w.heap.size (grownCap w s.size 0 5) (Tl.tx s) := by
  have hge := grownCap_ge w s.size 0 5
  have hcm := grownCap_le_maxLen w s.size 0 5 (by unfold maxLen; omega)
  refine ⟨_, _, Lib.bytesWorld_at_new w 5 s, by rw [Tl.tx_len]; exact hge, hcm, ?_, ?_, ?_⟩
  · unfold Lib.bytesCells
    simp only [Array.size_append, Array.size_map, Array.size_replicate]
    have : s.data.size = s.size := rfl
    omega
  · unfold Lib.bytesCells
    rw [Array.toList_append, Array.toList_map]
    have e : s.data.toList.map (fun b => Value.int .u8 b.toNat) = Tl.bs (Tl.tx s) := rfl
    rw [e, show (Tl.tx s).length = (Tl.bs (Tl.tx s)).length by rw [Tl.bs_len]]
    exact List.take_left
  · intro j hj
    have hsz : (Lib.bytesCells w 5 s).size = grownCap w s.size 0 5 := by
      unfold Lib.bytesCells
      simp only [Array.size_append, Array.size_map, Array.size_replicate]
      have : s.data.size = s.size := rfl
      omega
    rw [hsz]
    simp only
    omega
end Go.Proofs.YtponocolfjkapaaDoor
