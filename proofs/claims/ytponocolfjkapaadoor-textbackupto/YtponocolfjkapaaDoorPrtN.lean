/- package text: a line's text as bytes; append of bytes to bytes made of a text. -/
import Derived.Test.YtponocolfjkapaaDoorPrtL
import Derived.Test.YtponocolfjkapaaDoorUnfD
namespace Go.Proofs.YtponocolfjkapaaDoor
open Go.RowKit
set_option linter.unusedVariables false
set_option linter.unusedSimpArgs false

/-- append(bytes, bytes...) -/
theorem CB.push {w : World} {g cap : Nat} {l : List UInt8} (h : CB w g cap l) (m : List UInt8) (ad : Addr) (c : Nat) (ty : TypeId) (hnews : ∀ j u, (Tl.bs m)[j]? = some u → w.cell? (ad.add j) = some u) (hlen : l.length + m.length ≤ 4000000000) (h0 : 0 < m.length) :
    ∃ g' cap' w', (Builtin.append_ #[59, 59] ty #[.slice (some ⟨g, 0, none⟩) l.length cap, .slice (some ad) m.length c]).run Tryd.prog w = .ok (.slice (some ⟨g', 0, none⟩) (l ++ m).length cap') w' ∧ CB w' g' cap' (l ++ m) ∧
      (g' = g ∨ g' = w.heap.size) ∧ w.grownBy w' (some g) := by
  obtain ⟨i0, hi, hz0, hz1, hz2⟩ := info_of' infoByte
  obtain ⟨cur, f, h1, h2, h3, h4, h5, h6⟩ := h.ex
  have hll : (l ++ m).length = l.length + m.length := List.length_append
  have hcs : (Tl.bs m).length = m.length := Tl.bs_len m
  by_cases hroom : l.length + m.length ≤ cap
  · have hst := run_storeCells_fr (P := Tryd.prog) g l.length 5 f (Tl.bs m) 0 cur w h1 (by rw [hcs]; omega) (by rw [h4]; exact h6) (Tl.bs_one m)
    have hf := run_firstCells_some (P := Tryd.prog) w i0.size m.length ad m.length c (Tl.bs m) (by rw [hcs, hz1, Nat.mul_one]) hnews
    refine ⟨g, cap, w.setRow g (cur.toList.take (l.length + 0) ++ Tl.bs m ++ cur.toList.drop (l.length + 0 + (Tl.bs m).length)).toArray, ?_, ?_, .inl rfl, ?_⟩
    rotate_left
    · refine ⟨_, f, setRow_heap w g cur (cur.toList.take (l.length + 0) ++ Tl.bs m ++ cur.toList.drop (l.length + 0 + (Tl.bs m).length)).toArray 5 f h1, by rw [hll]; omega, h3, ?_, ?_, h6⟩
      · simp only [List.size_toArray, List.length_append, List.length_take, List.length_drop, Array.length_toList, hcs]; omega
      · simp only [Nat.add_zero]
        rw [h5, hll, Tl.bs_app, show l.length + m.length = (Tl.bs l ++ Tl.bs m).length by rw [List.length_append, Tl.bs_len, hcs]]
        exact List.take_left
    · exact ⟨rfl, rfl, rfl, by simp, fun k _ hk => setRow_other w g k _ (fun e => hk (by rw [e]))⟩
    · rw [hll]
      simp only [Nat.add_zero] at hst ⊢
      rw [hz1] at hf
      simp [Builtin.append_, run_underlying Tryd.underlying59, sizeOf, typeInfo, hi, hz1, Builtin.lenOf, hroom, hf, Addr.add_lit, hst]
  · have hr := run_append_grow (P := Tryd.prog) w 59 ty 5 i0 (.int .u8 0) Tryd.underlying59 hi hz0 ⟨g, 0, none⟩ l.length cap (Tl.bs l) (by rw [Tl.bs_len, hz1, Nat.mul_one]) (fun j v hj => by
      have hjl : j < l.length := by have := (List.getElem?_eq_some_iff.1 hj).1; rwa [Tl.bs_len] at this
      rw [Addr.add_lit, Nat.zero_add, h.cell j hjl, ← hj]
      unfold Tl.bs
      rw [List.getElem?_map, List.getElem?_eq_getElem hjl]; rfl) ad m.length c (Tl.bs m) (by rw [hcs, hz1, Nat.mul_one]) hnews (by omega) (by omega) (by rw [hz2]; exact growslice_fits (by omega) (by omega))
    have hge := grownCap_ge w (l.length + m.length) cap 5
    have hcm := grownCap_le_maxLen w (l.length + m.length) cap 5 (by unfold maxLen; omega)
    refine ⟨w.heap.size, _, w.drew.alloc (.cells ((Tl.bs l).toArray ++ (Tl.bs m).toArray ++ Builtin.zeroCells (Value.int IntKind.u8 0).cells (grownCap w (l.length + m.length) cap 5 - (l.length + m.length))) 5), by rw [hll]; exact hr, ?_, .inr rfl, ⟨rfl, rfl, rfl, by simp, fun k hk _ => heap_alloc_old w.drew _ hk⟩⟩
    refine ⟨_, _, heap_alloc_new w.drew _, by rw [hll]; exact hge, hcm, ?_, ?_, fun j _ hj => absurd hj.2 (Nat.not_lt_zero _)⟩
    · have hz : (Value.int IntKind.u8 0).cells.size = 1 := rfl
      simp only [Array.size_append, List.size_toArray, size_zeroCells, hz, Tl.bs_len, hcs]
      omega
    · simp only [Array.toList_append, List.append_assoc]
      rw [hll, Tl.bs_app, show l.length + m.length = (Tl.bs l ++ Tl.bs m).length by rw [List.length_append, Tl.bs_len, hcs], ← List.append_assoc]
      exact List.take_left
/-- the values of a param, each behind its mark -/
def vT : Nat → List ByteArray → List UInt8
  | _, [] => []
  | k, v :: l => (if k = 0 then 61 else 44) :: (Tl.tx (quo v) ++ vT (k + 1) l)
theorem vT_app : ∀ (k : Nat) (l : List ByteArray) (v : ByteArray), vT k (l ++ [v]) = vT k l ++ (if k + l.length = 0 then 61 else 44) :: Tl.tx (quo v)
  | k, [], v => by simp [vT]
  | k, x :: l, v => by
    show _ :: (_ ++ vT (k + 1) (l ++ [v])) = _
    rw [vT_app (k + 1) l v]
    simp only [vT, List.cons_append, List.append_assoc, List.length_cons]
    rw [show k + 1 + l.length = k + (l.length + 1) by omega]
/-- a param, written -/
def pT (x : PPm) : List UInt8 := 59 :: (Tl.tx x.n ++ vT 0 x.vs)
def psT (l : List PPm) : List UInt8 := (l.map pT).flatten
theorem psT_step (l : List PPm) (k : Nat) (h : k < l.length) : psT (l.take (k + 1)) = psT (l.take k) ++ pT l[k] := by
  have e : (l.take (k + 1)).map pT = (l.take k).map pT ++ [pT l[k]] := by
    rw [List.take_add_one, List.getElem?_eq_getElem h, List.map_append]
    rfl
  unfold psT
  rw [e, List.flatten_append]
  simp only [List.flatten_cons, List.flatten_nil, List.append_nil]
/-- a line, written -/
def lT (x : PLn) : List UInt8 := Tl.tx x.n ++ psT x.ps ++ 58 :: Tl.tx x.v
/-- what is ahead of a place is not longer -/
theorem psT_le (l : List PPm) (k : Nat) : (psT (l.take k)).length ≤ (psT l).length := by
  have h := List.take_append_drop k l
  have e : psT l = psT (l.take k) ++ psT (l.drop k) := by
    unfold psT
    rw [← List.flatten_append, ← List.map_append, h]
  rw [e, List.length_append]; omega
theorem vT_le : ∀ (n : Nat) (l : List ByteArray) (k : Nat), (vT n (l.take k)).length ≤ (vT n l).length
  | n, [], k => by simp
  | n, v :: l, 0 => by simp [vT]
  | n, v :: l, k + 1 => by
    have := vT_le (n + 1) l k
    simp only [List.take_succ_cons, vT, List.length_cons, List.length_append]
    omega
end Go.Proofs.YtponocolfjkapaaDoor
