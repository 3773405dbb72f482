/- package text: appends to bytes made of a text, in the walk's list of operations. -/
import Derived.Test.YtponocolfjkapaaDoorMTextBackUpto26
import Derived.Test.YtponocolfjkapaaDoorMTextBackUpto6
import Derived.Test.YtponocolfjkapaaDoorMTextBackUpto22
import Derived.Test.YtponocolfjkapaaDoorMTextBackUpto14
namespace Go.Proofs.YtponocolfjkapaaDoor
open Go.RowKit
set_option linter.unusedVariables false
set_option linter.unusedSimpArgs false

/-- append(bytes, bytes...) -/
theorem CB.push {w : World} {g cap : Nat} {l : List UInt8} (h : CB w g cap l) (m : List UInt8) (ad : Addr) (c : Nat) (ty : TypeId) (hnews : ∀ j u, (Tl.bs m)[j]? = some u → w.cell? (ad.add j) = some u) (hlen : l.length + m.length ≤ 4000000000) (h0 : 0 < m.length) :
    ∃ g' cap' w', (Builtin.append_ #[59, 59] ty #[.slice (some ⟨g, 0, none⟩) l.length cap, .slice (some ad) m.length c]).run Tryd.prog w = .ok (.slice (some ⟨g', 0, none⟩) (l ++ m).length cap') w' ∧ CB w' g' cap' (l ++ m) ∧
      (g' = g ∨ g' = w.heap.size) ∧ w.grownBy w' (some g) := by
  obtain ⟨i0, hi, hz0, hz1, hz2⟩ := info_of' infoByte
  obtain ⟨cur, f, h1, h2, h3, h4, h5, h6⟩ := h.ex
  have hll : (l ++ m).length = l.length + m.length := List.length_append
  have hcs : (Tl.bs m).length = m.length := Tl.bs_len m
  by_cases hroom : l.length + m.length ≤ cap
  · have hst := run_storeCells_fr (P := Tryd.prog) g l.length 5 f (Tl.bs m) 0 cur w h1 (by rw [hcs]; omega) (by rw [h4]; exact h6) (Tl.bs_one m)
    have hf := run_firstCells_some (P := Tryd.prog) w i0.size m.length ad m.length c (Tl.bs m) (by rw [hcs, hz1, Nat.mul_one]) hnews
    refine ⟨g, cap, w.setRow g (cur.toList.take (l.length + 0) ++ Tl.bs m ++ cur.toList.drop (l.length + 0 + (Tl.bs m).length)).toArray, ?_, ?_, .inl rfl, ?_⟩
    rotate_left
    · refine ⟨_, f, setRow_heap w g cur (cur.toList.take (l.length + 0) ++ Tl.bs m ++ cur.toList.drop (l.length + 0 + (Tl.bs m).length)).toArray 5 f h1, by rw [hll]; omega, h3, ?_, ?_, h6⟩
      · simp only [List.size_toArray, List.length_append, List.length_take, List.length_drop, Array.length_toList, hcs]; omega
      · simp only [Nat.add_zero]
        rw [h5, hll, Tl.bs_app, show l.length + m.length = (Tl.bs l ++ Tl.bs m).length by rw [List.length_append, Tl.bs_len, hcs]]
        exact List.take_left
    · exact ⟨rfl, rfl, rfl, by simp, fun k _ hk => setRow_other w g k _ (fun e => hk (by rw [e]))⟩
    · rw [hll]
      simp only [Nat.add_zero] at hst ⊢
      rw [hz1] at hf
      simp [Builtin.append_, run_underlying Tryd.underlying59, sizeOf, typeInfo, hi, hz1, Builtin.lenOf, hroom, hf, Addr.add_lit, hst]
  · have hr := run_append_grow (P := Tryd.prog) w 59 ty 5 i0 (.int .u8 0) Tryd.underlying59 hi hz0 ⟨g, 0, none⟩ l.length cap (Tl.bs l) (by rw [Tl.bs_len, hz1, Nat.mul_one]) (fun j v hj => by
      have hjl : j < l.length := by have := (List.getElem?_eq_some_iff.1 hj).1; rwa [Tl.bs_len] at this
      rw [Addr.add_lit, Nat.zero_add, h.cell j hjl, ← hj]
      unfold Tl.bs
      rw [List.getElem?_map, List.getElem?_eq_getElem hjl]; rfl) ad m.length c (Tl.bs m) (by rw [hcs, hz1, Nat.mul_one]) hnews (by omega) (by omega) (by rw [hz2]; exact growslice_fits (by omega) (by omega))
    have hge := grownCap_ge w (l.length + m.length) cap 5
    have hcm := grownCap_le_maxLen w (l.length + m.length) cap 5 (by unfold maxLen; omega)
    refine ⟨w.heap.size, _, w.drew.alloc (.cells ((Tl.bs l).toArray ++ (Tl.bs m).toArray ++ Builtin.zeroCells (Value.int IntKind.u8 0).cells (grownCap w (l.length + m.length) cap 5 - (l.length + m.length))) 5), by rw [hll]; exact hr, ?_, .inr rfl, ⟨rfl, rfl, rfl, by simp, fun k hk _ => heap_alloc_old w.drew _ hk⟩⟩
    refine ⟨_, _, heap_alloc_new w.drew _, by rw [hll]; exact hge, hcm, ?_, ?_, fun j _ hj => absurd hj.2 (Nat.not_lt_zero _)⟩
    · have hz : (Value.int IntKind.u8 0).cells.size = 1 := rfl
      simp only [Array.size_append, List.size_toArray, size_zeroCells, hz, Tl.bs_len, hcs]
      omega
    · simp only [Array.toList_append, List.append_assoc]
      rw [hll, Tl.bs_app, show l.length + m.length = (Tl.bs l ++ Tl.bs m).length by rw [List.length_append, Tl.bs_len, hcs], ← List.append_assoc]
      exact List.take_left
/-- the values of a param, each behind its mark -/
def vT : Nat → List ByteArray → List UInt8
  | _, [] => []
  | k, v :: l => (if k = 0 then 61 else 44) :: (Tl.tx (quo v) ++ vT (k + 1) l)
theorem vT_app : ∀ (k : Nat) (l : List ByteArray) (v : ByteArray), vT k (l ++ [v]) = vT k l ++ (if k + l.length = 0 then 61 else 44) :: Tl.tx (quo v)
  | k, [], v => by simp [vT]
  | k, x :: l, v => by
    show _ :: (_ ++ vT (k + 1) (l ++ [v])) = _
    rw [vT_app (k + 1) l v]
    simp only [vT, List.cons_append, List.append_assoc, List.length_cons]
    rw [show k + 1 + l.length = k + (l.length + 1) by omega]
/-- a param, written -/
def pT (x : PPm) : List UInt8 := 59 :: (Tl.tx x.n ++ vT 0 x.vs)
def psT (l : List PPm) : List UInt8 := (l.map pT).flatten
theorem psT_step (l : List PPm) (k : Nat) (h : k < l.length) : psT (l.take (k + 1)) = psT (l.take k) ++ pT l[k] := by
  have e : (l.take (k + 1)).map pT = (l.take k).map pT ++ [pT l[k]] := by
    rw [List.take_add_one, List.getElem?_eq_getElem h, List.map_append]
    rfl
  unfold psT
  rw [e, List.flatten_append]
  simp only [List.flatten_cons, List.flatten_nil, List.append_nil]
/-- a line, written -/
def lT (x : PLn) : List UInt8 := Tl.tx x.n ++ psT x.ps ++ 58 :: Tl.tx x.v
/-- what is ahead of a place is not longer -/
theorem psT_le (l : List PPm) (k : Nat) : (psT (l.take k)).length ≤ (psT l).length := by
  have h := List.take_append_drop k l
  have e : psT l = psT (l.take k) ++ psT (l.drop k) := by
    unfold psT
    rw [← List.flatten_append, ← List.map_append, h]
  rw [e, List.length_append]; omega
theorem vT_le : ∀ (n : Nat) (l : List ByteArray) (k : Nat), (vT n (l.take k)).length ≤ (vT n l).length
  | n, [], k => by simp
  | n, v :: l, 0 => by simp [vT]
  | n, v :: l, k + 1 => by
    have := vT_le (n + 1) l k
    simp only [List.take_succ_cons, vT, List.length_cons, List.length_append]
    omega
end Go.Proofs.YtponocolfjkapaaDoor
namespace Go.Proofs.YtponocolfjkapaaDoor
open Go.RowKit
set_option linter.unusedVariables false
set_option linter.unusedSimpArgs false

/-- a line, folded -/
noncomputable def fld (l : List UInt8) : List UInt8 := (Tl.Fld.ex l.length l 75 (Nat.le_refl _) (by omega)).choose
theorem fld_is (l : List UInt8) : Tl.Fld 75 l (fld l) := (Tl.Fld.ex l.length l 75 (Nat.le_refl _) (by omega)).choose_spec.1
theorem fld_len (l : List UInt8) : (fld l).length ≤ 4 * l.length + 2 := (Tl.Fld.ex l.length l 75 (Nat.le_refl _) (by omega)).choose_spec.2
/-- lines, each folded -/
noncomputable def lsT : List PLn → List UInt8
  | [] => []
  | x :: ls => fld (lT x) ++ lsT ls
/-- the line that begins a part, and the one that ends it -/
def bgT (nm : ByteArray) : List UInt8 := [66, 69, 71, 73, 78, 58] ++ Tl.tx nm
def enT (nm : ByteArray) : List UInt8 := [69, 78, 68, 58] ++ Tl.tx nm
theorem bgT_len (nm : ByteArray) : (bgT nm).length = 6 + nm.size := by unfold bgT; simp only [List.length_append, Tl.tx_len, List.length_cons, List.length_nil]
theorem enT_len (nm : ByteArray) : (enT nm).length = 4 + nm.size := by unfold enT; simp only [List.length_append, Tl.tx_len, List.length_cons, List.length_nil]
mutual
/-- a part's text -/
noncomputable def ptT : PPt → List UInt8
  | .mk nm ls ks => fld (bgT nm) ++ lsT ls ++ ptsT ks ++ fld (enT nm)
noncomputable def ptsT : List PPt → List UInt8
  | [] => []
  | k :: ks => ptT k ++ ptsT ks
end
theorem lsT_step : ∀ (ls : List PLn) (k : Nat) (h : k < ls.length), lsT (ls.take (k + 1)) = lsT (ls.take k) ++ fld (lT ls[k])
  | x :: ls, 0, h => by simp [lsT]
  | x :: ls, k + 1, h => by
    have ih := lsT_step ls k (by simpa using h)
    simp only [List.take_succ_cons, lsT, List.getElem_cons_succ, ih, List.append_assoc]
theorem ptsT_step : ∀ (ks : List PPt) (k : Nat) (h : k < ks.length), ptsT (ks.take (k + 1)) = ptsT (ks.take k) ++ ptT ks[k]
  | x :: ks, 0, h => by simp [ptsT]
  | x :: ks, k + 1, h => by
    have ih := ptsT_step ks k (by simpa using h)
    simp only [List.take_succ_cons, ptsT, List.getElem_cons_succ, ih, List.append_assoc]
/-- how great things are -/
def vsz (l : List ByteArray) : Nat := (l.map (fun v => v.size + 1)).sum
def pmz (x : PPm) : Nat := x.n.size + vsz x.vs
def psz (l : List PPm) : Nat := (l.map (fun x => pmz x + 1)).sum
def lnz (x : PLn) : Nat := x.n.size + x.v.size + psz x.ps
def lsz (l : List PLn) : Nat := (l.map (fun x => lnz x + 1)).sum
mutual
def ptz : PPt → Nat
  | .mk nm ls ks => nm.size + lsz ls + ptsz ks
def ptsz : List PPt → Nat
  | [] => 0
  | k :: ks => ptz k + 1 + ptsz ks
end
theorem quo_size (v : ByteArray) : (quo v).size ≤ v.size + 2 := by
  unfold quo
  split
  · simp only [ByteArray.size_append]
    have : (⟨#[34]⟩ : ByteArray).size = 1 := rfl
    omega
  · omega
theorem vT_len : ∀ (n : Nat) (l : List ByteArray), (vT n l).length ≤ 3 * vsz l
  | _, [] => by simp [vT]
  | n, v :: l => by
    have := vT_len (n + 1) l
    have := quo_size v
    simp only [vT, vsz, List.map_cons, List.sum_cons, List.length_cons, List.length_append, Tl.tx_len] at *
    omega
theorem pT_len (x : PPm) : (pT x).length ≤ 3 * (pmz x + 1) := by
  have := vT_len 0 x.vs
  simp only [pT, pmz, List.length_cons, List.length_append, Tl.tx_len]
  omega
theorem psT_len : ∀ (l : List PPm), (psT l).length ≤ 3 * psz l
  | [] => by simp [psT]
  | x :: l => by
    have := psT_len l
    have := pT_len x
    simp only [psT, psz, List.map_cons, List.sum_cons, List.flatten_cons, List.length_append] at *
    omega
theorem lT_len (x : PLn) : (lT x).length ≤ 3 * lnz x + 1 := by
  have := psT_len x.ps
  simp only [lT, lnz, List.length_cons, List.length_append, Tl.tx_len]
  omega
theorem lsT_len : ∀ (l : List PLn), (lsT l).length ≤ 12 * lsz l
  | [] => by simp [lsT]
  | x :: l => by
    have := lsT_len l
    have := lT_len x
    have := fld_len (lT x)
    simp only [lsT, lsz, List.map_cons, List.sum_cons, List.length_append] at *
    omega
theorem lnz_le : ∀ (l : List PLn) (k : Nat) (h : k < l.length), lnz l[k] ≤ lsz l
  | x :: l, 0, h => by simp only [lsz, List.map_cons, List.sum_cons, List.getElem_cons_zero]; omega
  | x :: l, k + 1, h => by
    have := lnz_le l k (by simpa using h)
    simp only [lsz, List.map_cons, List.sum_cons, List.getElem_cons_succ] at *
    omega
theorem ptz_le : ∀ (l : List PPt) (k : Nat) (h : k < l.length), ptz l[k] ≤ ptsz l
  | x :: l, 0, h => by simp only [ptsz, List.getElem_cons_zero]; omega
  | x :: l, k + 1, h => by
    have := ptz_le l k (by simpa using h)
    simp only [ptsz, List.getElem_cons_succ] at *
    omega
mutual
theorem ptT_len : ∀ t, (ptT t).length ≤ 44 * (ptz t + 1)
  | .mk nm ls ks => by
    have h1 := fld_len (bgT nm)
    have h2 := fld_len (enT nm)
    have h3 := lsT_len ls
    have h4 := ptsT_len ks
    have e1 := bgT_len nm
    have e2 := enT_len nm
    simp only [ptT, ptz, List.length_append]
    omega
theorem ptsT_len : ∀ ks, (ptsT ks).length ≤ 44 * ptsz ks
  | [] => by simp [ptsT]
  | k :: ks => by
    have h1 := ptT_len k
    have h2 := ptsT_len ks
    simp only [ptsT, ptsz, List.length_append]
    omega
end
theorem lsT_le (ls : List PLn) (k : Nat) : (lsT (ls.take k)).length ≤ (lsT ls).length := by
  induction ls generalizing k with
  | nil => simp
  | cons x ls ih =>
    cases k with
    | zero => simp [lsT]
    | succ k => have := ih k; simp only [List.take_succ_cons, lsT, List.length_append]; omega
theorem ptsT_le (ks : List PPt) (k : Nat) : (ptsT (ks.take k)).length ≤ (ptsT ks).length := by
  induction ks generalizing k with
  | nil => simp
  | cons x ks ih =>
    cases k with
    | zero => simp [ptsT]
    | succ k => have := ih k; simp only [List.take_succ_cons, ptsT, List.length_append]; omega
end Go.Proofs.YtponocolfjkapaaDoor
namespace Go.Proofs.YtponocolfjkapaaDoor
open Go.RowKit
set_option linter.unusedVariables false
set_option linter.unusedSimpArgs false

/-- a slice of bytes of one's own, made of a text -/
def CO (w : World) (base : Nat) (v : Value) (l : List UInt8) : Prop := ∃ g cap, v = .slice (some ⟨g, 0, none⟩) l.length cap ∧ base ≤ g ∧ CB w g cap l
theorem CO.later {w w' : World} {base : Nat} {v : Value} {l : List UInt8} (h : CO w base v l) (hb : Below w.heap.size w w') : CO w' base v l := by
  obtain ⟨g, cap, e, hg, hc⟩ := h
  exact ⟨g, cap, e, hg, hc.later hb⟩
theorem CO.kept {w w' : World} {base : Nat} {v : Value} {l : List UInt8} (h : CO w base v l) {row : Option Nat} (hg : w.grownBy w' row) (hne : v.ownBlock ≠ row) : CO w' base v l := by
  obtain ⟨g, cap, rfl, hg1, hc⟩ := h
  exact ⟨g, cap, rfl, hg1, hc.at (hg.block _ hc.lt (fun e => hne e))⟩
theorem CO.conv {w : World} {base : Nat} {v : Value} {l : List UInt8} (h : CO w base v l) : (convert 59 9 v).run Tryd.prog w = .ok (.string (Tl.str l)) w := by
  obtain ⟨g, cap, rfl, _, hc⟩ := h
  exact hc.conv
/-- its block is no box of another type -/
theorem CO.not_box {w : World} {base : Nat} {v : Value} {l : List UInt8} (h : CO w base v l) {B : Nat} {cs : Array Value} {t : TypeId} {f : Nat × Nat} (hb : w.heap[B]? = some (.cells cs t f)) (ht : t ≠ 5) : v.ownBlock ≠ some B := by
  obtain ⟨g, cap, rfl, _, hc⟩ := h
  intro e
  obtain rfl : g = B := by simpa [Value.ownBlock] using e
  obtain ⟨cur, f', h1, _⟩ := hc.ex
  rw [h1] at hb
  cases hb
  exact ht rfl
theorem wpList_append_co {ops : Array Oper} {rest : List Oper} {o : Oper} {a : Act} {w : World} {Q : Exit → Act → World → Prop} (hgd : o.guard = none) (s x : Operand)
    (ho : o.op = .call { callee := .builtin .append, args := #[s, x], argTypes := #[59, 59] })
    (base : Nat) (v : Value) (l m : List UInt8) (hs : a.eval s = v) (hown : CO w base v l) (ad : Addr) (n c : Nat) (hn : m.length = n) (hx : a.eval x = .slice (some ad) n c) (hnews : ∀ j u, (Tl.bs m)[j]? = some u → w.cell? (ad.add j) = some u)
    (hlen : l.length + m.length ≤ 4000000000) (h0 : 0 < m.length) (hbase : base ≤ w.heap.size)
    (h : ∀ v' w', CO w' base v' (l ++ m) → w.grownBy w' v.ownBlock → Below base w w' → wpList Tryd.prog ops Q rest (a.put o.dst v') w') : wpList Tryd.prog ops Q (o :: rest) a w := by
  subst hn
  obtain ⟨g, cap, rfl, hg, hc⟩ := hown
  refine wpList_plain hgd fun K hK => ?_
  obtain ⟨g', cap', w', hr, h2, h3, h4⟩ := hc.push m ad c o.type hnews hlen h0
  unfold Oper.wp execOp
  simp only [ho, resolve, invoke, builtin, Sem.run_bind, Sem.run_pure, Result.andThen_ok, List.map_toArray, List.map_cons, List.map_nil, hs, hx, hr]
  exact hK _ _ (h _ w' ⟨g', cap', rfl, by omega, h2⟩ h4 ((Below.refl _ w).grown h4 hbase fun k e => by cases e; exact hg))
theorem wpList_append_cos {ops : Array Oper} {rest : List Oper} {o : Oper} {a : Act} {w : World} {Q : Exit → Act → World → Prop} (hgd : o.guard = none) (s x : Operand)
    (ho : o.op = .call { callee := .builtin .append, args := #[s, x], argTypes := #[59, 9] })
    (base : Nat) (v : Value) (l : List UInt8) (hs : a.eval s = v) (hown : CO w base v l) (t : ByteArray) (hx : a.eval x = .string t)
    (hlen : l.length + t.size ≤ 4000000000) (hbase : base ≤ w.heap.size)
    (h : ∀ v' w', CO w' base v' (l ++ Tl.tx t) → w.grownBy w' v.ownBlock → Below base w w' → wpList Tryd.prog ops Q rest (a.put o.dst v') w') : wpList Tryd.prog ops Q (o :: rest) a w := by
  obtain ⟨g, cap, rfl, hg, hc⟩ := hown
  refine wpList_plain hgd fun K hK => ?_
  obtain ⟨g', cap', w', hr, h2, h3, h4⟩ := hc.append t o.type hlen
  unfold Oper.wp execOp
  simp only [ho, resolve, invoke, builtin, Sem.run_bind, Sem.run_pure, Result.andThen_ok, List.map_toArray, List.map_cons, List.map_nil, hs, hx, hr]
  exact hK _ _ (h _ w' ⟨g', cap', rfl, by omega, h2⟩ h4 ((Below.refl _ w).grown h4 hbase fun k e => by cases e; exact hg))
end Go.Proofs.YtponocolfjkapaaDoor
