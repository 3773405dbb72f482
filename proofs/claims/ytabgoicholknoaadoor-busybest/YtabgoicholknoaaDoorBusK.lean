/- BusyBest: numbers appended; what the best meeting is, said as the law asks it. -/
import Derived.Test.YtabgoicholknoaaDoorBusI
import Derived.Laws.AppendOwnNone
namespace Go.Proofs.YtabgoicholknoaaDoor
open Go.RowKit Go.Shelf Go.Maps
set_option linter.unusedVariables false
set_option linter.unusedSimpArgs false

/-- a slice that is nil, or lies somewhere -/
def FormS (v : Value) : Prop := v = .slice none 0 0 ∨ ∃ a l c, v = .slice (some a) l c
/-- append(numbers, numbers...) -/
theorem run_app_ints {w : World} {base : Nat} {v x : Value} {L zs : List Int} (ty : TypeId) (hown : w.ownsRow base 3 1 v L.length (L.map (Value.int .i64))) (hx : IsAt w x zs) (hf : FormS x) (hlen : L.length ≤ 1000000000000) (hz : zs.length ≤ 1000000000000) (hbase : base ≤ w.heap.size) :
    ∃ v' w', (Builtin.append_ #[23, 23] ty #[v, x]).run Tryd.prog w = .ok v' w' ∧ w'.ownsRow base 3 1 v' (L ++ zs).length ((L ++ zs).map (Value.int .i64)) ∧ Below base w w' := by
  obtain ⟨i0, hi, hz0, hz1, hz2⟩ := info_parts int_info
  obtain ⟨ad, c, e, hl, hall⟩ := hx
  rcases hf with hf | ⟨a, l, c', hf⟩
  · rw [hf] at e
    simp only [Value.slice.injEq] at e
    have h0 : zs = [] := List.eq_nil_of_length_eq_zero e.2.1.symm
    subst h0
    have hrun := run_append_owned_none (P := Tryd.prog) (w := w) base 23 ty 3 i0 1 Tryd.underlying23 hi v L.length (L.map (Value.int .i64)) hown
    exact ⟨v, w, by rw [hf]; exact hrun, by simpa using hown, Below.refl _ _⟩
  · rw [hf] at e
    simp only [Value.slice.injEq] at e
    obtain ⟨ea, el, ec⟩ := e
    subst el
    obtain ⟨v', w', hr, g1, g2, g3⟩ := run_append_own (P := Tryd.prog) w base 23 ty 3 i0 (.int .i64 0) 1 8 Tryd.underlying23 hi hz0 hz1 hz2 rfl (by decide) v L.length (L.map (Value.int .i64)) hown a zs.length c' (zs.map (Value.int .i64)) (by simp) (fun j u hu => by
      have hj : j < zs.length := by have := (List.getElem?_eq_some_iff.1 hu).1; simpa using this
      obtain ⟨g', o', e1, e2⟩ := hall j hj
      rw [← ea] at e1
      obtain rfl : a = ⟨g', o', none⟩ := Option.some.inj e1
      rw [List.getElem?_map, List.getElem?_eq_getElem hj] at hu
      simp only [Option.map_some, Option.some.injEq] at hu
      rw [Addr.add_lit, e2, ← hu, getD_at zs j 0 hj]) (fun u hu => by obtain ⟨z, _, rfl⟩ := List.mem_map.1 hu; rfl) (by unfold maxLen; omega) (by omega) hbase
    refine ⟨v', w', by rw [hf]; exact hr, ?_, (Below.refl _ w).grown g2 hbase fun j hj => (hown.lt j hj).1⟩
    rw [List.length_append, List.map_append]
    exact g1
theorem own_empty (w : World) : (w.alloc (.cells #[] 3)).ownsRow w.heap.size 3 1 (.slice (some ⟨w.heap.size, 0, none⟩) 0 0) 0 [] :=
  ⟨rfl, .inr ⟨w.heap.size, 0, #[], rfl, Nat.le_refl _, World.alloc_heap_new w _, Nat.le_refl _, by unfold maxLen; omega, rfl, rfl⟩⟩
theorem ms_len (W : Wn) (Ps : List (List (Int × Int))) (hnd : W.should.Nodup) (t : Int) : (W.ms Ps t).length = (W.should.filter (bads t W.len Ps)).length := by
  have h := (List.mergeSort_perm (W.should.filter (bads t W.len Ps)) fun x y => decide (x ≤ y)).length_eq
  rw [msP_perm _ _ hnd] at h
  exact h
theorem okM_len (W : Wn) (Ps : List (List (Int × Int))) (t : Int) : W.okM Ps t = true ↔ (W.must.filter (bads t W.len Ps)).length = 0 := by
  unfold Wn.okM
  rw [List.length_eq_zero_iff, List.filter_eq_nil_iff, List.all_eq_true]
  constructor
  · intro h a ha
    have := h a ha
    simpa [Wn.bad, bads] using this
  · intro h a ha
    have := h a ha
    simpa [Wn.bad, bads] using this
/-- what the law looks for at each time: what is found is as good as any -/
theorem best_all (W : Wn) (Ps : List (List (Int × Int))) (hs : W.seats = 0) (hnd : W.should.Nodup) (n : Nat) (i : Nat) (hi : i < n) (hok : (W.must.filter (bads (W.at' i) W.len Ps)).length = 0) (hst : 0 < W.step) :
    ∃ a, W.fndN Ps [] n = some a ∧ a.2.2.length ≤ (W.should.filter (bads (W.at' i) W.len Ps)).length ∧ ((W.should.filter (bads (W.at' i) W.len Ps)).length = a.2.2.length → a.1 ≤ W.at' i) := by
  have hgood : (W.okM Ps (W.at' i) && W.okR [] (W.at' i)) = true := by
    rw [(okM_len W Ps _).2 hok]; unfold Wn.okR; rw [hs]; rfl
  obtain ⟨h1, h2⟩ := W.fndN_spec Ps [] n
  cases hA : W.fndN Ps [] n with
  | none => have := h1 hA i hi; rw [hgood] at this; cases this
  | some a =>
    obtain ⟨k, hk, ha, _, hall⟩ := h2 a hA
    obtain ⟨g1, g2⟩ := hall i hi hgood
    rw [ms_len W Ps hnd] at g1 g2
    refine ⟨a, rfl, g1, fun e => ?_⟩
    have hki : k ≤ i := by
      rcases Nat.lt_or_ge i k with h | h
      · have := g2 h; omega
      · exact h
    rw [ha]
    show W.at' k ≤ W.at' i
    unfold Wn.at'
    have : (k : Int) * W.step ≤ i * W.step := Int.mul_le_mul_of_nonneg_right (by omega) (by omega)
    omega
/-- and it is one of them -/
theorem best_one (W : Wn) (Ps : List (List (Int × Int))) (hnd : W.should.Nodup) (n : Nat) (a : Int × Int × List Int) (h : W.fndN Ps [] n = some a) :
    ∃ k < n, a.1 = W.at' k ∧ (W.must.filter (bads (W.at' k) W.len Ps)).length = 0 ∧ (W.should.filter (bads (W.at' k) W.len Ps)).length = a.2.2.length := by
  obtain ⟨k, hk, ha, hok, _⟩ := (W.fndN_spec Ps [] n).2 a h
  rw [Bool.and_eq_true] at hok
  exact ⟨k, hk, by rw [ha], (okM_len W Ps _).1 hok.1, by rw [ha]; exact (ms_len W Ps hnd _).symm⟩
/-- whether the one that is found has been come by -/
def seenB (W : Wn) (Ps : List (List (Int × Int))) (m : Mt) : Nat → Bool
  | 0 => false
  | k + 1 => seenB W Ps m k || (match m with | none => false | some a => decide ((W.must.filter (bads (W.at' k) W.len Ps)).length = 0) && (decide (W.at' k = a.1) && decide ((W.should.filter (bads (W.at' k) W.len Ps)).length = a.2.2.length)))
theorem seenB_none (W : Wn) (Ps : List (List (Int × Int))) : ∀ k, seenB W Ps none k = false
  | 0 => rfl
  | k + 1 => by rw [seenB, seenB_none W Ps k]; rfl
theorem seenB_some (W : Wn) (Ps : List (List (Int × Int))) (a : Int × Int × List Int) (k : Nat) : seenB W Ps (some a) (k + 1) = (seenB W Ps (some a) k || (decide ((W.must.filter (bads (W.at' k) W.len Ps)).length = 0) && (decide (W.at' k = a.1) && decide ((W.should.filter (bads (W.at' k) W.len Ps)).length = a.2.2.length)))) := rfl
theorem seenB_no (W : Wn) (Ps : List (List (Int × Int))) (m : Mt) (k : Nat) (h : (W.must.filter (bads (W.at' k) W.len Ps)).length ≠ 0) : seenB W Ps m (k + 1) = seenB W Ps m k := by
  cases m with
  | none => rw [seenB_none, seenB_none]
  | some a => rw [seenB_some, decide_eq_false h, Bool.false_and, Bool.or_false]
theorem seenB_has (W : Wn) (Ps : List (List (Int × Int))) (a : Int × Int × List Int) : ∀ (n k : Nat), k < n → (W.must.filter (bads (W.at' k) W.len Ps)).length = 0 → W.at' k = a.1 → (W.should.filter (bads (W.at' k) W.len Ps)).length = a.2.2.length → seenB W Ps (some a) n = true
  | n + 1, k, hk, h1, h2, h3 => by
    rw [seenB]
    by_cases e : k = n
    · subst e
      show (seenB W Ps (some a) k || (decide _ && (decide _ && decide _))) = true
      rw [decide_eq_true h1, decide_eq_true h2, decide_eq_true h3, Bool.and_self, Bool.and_self, Bool.or_true]
    · rw [seenB_has W Ps a n k (by omega) h1 h2 h3, Bool.true_or]
theorem seen_all (W : Wn) (Ps : List (List (Int × Int))) (hnd : W.should.Nodup) (n : Nat) : seenB W Ps (W.fndN Ps [] n) n = (W.fndN Ps [] n).isSome := by
  cases h : W.fndN Ps [] n with
  | none => exact seenB_none W Ps n
  | some a =>
    obtain ⟨k, hk, e1, e2, e3⟩ := best_one W Ps hnd n a h
    exact seenB_has W Ps a n k hk e2 e1.symm e3
/-- how far the times may still go -/
def muB (t : Int) (p mo : Value) : Nat := match mo with | .bool true => (t - intOf p).toNat + 2 | _ => 0
/-- no room is asked for -/
def Wn.bare (W : Wn) : Wn := { W with seats := 0 }
theorem q_good {W : Wn} {n D q : Int} (h : W.bare.Good n) (hD : wrap64 (W.to' - W.from') = D) (hq : wrap64 (D.tdiv W.step) = q) : D = W.to' - W.from' ∧ q = (W.to' - W.from') / W.step ∧ q ≤ 10000 := by
  have f1 : -345600086399 ≤ W.from' := h.f1
  have t1 : W.to' ≤ 345600086399 := h.t1
  have ft : W.from' ≤ W.to' := h.ft
  have s1 : 1 ≤ W.step := h.s1
  have n1 : (W.to' - W.from') / W.step ≤ 10000 := h.n1
  have e1 : D = W.to' - W.from' := by rw [← hD, wrap64_id] <;> omega
  have e2 : D.tdiv W.step = (W.to' - W.from') / W.step := by rw [e1]; exact Int.tdiv_eq_ediv_of_nonneg (by omega)
  have n0 : 0 ≤ (W.to' - W.from') / W.step := Int.ediv_nonneg (by omega) (by omega)
  have e3 : q = (W.to' - W.from') / W.step := by rw [← hq, e2, wrap64_id] <;> omega
  exact ⟨e1, e3, by rw [e3]; exact n1⟩
theorem own_isAt {X : World} {base : Nat} {v : Value} {L : List Int} (h : X.ownsRow base 3 1 v L.length (L.map (Value.int .i64))) (hl : L.length ≤ 1000000000000) : IsAt X v L := by
  have h' := h
  rcases h.2 with ⟨rfl, e⟩ | ⟨g, cap, cur, rfl, _⟩
  · exact ⟨none, 0, by rw [e], by omega, fun j hj => by omega⟩
  · refine ⟨some ⟨g, 0, none⟩, cap, rfl, by omega, fun j hj => ⟨g, 0, rfl, ?_⟩⟩
    rw [Nat.zero_add, h'.cellAt j (by omega), List.getElem?_map, List.getElem?_eq_getElem hj, getD_at L j 0 hj]; rfl
/-- the next time: whether there is one -/
theorem next_at (W : Wn) (k : Nat) (hk : k < W.many) (hs : 1 ≤ W.step) (hl : 1 ≤ W.len) :
    (W.step ≤ W.to' - W.at' k ∧ W.at' (k + 1) = W.at' k + W.step ∧ W.at' (k + 1) ≤ W.to') ∨ (¬ W.step ≤ W.to' - W.at' k ∧ k + 1 = W.many) := by
  have e : W.at' (k + 1) = W.at' k + W.step := by
    unfold Wn.at'
    have : ((k + 1 : Nat) : Int) * W.step = k * W.step + W.step := by rw [Int.natCast_add, Int.add_mul]; simp
    omega
  have h1 := (W.many_iff (by omega) k).1 hk
  by_cases h : W.step ≤ W.to' - W.at' k
  · exact .inl ⟨h, e, by omega⟩
  · refine .inr ⟨h, ?_⟩
    have h2 : ¬ k + 1 < W.many := fun h3 => by have := (W.many_iff (by omega) (k + 1)).1 h3; omega
    omega
end Go.Proofs.YtabgoicholknoaaDoor
