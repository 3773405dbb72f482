/- Rows of one's own whose elements point to memory: each element's memory lies in a stretch of blocks. -/
import Derived.Test.YtabgoicholknoaaDoorTxlC
namespace Go.Proofs.YtabgoicholknoaaDoor
open Go.RowKit
set_option linter.unusedVariables false
set_option linter.unusedSimpArgs false

/-- the blocks of a stretch are as they were -/
def Agree (s e : Nat) (W W' : World) : Prop := ∀ b, s ≤ b → b < e → W'.heap[b]? = W.heap[b]?
theorem Agree.mono {s e s' e' : Nat} {W W' : World} (h : Agree s e W W') (hs : s ≤ s') (he : e' ≤ e) : Agree s' e' W W' := fun b h1 h2 => h b (by omega) (by omega)
theorem Agree.trans {s e : Nat} {A B C : World} (h : Agree s e A B) (h' : Agree s e B C) : Agree s e A C := fun b h1 h2 => (h' b h1 h2).trans (h b h1 h2)
theorem Agree.below {n s e : Nat} {W W' : World} (h : Below n W W') (he : e ≤ n) : Agree s e W W' := fun b _ h2 => h.block b (by omega)
/-- what hangs on the blocks of a stretch alone -/
structure Fpt (Q : World → Prop) (s e : Nat) (W : World) : Prop where
  le : e ≤ W.heap.size
  ok : ∀ W', Agree s e W W' → W.heap.size ≤ W'.heap.size → Q W'
theorem Fpt.now {Q : World → Prop} {s e : Nat} {W : World} (h : Fpt Q s e W) : Q W := h.ok W (fun _ _ _ => rfl) (Nat.le_refl _)
theorem Fpt.later {Q : World → Prop} {s e : Nat} {W W' : World} (h : Fpt Q s e W) (ha : Agree s e W W') (hz : W.heap.size ≤ W'.heap.size) : Fpt Q s e W' :=
  ⟨Nat.le_trans h.le hz, fun W'' h' hz' => h.ok W'' (ha.trans h') (Nat.le_trans hz hz')⟩
theorem Fpt.widen {Q : World → Prop} {s e s' e' : Nat} {W : World} (h : Fpt Q s e W) (hs : s' ≤ s) (he : e ≤ e') (hz : e' ≤ W.heap.size) : Fpt Q s' e' W :=
  ⟨hz, fun W' h' hz' => h.ok W' (h'.mono hs he) hz'⟩
theorem Fpt.imp {Q R : World → Prop} {s e : Nat} {W : World} (h : Fpt Q s e W) (f : ∀ W', Q W' → R W') : Fpt R s e W := ⟨h.le, fun W' h' hz' => f W' (h.ok W' h' hz')⟩
/-- a row of one's own lies in its block alone -/
theorem ownsRow_agree {w w' : World} {base e z n : Nat} {v : Value} {ty : TypeId} {xs : List Value} (h : w.ownsRow base ty z v n xs) (hg : ∀ g, v.ownBlock = some g → w'.heap[g]? = w.heap[g]?) : w'.ownsRow base ty z v n xs :=
  ⟨h.1, h.2.imp id fun ⟨g, cap, cur, h1, h2, h3, h4⟩ => ⟨g, cap, cur, h1, h2, (hg g (by rw [h1]; rfl)).trans h3, h4⟩⟩
section
variable {P : Program} (w : World)
/-- append onto a row of one's own: the row's block is the same or a new one -/
theorem run_append_own2 (base : Nat) (t ty e : TypeId) (i : TypeInfo) (z : Value) (size bytes : Nat) (ht : P.underlying t = some (.slice e)) (hi : P.info? e = some i) (hz : i.zero = some z)
    (hsize : i.size = size) (hby : i.bytes = bytes) (hzs : z.cells.size = size) (hsz : 0 < size)
    (v : Value) (n : Nat) (xs : List Value) (hown : w.ownsRow base e size v n xs)
    (a : Addr) (m c : Nat) (news : List Value) (hl : news.length = m * size) (hnews : ∀ j u, news[j]? = some u → w.cell? (a.add j) = some u) (h1 : ∀ u ∈ news, u.oneCell' = true)
    (h63 : n + m ≤ maxLen) (hbytes : (n + m) * bytes ≤ 140737488355328) (hbase : base ≤ w.heap.size) :
    ∃ v' w', (Builtin.append_ #[t, t] ty #[v, .slice (some a) m c]).run P w = .ok v' w' ∧ w'.ownsRow base e size v' (n + m) (xs ++ news) ∧ w.grownBy w' v.ownBlock ∧
      (v'.ownBlock = v.ownBlock ∨ ∃ k, v'.ownBlock = some k ∧ w.heap.size ≤ k) := by
  obtain ⟨v', w', hr, h2, h3, h4⟩ := run_append_own (P := P) w base t ty e i z size bytes ht hi hz hsize hby hzs hsz v n xs hown a m c news hl hnews h1 h63 hbytes hbase
  refine ⟨v', w', hr, h2, h3, ?_⟩
  by_cases hm : m = 0 ∧ v = .slice none 0 0
  · obtain ⟨rfl, rfl⟩ := hm
    rw [h4.2 ⟨rfl, rfl⟩]
    exact .inl rfl
  -- the same run from a row that lies higher up: the answer is the same
  rcases hown.2 with ⟨rfl, rfl⟩ | ⟨g, cap, cur, rfl, hbg, hg, hnc, hcm, hcs, htake⟩
  · have hx : xs = [] := List.eq_nil_of_length_eq_zero (by simpa using hown.1)
    subst hx
    obtain ⟨v2, w2, hr2, g2, _, g4⟩ := run_append_own (P := P) w w.heap.size t ty e i z size bytes ht hi hz hsize hby hzs hsz (.slice none 0 0) 0 [] (World.ownsRow_nil _ _ _ _) a m c news hl hnews h1 h63 hbytes (Nat.le_refl _)
    rw [hr] at hr2
    cases hr2
    rcases g2.2 with ⟨rfl, _⟩ | ⟨k, _, _, rfl, hk, _⟩
    · exact .inl rfl
    · exact .inr ⟨k, rfl, hk⟩
  · by_cases hroom : n + m ≤ cap
    · subst hsize
      have hfit : n * i.size + news.length ≤ cur.size := by rw [hl, hcs, ← Nat.add_mul]; exact Nat.mul_le_mul_right _ hroom
      have hr2 := run_append_room (P := P) w t ty e i ht hi g n cap cur hg a m c news hl hnews h1 hroom hfit
      rw [hr] at hr2
      cases hr2
      exact .inl rfl
    · subst hsize
      subst hby
      have hsmall : n + m ≤ 9223372036854775807 := by simp only [maxLen] at h63; omega
      have holds : ∀ j u, xs[j]? = some u → w.cell? ((⟨g, 0, none⟩ : Addr).add j) = some u := hown.cells (g := g) rfl
      have hr2 := run_append_grow (P := P) w t ty e i z ht hi hz ⟨g, 0, none⟩ n cap xs hown.1 holds a m c news hl hnews (by omega) (by omega) (growslice_fits (by omega) hbytes)
      rw [hr] at hr2
      cases hr2
      exact .inr ⟨w.heap.size, rfl, Nat.le_refl _⟩
theorem wpList_append_own2 {ops : Array Oper} {rest : List Oper} {o : Oper} {a : Act} {Q : Exit → Act → World → Prop} (hgd : o.guard = none) (s x : Operand) (t : TypeId)
    (ho : o.op = .call { callee := .builtin .append, args := #[s, x], argTypes := #[t, t] })
    (base : Nat) (e : TypeId) (i : TypeInfo) (z : Value) (size bytes : Nat) (ht : P.underlying t = some (.slice e)) (hi : P.info? e = some i) (hz : i.zero = some z)
    (hsize : i.size = size) (hby : i.bytes = bytes) (hzs : z.cells.size = size) (hsz : 0 < size)
    (v : Value) (n : Nat) (xs : List Value) (hs : a.eval s = v) (hown : w.ownsRow base e size v n xs)
    (ad : Addr) (m c : Nat) (news : List Value) (hx : a.eval x = .slice (some ad) m c) (hl : news.length = m * size) (hnews : ∀ j u, news[j]? = some u → w.cell? (ad.add j) = some u) (h1 : ∀ u ∈ news, u.oneCell' = true)
    (h63 : n + m ≤ maxLen) (hbytes : (n + m) * bytes ≤ 140737488355328) (hbase : base ≤ w.heap.size)
    (h : ∀ v' w', w'.ownsRow base e size v' (n + m) (xs ++ news) → w.grownBy w' v.ownBlock → (v'.ownBlock = v.ownBlock ∨ ∃ k, v'.ownBlock = some k ∧ w.heap.size ≤ k) → wpList P ops Q rest (a.put o.dst v') w') : wpList P ops Q (o :: rest) a w := by
  refine wpList_plain hgd fun K hK => ?_
  obtain ⟨v', w', hr, h2, h3, h4⟩ := run_append_own2 (P := P) w base t o.type e i z size bytes ht hi hz hsize hby hzs hsz v n xs hown ad m c news hl hnews h1 h63 hbytes hbase
  unfold Oper.wp execOp
  simp only [ho, resolve, invoke, builtin, Sem.run_bind, Sem.run_pure, Result.andThen_ok, List.map_toArray, List.map_cons, List.map_nil, hs, hx, hr]
  exact hK _ _ (h v' w' h2 h3 h4)
end
/-- a row of one's own; what hangs on each element lies in a stretch that is not the row's -/
structure GRow {α : Type} (ty : TypeId) (z : Nat) (enc : α → List Value → World → Prop) (base : Nat) (v : Value) (L : List α) (W : World) : Prop where
  ex : ∃ vs : List (List Value), vs.length = L.length ∧ (∀ x ∈ vs, x.length = z) ∧ W.ownsRow base ty z v L.length vs.flatten ∧
    ∀ i (h : i < L.length) (h' : i < vs.length), ∃ s e, base ≤ s ∧ Fpt (enc L[i] vs[i]) s e W ∧ ∀ g, v.ownBlock = some g → ¬ (s ≤ g ∧ g < e)
section
variable {α : Type} {ty : TypeId} {z : Nat} {enc : α → List Value → World → Prop} {base : Nat} {v : Value} {L : List α} {W : World}
theorem GRow.nil : GRow ty z enc base (.slice none 0 0) [] W :=
  ⟨[], rfl, fun _ h => absurd h (by simp), World.ownsRow_nil _ _ _ _, fun i h => absurd h (Nat.not_lt_zero _)⟩
theorem GRow.form (h : GRow ty z enc base v L W) : ∃ a l c, v = .slice a l c := by
  obtain ⟨vs, _, _, h, _⟩ := h.ex
  exact ownr_form' h
theorem GRow.lt (h : GRow ty z enc base v L W) : ∀ g, v.ownBlock = some g → base ≤ g ∧ g < W.heap.size := by
  obtain ⟨vs, _, _, h, _⟩ := h.ex
  exact h.lt
/-- whatever leaves the blocks from the base on as they were keeps it -/
theorem GRow.keep (h : GRow ty z enc base v L W) {W' : World} (ha : Agree base W.heap.size W W') (hz : W.heap.size ≤ W'.heap.size) : GRow ty z enc base v L W' := by
  obtain ⟨vs, h1, h2, h3, h4⟩ := h.ex
  refine ⟨vs, h1, h2, ownsRow_agree (e := 0) h3 (fun g hg => ha g (h3.lt g hg).1 (h3.lt g hg).2), fun i hi hi' => ?_⟩
  obtain ⟨s, e, hb, hf, hg⟩ := h4 i hi hi'
  exact ⟨s, e, hb, hf.later (ha.mono hb hf.le) hz, hg⟩
theorem GRow.later (h : GRow ty z enc base v L W) {W' : World} (hb : Below W.heap.size W W') : GRow ty z enc base v L W' := h.keep (.below hb (Nat.le_refl _)) hb.size
/-- one element more -/
theorem GRow.push (h : GRow ty z enc base v L W) {W' : World} {v' : Value} {x : α} {cs : List Value} (hx : ∀ vs : List (List Value), W.ownsRow base ty z v L.length vs.flatten → W'.ownsRow base ty z v' (L.length + 1) (vs.flatten ++ cs)) (hcs : cs.length = z)
    (hg : W.grownBy W' v.ownBlock) (hn : v'.ownBlock = v.ownBlock ∨ ∃ k, v'.ownBlock = some k ∧ W.heap.size ≤ k) {s e : Nat} (hs : base ≤ s) (hf : Fpt (enc x cs) s e W) (hne : ∀ g, v.ownBlock = some g → ¬ (s ≤ g ∧ g < e)) : GRow ty z enc base v' (L ++ [x]) W' := by
  obtain ⟨vs, h1, h2, h3, h4⟩ := h.ex
  have hag : ∀ s e, e ≤ W.heap.size → (∀ g, v.ownBlock = some g → ¬ (s ≤ g ∧ g < e)) → Agree s e W W' := fun s e he hn b hb1 hb2 => hg.block b (by omega) fun eq => hn b eq.symm ⟨hb1, hb2⟩
  have hnew : ∀ s e, e ≤ W.heap.size → (∀ g, v.ownBlock = some g → ¬ (s ≤ g ∧ g < e)) → ∀ g, v'.ownBlock = some g → ¬ (s ≤ g ∧ g < e) := fun s e he hn0 g hgg => by
    rcases hn with h | ⟨k, hk, hk2⟩
    · exact hn0 g (h ▸ hgg)
    · rw [hk] at hgg
      cases hgg
      omega
  refine ⟨vs ++ [cs], by simp [h1], fun y hy => ?_, ?_, fun i hi hi' => ?_⟩
  · rw [List.mem_append, List.mem_singleton] at hy
    rcases hy with hy | rfl
    · exact h2 y hy
    · exact hcs
  · rw [List.flatten_append, List.length_append, List.length_singleton]
    simpa using hx vs h3
  · rw [List.length_append, List.length_singleton] at hi
    by_cases c : i < L.length
    · obtain ⟨s, e, hb, hf, hgg⟩ := h4 i c (by omega)
      refine ⟨s, e, hb, ?_, hnew s e hf.le hgg⟩
      rw [List.getElem_append_left c, List.getElem_append_left (by omega)]
      exact hf.later (hag s e hf.le hgg) hg.size
    · obtain rfl : i = L.length := by omega
      refine ⟨s, e, hs, ?_, hnew s e hf.le hne⟩
      rw [List.getElem_append_right (Nat.le_refl _), List.getElem_append_right (by omega)]
      simp only [Nat.sub_self, h1, List.getElem_cons_zero]
      exact hf.later (hag s e hf.le hne) hg.size
theorem flat_at : ∀ {vs : List (List Value)} {z : Nat}, (∀ x ∈ vs, x.length = z) → ∀ i (h : i < vs.length) j (hj : j < vs[i].length), vs.flatten[i * z + j]? = some vs[i][j]
  | x :: vs, z, hz, 0, h, j, hj => by
    rw [Nat.zero_mul, Nat.zero_add, List.flatten_cons]
    have hj' : j < x.length := hj
    rw [List.getElem?_append_left hj', List.getElem?_eq_getElem hj']; rfl
  | x :: vs, z, hz, i + 1, h, j, hj => by
    have hx := hz x List.mem_cons_self
    rw [List.flatten_cons, Nat.add_mul, Nat.one_mul, List.getElem?_append_right (by omega), hx, show i * z + z + j - z = i * z + j by omega]
    exact flat_at (fun y hy => hz y (List.mem_cons_of_mem _ hy)) i (by simpa using h) j hj
/-- its elements -/
theorem GRow.at (h : GRow ty z enc base v L W) (i : Nat) (hi : i < L.length) : ∃ g c cs, v = .slice (some ⟨g, 0, none⟩) L.length c ∧ base ≤ g ∧ cs.length = z ∧ enc L[i] cs W ∧ ∀ j (hj : j < cs.length), W.cell? ⟨g, i * z + j, none⟩ = some cs[j] := by
  obtain ⟨vs, h1, h2, h3, h4⟩ := h.ex
  obtain ⟨s, e, hb, hf, _⟩ := h4 i hi (by omega)
  have h3' := h3
  rcases h3.2 with ⟨rfl, h0⟩ | ⟨g, cap, cur, rfl, hbg, _⟩
  · omega
  · refine ⟨g, cap, vs[i]'(by omega), rfl, hbg, h2 _ (List.getElem_mem _), hf.now, fun j hj => ?_⟩
    have := h3'.cells (g := g) rfl (i * z + j) _ (flat_at h2 i (by omega) j hj)
    rwa [Addr.add_lit, Nat.zero_add] at this
/-- what slice it is -/
theorem GRow.slice (h : GRow ty z enc base v L W) : ∃ a c, v = .slice a L.length c := by
  obtain ⟨vs, h1, h2, h3, h4⟩ := h.ex
  rcases h3.2 with ⟨rfl, h0⟩ | ⟨g, cap, cur, rfl, _⟩
  · exact ⟨none, 0, by rw [h0]⟩
  · exact ⟨_, cap, rfl⟩
/-- it hangs on the blocks from its base on -/
theorem GRow.fpt (h : GRow ty z enc base v L W) : Fpt (GRow ty z enc base v L) base W.heap.size W := ⟨Nat.le_refl _, fun W' h' hz => h.keep h' hz⟩
end
end Go.Proofs.YtabgoicholknoaaDoor
