/- package text: readLine, at a line that was printed. -/
import Derived.Test.YtponocolfjkapaaDoorMTextBackUpto30
namespace Go.Proofs.YtponocolfjkapaaDoor
open Go.RowKit Go.Shelf
set_option linter.unusedVariables false
set_option linter.unusedSimpArgs false

/-- may a line be read? -/
structure RdOk (x : PLn) : Prop where
  n : nmS x.n = true
  p : eF (eP2 x.ps) x.ps.length = 0
  v : ctS x.v = false
theorem RdOk.of {x : PLn} (hx : eL x = 0) : RdOk x ∧ isB x.n = false ∧ isN2 x.n = false := by
  unfold eL at hx
  cases h1 : nmS x.n with
  | false => rw [h1, if_pos rfl] at hx; exact absurd hx (by decide)
  | true =>
    rw [if_neg (by rw [h1]; simp)] at hx
    cases h2 : isB x.n with
    | true => rw [h2, if_pos rfl] at hx; exact absurd hx (by decide)
    | false =>
      rw [if_neg (by rw [h2]; simp)] at hx
      cases h3 : isN2 x.n with
      | true => rw [h3, if_pos rfl] at hx; exact absurd hx (by decide)
      | false =>
        rw [if_neg (by rw [h3]; simp)] at hx
        by_cases h4 : eF (eP2 x.ps) x.ps.length = 0
        · rw [if_pos h4] at hx
          cases h5 : ctS x.v with
          | true => rw [h5, if_pos rfl] at hx; exact absurd hx (by decide)
          | false => exact ⟨⟨h1, h4, h5⟩, rfl, rfl⟩
        · rw [if_neg h4] at hx; exact absurd hx h4
/-- what a param's cells are, and what hangs on them -/
def encPm (x : PPm) (cs : List Value) (W : World) : Prop := ∃ A c, cs = [.string x.n, .slice A x.vs.length c] ∧ SL A x.vs W
/-- a row of params of one's own tells them -/
theorem ps_of {base : Nat} {v : Value} {L : List PPm} {W : World} (h : GRow 58 2 encPm base v L W) : ∃ A c, v = .slice A L.length c ∧ PS A L W := by
  obtain ⟨A, c, rfl⟩ := h.slice
  refine ⟨A, c, rfl, fun k hk => ?_⟩
  obtain ⟨g, c', cs, e, _, hz, ⟨Av, cv, rfl, hs⟩, hcell⟩ := h.at k hk
  simp only [Value.slice.injEq] at e
  obtain ⟨rfl, _, _⟩ := e
  have c0 := hcell 0 (by simp)
  have c1 := hcell 1 (by simp)
  refine ⟨_, Av, cv, rfl, ?_, ?_, hs⟩
  · rw [Addr.add_lit, Nat.zero_add]; exact c0
  · rw [Addr.add_lit, Nat.zero_add]; exact c1
/-- what stands ahead of a line's value -/
theorem psT_next (l : List PPm) (z : List UInt8) : ∃ (m : UInt8) (r : List UInt8), psT l ++ 58 :: z = m :: r ∧ ((l = [] ∧ m = 58 ∧ r = z) ∨ ∃ x l', l = x :: l' ∧ m = 59 ∧ r = Tl.tx x.n ++ vT 0 x.vs ++ (psT l' ++ 58 :: z)) := by
  cases l with
  | nil => exact ⟨58, z, rfl, .inl ⟨rfl, rfl, rfl⟩⟩
  | cons x l' => exact ⟨59, Tl.tx x.n ++ vT 0 x.vs ++ (psT l' ++ 58 :: z), by simp [psT, pT], .inr ⟨x, l', rfl, rfl, by simp⟩⟩
def mkL : ByteArray := ⟨#[59, 58]⟩
theorem mkL_asc : Asc mkL := by intro b hb; have : b = 59 ∨ b = 58 := by simpa [mkL, Tl.tx] using hb
                                rcases this with rfl | rfl <;> decide
theorem mkL_name {s : ByteArray} (h : nmS s = true) : ∀ x ∈ Tl.tx s, isM mkL x = false := fun x hx => by
  have := mkP_name h x hx
  unfold isM at *
  rw [List.contains_eq_any_beq, List.any_eq_false] at *
  intro y hy e
  exact this y (by
    have hy2 : y = 59 ∨ y = 58 := by simpa [mkL, Tl.tx] using hy
    rcases hy2 with rfl | rfl <;> decide) e
/-- what readLine's walk keeps -/
structure RL (w : World) (B P : Nat) (n : ByteArray) (v : Value) (L : List PPm) (W : World) : Prop where
  r : W.heap[w.heap.size]? = some (.cells #[.string ⟨#[]⟩, .slice none 0 0, .string ⟨#[]⟩] 56 (0, 0))
  p : W.heap[P]? = some (.cells #[.string n, v, .string ⟨#[]⟩] 56 (0, 0))
  g : GRow 58 2 encPm (P + 1) v L W
  e : Below w.heap.size w W
  l2 : B = w.heap.size + 1
  l3 : B < P
theorem RL.cells {w : World} {B P : Nat} {n : ByteArray} {v : Value} {L : List PPm} {W : World} (h : RL w B P n v L W) :
    W.cell? ⟨P, 0, none⟩ = some (.string n) ∧ W.cell? ⟨P, 1, none⟩ = some v ∧ W.cell? ⟨P, 2, none⟩ = some (.string ⟨#[]⟩) :=
  ⟨cell_of_row _ _ _ _ _ (0, 0) h.p, cell_of_row _ _ _ _ _ (0, 0) h.p, cell_of_row _ _ _ _ _ (0, 0) h.p⟩
theorem RL.plt {w : World} {B P : Nat} {n : ByteArray} {v : Value} {L : List PPm} {W : World} (h : RL w B P n v L W) : P < W.heap.size := (Array.getElem?_eq_some_iff.1 h.p).1
theorem GRow.kb {α : Type} {ty : TypeId} {z : Nat} {enc : α → List Value → World → Prop} {base : Nat} {v : Value} {L : List α} {W W' : World} {B : Nat} (h : GRow ty z enc base v L W) (hk : KB B W W') (hb : B < base) : GRow ty z enc base v L W' :=
  h.keep (fun b h1 h2 => hk.block b h2 (by omega)) hk.size
theorem RL.kb {w : World} {B P : Nat} {n : ByteArray} {v : Value} {L : List PPm} {W W' : World} (h : RL w B P n v L W) (hk : KB B W W') : RL w B P n v L W' := by
  have := h.plt
  have := h.l2
  have := h.l3
  exact ⟨(hk.block _ (by omega) (by omega)).trans h.r, (hk.block P (by omega) (by omega)).trans h.p, h.g.kb hk (by omega),
    ⟨hk.os.trans h.e.os, hk.tape.trans h.e.tape, hk.output.trans h.e.output, Nat.le_trans h.e.size hk.size, fun k hk' => (hk.block k (by omega) (by omega)).trans (h.e.block k hk')⟩, h.l2, h.l3⟩
theorem RL.later {w : World} {B P : Nat} {n : ByteArray} {v : Value} {L : List PPm} {W W' : World} (h : RL w B P n v L W) (hb : Below W.heap.size W W') : RL w B P n v L W' := h.kb (.of_below hb)
theorem RL.store {w : World} {B P : Nat} {n : ByteArray} {v v' : Value} {L L' : List PPm} {W W' : World} (h : RL w B P n v L W) (hs : GRow 58 2 encPm (P + 1) v' L' W') (hb : Below (P + 1) W W') : RL w B P n v' L' (W'.setCell ⟨P, 1, none⟩ v') := by
  have h0 := h.plt
  have h2 := h.l2
  have h3 := h.l3
  have hp : W'.heap[P]? = some (.cells #[.string n, v, .string ⟨#[]⟩] 56 (0, 0)) := (hb.block P (by omega)).trans h.p
  have hset : ∀ k, k ≠ P → (W'.setCell ⟨P, 1, none⟩ v').heap[k]? = W'.heap[k]? := fun k hk => Below.heap_setCell _ _ _ k (fun e => hk e)
  have hz : W'.heap.size ≤ (W'.setCell ⟨P, 1, none⟩ v').heap.size := (KeepsWalks.setCell _ _ _).size
  refine ⟨(hset _ (by omega)).trans ((hb.block _ (by omega)).trans h.r), ?_, hs.keep (fun b h1 h2 => hset b (by omega)) hz, ?_, h2, h3⟩
  · rw [setCell_eq_setRow W' P 1 _ _ _ _ hp]
    exact setRow_heap W' P _ _ _ _ hp
  · exact ⟨hb.os.trans h.e.os, hb.tape.trans h.e.tape, hb.output.trans h.e.output, Nat.le_trans h.e.size (Nat.le_trans hb.size hz), fun k hk => (hset k (by omega)).trans ((hb.block k (by omega)).trans (h.e.block k hk))⟩
theorem infoPm : (Tryd.prog.info? 58).map (fun i => (i.zero, i.size, i.bytes)) = some (some (.agg #[.string ⟨#[]⟩, .slice none 0 0]), 2, 40) := by kernel_rfl
/-- append(row, element) -/
theorem wpList_append_grow {α : Type} {ty sl : TypeId} {z bytes : Nat} {zv : Value} {enc : α → List Value → World → Prop} (hinfo : (Tryd.prog.info? ty).map (fun i => (i.zero, i.size, i.bytes)) = some (some zv, z, bytes)) (hu : Tryd.prog.underlying sl = some (.slice ty)) (hzc : zv.cells.size = z) (hz : 0 < z) (hby : bytes ≤ 1000)
    {ops : Array Oper} {rest : List Oper} {o : Oper} {a : Act} {w : World} {Q : Exit → Act → World → Prop} (hgd : o.guard = none) (s x : Operand)
    (ho : o.op = .call { callee := .builtin .append, args := #[s, x], argTypes := #[sl, sl] })
    (base : Nat) (v : Value) (l : List α) (hs : a.eval s = v) (hown : GRow ty z enc base v l w) (y : α) (cs : List Value) (hcs : cs.length = z) (hone : ∀ u ∈ cs, u.oneCell' = true) (st en : Nat) (hst : base ≤ st) (hf : Fpt (enc y cs) st en w) (hne : ∀ g, v.ownBlock = some g → ¬ (st ≤ g ∧ g < en))
    (ad : Addr) (c : Nat) (hx : a.eval x = .slice (some ad) 1 c) (hnews : ∀ j u, cs[j]? = some u → w.cell? (ad.add j) = some u)
    (hlen : l.length ≤ 1000000000) (hbase : base ≤ w.heap.size)
    (h : ∀ v' w', GRow ty z enc base v' (l ++ [y]) w' → w.grownBy w' v.ownBlock → Below base w w' → wpList Tryd.prog ops Q rest (a.put o.dst v') w') : wpList Tryd.prog ops Q (o :: rest) a w := by
  obtain ⟨i0, hi, hz0, hz1, hz2⟩ := info_of' hinfo
  obtain ⟨vs, h1, h2, h3, h4⟩ := hown.ex
  have hbig : (l.length + 1) * bytes ≤ 140737488355328 := Nat.le_trans (Nat.mul_le_mul (show l.length + 1 ≤ 1000000001 by omega) hby) (by decide)
  refine wpList_append_own2 w hgd s x sl ho base ty i0 zv z bytes hu hi hz0 hz1 hz2 hzc hz v l.length vs.flatten hs h3 ad 1 c cs hx (by omega) hnews hone (by unfold maxLen; omega) hbig hbase ?_
  intro v' w' g1 g2 g3
  have hb : Below base w w' := (Below.refl _ w).grown g2 hbase fun j hj => (h3.lt j hj).1
  refine h v' w' ?_ g2 hb
  have hvs : ∀ vs' : List (List Value), w.ownsRow base ty z v l.length vs'.flatten → vs'.flatten = vs.flatten := fun vs' h' => by
    rcases h3.2 with ⟨rfl, e⟩ | ⟨g, cap, cur, rfl, _, hg, _, _, _, ht⟩
    · rw [List.eq_nil_of_length_eq_zero (show vs'.flatten.length = 0 by rw [h'.1, e, Nat.zero_mul]), List.eq_nil_of_length_eq_zero (show vs.flatten.length = 0 by rw [h3.1, e, Nat.zero_mul])]
    · rcases h'.2 with ⟨e, _⟩ | ⟨g', cap', cur', e, _, hg', _, _, _, ht'⟩
      · cases e
      · cases e
        rw [hg] at hg'
        cases hg'
        rw [← ht, ← ht']
  exact hown.push (fun vs' h' => by rw [hvs vs' h']; exact g1) hcs g2 g3 hst hf hne
/-- a struct of three cells, stored -/
theorem set3 {W : World} {R : Nat} {a b c : Value} {t : TypeId} (h : W.heap[R]? = some (.cells #[a, b, c] t (0, 0))) (x y z : Value) :
    (((W.setCell ⟨R, 0, none⟩ x).setCell ⟨R, 1, none⟩ y).setCell ⟨R, 2, none⟩ z).heap[R]? = some (.cells #[x, y, z] t (0, 0)) ∧
    (∀ k, k ≠ R → (((W.setCell ⟨R, 0, none⟩ x).setCell ⟨R, 1, none⟩ y).setCell ⟨R, 2, none⟩ z).heap[k]? = W.heap[k]?) ∧
    W.heap.size ≤ (((W.setCell ⟨R, 0, none⟩ x).setCell ⟨R, 1, none⟩ y).setCell ⟨R, 2, none⟩ z).heap.size := by
  have h1 : (W.setCell ⟨R, 0, none⟩ x).heap[R]? = some (.cells #[x, b, c] t (0, 0)) := by
    rw [setCell_eq_setRow W R 0 _ _ _ _ h]; exact setRow_heap W R _ _ _ _ h
  have h2 : ((W.setCell ⟨R, 0, none⟩ x).setCell ⟨R, 1, none⟩ y).heap[R]? = some (.cells #[x, y, c] t (0, 0)) := by
    rw [setCell_eq_setRow _ R 1 _ _ _ _ h1]; exact setRow_heap _ R _ _ _ _ h1
  refine ⟨?_, fun k hk => (Below.heap_setCell _ _ _ k (fun e => hk e)).trans ((Below.heap_setCell _ _ _ k (fun e => hk e)).trans (Below.heap_setCell _ _ _ k (fun e => hk e))), Nat.le_trans (KeepsWalks.setCell _ _ _).size (Nat.le_trans (KeepsWalks.setCell _ _ _).size (KeepsWalks.setCell _ _ _).size)⟩
  rw [setCell_eq_setRow _ R 2 _ _ _ _ h2]; exact setRow_heap _ R _ _ _ _ h2
/-- what hangs on a row of params of one's own -/
theorem ps_fpt {base : Nat} {A : Option Addr} {c : Nat} {L : List PPm} {W : World} (h : GRow 58 2 encPm base (.slice A L.length c) L W) : Fpt (PS A L) base W.heap.size W :=
  h.fpt.imp fun W' h' => by
    obtain ⟨A', c', e, hp⟩ := ps_of h'
    cases e
    exact hp
set_option maxRecDepth 100000 in
set_option maxHeartbeats 8000000 in
theorem readLine_any (x : PLn) (hx : RdOk x) (ho : LnOk x) (hs : (lT x).length ≤ 100000000) (w : World) :
    Calls Tryd.prog 58 #[.string (Tl.str (lT x))] w fun e w' => ∃ A k, e = .returned (.tuple #[.agg #[.string x.n, .slice A x.ps.length k, .string x.v], .nilIface]) ∧ Fpt (PS A x.ps) w.heap.size w'.heap.size w' ∧ Below w.heap.size w w' := by
  obtain ⟨hn, hps, hcv⟩ := hx
  have hpe : ∀ k (h : k < x.ps.length), eP x.ps[k] = 0 := fun k hk => by
    have := eF_all hps k hk
    unfold eP2 at this
    rw [List.getElem?_eq_getElem hk] at this
    exact this
  obtain ⟨m0, r0, hm0, hmr0⟩ := psT_next x.ps (Tl.tx x.v)
  have hl : lT x = Tl.tx x.n ++ m0 :: r0 := by
    unfold lT
    rw [List.append_assoc, hm0]
  have hmM : isM mkL m0 = true := by
    rcases hmr0 with ⟨_, rfl, _⟩ | ⟨_, _, _, rfl, _⟩ <;> decide
  have KU := hide (fun W mk B (h : RdB W B (Tl.str (lT x)) mk) => upTo_any mkL mkL_asc (.inr (.inl rfl)) (Tl.tx x.n) r0 m0 _ (by rw [Tl.tx_str, hl]) hmM (mkL_name hn) mk B W h (by rw [Tl.str_size]; omega))
  rw [Tl.str_tx] at KU
  have KN := hide (fun W => readName_any x.n hn W)
  have KH := hide (fun W => hasControl_any x.v W ho.v)
  rw [hcv] at KH
  have hr0 : r0.length ≤ 100000000 := by
    have := congrArg List.length hl
    rw [List.length_append, List.length_cons] at this
    omega
  have hb0 : Below w.heap.size w (w.alloc (.cells #[.string ⟨#[]⟩, .slice none 0 0, .string ⟨#[]⟩] 56)) := (Below.refl _ w).alloc (Nat.le_refl _) _
  have hq0 : (w.alloc (.cells #[.string ⟨#[]⟩, .slice none 0 0, .string ⟨#[]⟩] 56)).heap[w.heap.size]? = some (.cells #[.string ⟨#[]⟩, .slice none 0 0, .string ⟨#[]⟩] 56 (0, 0)) := World.alloc_heap_new w _
  have hz0 : (w.alloc (.cells #[.string ⟨#[]⟩, .slice none 0 0, .string ⟨#[]⟩] 56)).heap.size = w.heap.size + 1 := World.size_alloc _ _
  generalize Tl.str (lT x) = Z at *
  go_enter Tryd.func58, Tryd.ntmps58
  go_upto_region 1 with fail
  generalize w.alloc (.cells #[.string ⟨#[]⟩, .slice none 0 0, .string ⟨#[]⟩] 56) = W0 at *
  have hb1 : Below W0.heap.size W0 (W0.alloc (.cells #[.string Z, .int .u8 0] 126)) := (Below.refl _ W0).alloc (Nat.le_refl _) _
  have hR1 : RdB (W0.alloc (.cells #[.string Z, .int .u8 0] 126)) W0.heap.size Z 0 := World.alloc_heap_new W0 _
  have hq1 := (hb1.block w.heap.size (by omega)).trans hq0
  have hbb := hb0.trans (hb1.mono (by omega))
  have H1 := hide (And.intro hR1 (And.intro hq1 hbb))
  clear hb0 hq0 hb1 hR1 hq1 hbb
  go_wp2_with fail
  rw [hz0] at H1
  generalize W0.alloc (.cells #[.string Z, .int .u8 0] 126) = W1 at *
  clear hz0
  refine (KU.out _ _ _ H1.out.1).mono ?_
  rintro e W2 ⟨rfl, hR2, hK2⟩
  have hq2 := (hK2.block w.heap.size (Array.getElem?_eq_some_iff.1 H1.out.2.1).1 (by omega)).trans H1.out.2.1
  have hb2 : Below w.heap.size w W2 := ⟨hK2.os.trans H1.out.2.2.os, hK2.tape.trans H1.out.2.2.tape, hK2.output.trans H1.out.2.2.output, Nat.le_trans H1.out.2.2.size hK2.size, fun k hk => (hK2.block k (by have := H1.out.2.2.size; omega) (by omega)).trans (H1.out.2.2.block k hk)⟩
  have H2 := hide (And.intro hR2 (And.intro hq2 hb2))
  clear hR2 hK2 hq2 hb2 H1
  go_wp2_with fail
  refine (KN.out _).mono ?_
  rintro e W3 ⟨rfl, b3⟩
  obtain ⟨hR2, hq2, hb2⟩ := H2.out
  have hR3 := hR2.later b3
  have hq3 := (b3.block w.heap.size (Array.getElem?_eq_some_iff.1 hq2).1).trans hq2
  have hb3 := hb2.trans (b3.mono hb2.size)
  have hz3 : w.heap.size + 1 < W3.heap.size := hR3.lt
  have hb4 : Below W3.heap.size W3 (W3.alloc (.cells #[.string x.n, .slice none 0 0, .string ⟨#[]⟩] 56)) := (Below.refl _ W3).alloc (Nat.le_refl _) _
  have hL : RL w (w.heap.size + 1) W3.heap.size x.n (.slice none 0 0) [] (W3.alloc (.cells #[.string x.n, .slice none 0 0, .string ⟨#[]⟩] 56)) :=
    ⟨(hb4.block _ (by omega)).trans hq3, World.alloc_heap_new W3 _, .nil, hb3.trans (hb4.mono hb3.size), rfl, hz3⟩
  have hR4 := hR3.later hb4
  have HL := hide (And.intro hL hR4)
  clear hR2 hq2 hb2 hR3 hq3 hb3 hb4 hL hR4 b3 H2 hz3
  have hlen := ho.l
  have HPE := hide hpe
  have HPO := hide ho.p
  have HM0 := hide hm0
  clear hn hps hcv hpe hmr0 hl hmM KU KN ho hm0
  go_wp2_with fail
  generalize hWW : W3.alloc (.cells #[.string x.n, .slice none 0 0, .string ⟨#[]⟩] 56) = W4 at *
  generalize hPP : W3.heap.size = P at *
  generalize hBB : w.heap.size + 1 = B at *
  clear hWW hPP
  go_loopw [33] (fun _ wr => ∃ (k : Nat) (v : Value) (m : UInt8) (r : List UInt8), k ≤ x.ps.length ∧ RL w B P x.n v (x.ps.take k) wr ∧ psT (x.ps.drop k) ++ 58 :: Tl.tx x.v = m :: r ∧ r.length ≤ 100000000 ∧ RdB wr B (Tl.str r) m.toNat) (fun _ wr => restOf wr B)
  case atStart => exact ⟨0, .slice none 0 0, m0, r0, by omega, by rw [List.take_zero]; exact HL.out.1, HM0.out, hr0, HL.out.2⟩
  case round =>
    clear HL
    obtain ⟨k, v, m, r, hk, hL, hmr, hrl, hR⟩ := hrel
    obtain ⟨m', r', he, hcase⟩ := psT_next (x.ps.drop k) (Tl.tx x.v)
    obtain ⟨rfl, rfl⟩ : m = m' ∧ r = r' := by
      have := hmr.symm.trans he
      exact ⟨(List.cons.inj this).1, (List.cons.inj this).2⟩
    obtain ⟨d0, d1⟩ := hR.cells
    rcases hcase with ⟨hnil, rfl, rfl⟩ | ⟨y, l', hcons, rfl, rfl⟩
    · obtain rfl : k = x.ps.length := by
        have := congrArg List.length hnil
        rw [List.length_drop] at this
        simp only [List.length_nil] at this
        omega
      have h58 : (((58 : UInt8).toNat : Int) == 59) = false := rfl
      rw [List.take_length] at hL
      rw [Tl.str_tx] at hR d0
      obtain ⟨p0, p1, p2⟩ := hL.cells
      have fP := frozen_of hL.p 2
      have fR := frozen_of hL.r
      have s0 : wr.cell? ⟨w.heap.size, 0, none⟩ = some (.string ⟨#[]⟩) := cell_of_row _ _ _ _ _ (0, 0) hL.r
      have s1 : wr.cell? ⟨w.heap.size, 1, none⟩ = some (.slice none 0 0) := cell_of_row _ _ _ _ _ (0, 0) hL.r
      have s2 : wr.cell? ⟨w.heap.size, 2, none⟩ = some (.string ⟨#[]⟩) := cell_of_row _ _ _ _ _ (0, 0) hL.r
      have hRP : w.heap.size < P := by have := hL.l2; have := hL.l3; omega
      obtain ⟨A, cA, rfl, _⟩ := ps_of hL.g
      have HL := hide hL
      have HR := hide hR
      clear hL hR hmr he hnil HPE HPO
      go_wp2_with fail
      refine (KH.out _).mono ?_
      rintro e W5 ⟨rfl, rfl⟩
      go_wp2_with fail
      have hL := HL.out
      have hRP2 : P ≠ w.heap.size := by omega
      have hpl := hL.plt
      have hl2 := hL.l2
      have hl3 := hL.l3
      have hr1 : (W5.setCell ⟨P, 2, none⟩ (.string x.v)).heap[w.heap.size]? = some (.cells #[.string ⟨#[]⟩, .slice none 0 0, .string ⟨#[]⟩] 56 (0, 0)) := (Below.heap_setCell _ _ _ _ (fun e => hRP2 e.symm)).trans hL.r
      obtain ⟨g1, g2, g3⟩ := set3 hr1 (.string x.n) (.slice A x.ps.length cA) (.string x.v)
      have hz : W5.heap.size ≤ (W5.setCell ⟨P, 2, none⟩ (.string x.v)).heap.size := (KeepsWalks.setCell _ _ _).size
      have g4 := fun k (hk : k ≠ w.heap.size) (hk2 : k ≠ P) => (g2 k hk).trans (Below.heap_setCell _ _ _ k (fun e => hk2 e))
      have o1 : ((((W5.setCell ⟨P, 2, none⟩ (.string x.v)).setCell ⟨w.heap.size, 0, none⟩ (.string x.n)).setCell ⟨w.heap.size, 1, none⟩ (.slice A x.ps.length cA)).setCell ⟨w.heap.size, 2, none⟩ (.string x.v)).os = W5.os := rfl
      have o2 : ((((W5.setCell ⟨P, 2, none⟩ (.string x.v)).setCell ⟨w.heap.size, 0, none⟩ (.string x.n)).setCell ⟨w.heap.size, 1, none⟩ (.slice A x.ps.length cA)).setCell ⟨w.heap.size, 2, none⟩ (.string x.v)).tape = W5.tape := rfl
      have o3 : ((((W5.setCell ⟨P, 2, none⟩ (.string x.v)).setCell ⟨w.heap.size, 0, none⟩ (.string x.n)).setCell ⟨w.heap.size, 1, none⟩ (.slice A x.ps.length cA)).setCell ⟨w.heap.size, 2, none⟩ (.string x.v)).output = W5.output := rfl
      generalize (((W5.setCell ⟨P, 2, none⟩ (.string x.v)).setCell ⟨w.heap.size, 0, none⟩ (.string x.n)).setCell ⟨w.heap.size, 1, none⟩ (.slice A x.ps.length cA)).setCell ⟨w.heap.size, 2, none⟩ (.string x.v) = W6 at *
      have hz6 := Nat.le_trans hz g3
      have hF : Fpt (PS A x.ps) w.heap.size W6.heap.size W6 := ((ps_fpt hL.g).later (fun b h1 h2 => g4 b (by omega) (by omega)) hz6).widen (by omega) hz6 (Nat.le_refl _)
      have hB6 : Below w.heap.size w W6 := ⟨o1.trans hL.e.os, o2.trans hL.e.tape, o3.trans hL.e.output, Nat.le_trans hL.e.size hz6, fun k hk => (g4 k (by omega) (by omega)).trans (hL.e.block k hk)⟩
      refine bodyPost_ret (v := .tuple #[.agg #[.string x.n, .slice A x.ps.length cA, .string x.v], .nilIface]) ?_ rfl ⟨A, cA, rfl, hF, hB6⟩
      rw [results_cell_tmp rfl]
      show ((asAddr (.pointer (some ⟨w.heap.size, 0, none⟩))).run _ _).andThen _ = _
      simp only [asAddr, Sem.run_pure, Result.andThen_ok, run_loadVar_row _ w.heap.size _ 56 _ _ _ g1 Tryd.underlying56 rfl (by kernel_rfl)]
      rfl
    · have hlt : k < x.ps.length := by
        have := congrArg List.length hcons
        rw [List.length_drop, List.length_cons] at this
        omega
      rw [List.drop_eq_getElem_cons hlt] at hcons
      obtain ⟨rfl, rfl⟩ : x.ps[k] = y ∧ x.ps.drop (k + 1) = l' := ⟨(List.cons.inj hcons).1, (List.cons.inj hcons).2⟩
      have h59 : (((59 : UInt8).toNat : Int) == 59) = true := rfl
      obtain ⟨m2, r2, hm2, hcase2⟩ := psT_next (x.ps.drop (k + 1)) (Tl.tx x.v)
      rw [hm2] at hR hrl
      have hmE : isE m2 = true ∧ m2 ≠ 44 := by
        rcases hcase2 with ⟨_, rfl, _⟩ | ⟨_, _, _, rfl, _⟩ <;> decide
      have hst : x.ps.take (k + 1) = x.ps.take k ++ [x.ps[k]] := by rw [List.take_add_one, List.getElem?_eq_getElem hlt]; rfl
      have KP := hide (fun W mk (h : RdB W B (Tl.str (Tl.tx x.ps[k].n ++ vT 0 x.ps[k].vs ++ m2 :: r2)) mk) => param_any x.ps[k] (HPE.out k hlt) (HPO.out k hlt) m2 hmE.1 hmE.2 r2 _ (Tl.tx_str _) mk B W h (by rw [Tl.str_size]; exact hrl))
      have hrest := restOf_eq hR
      have hr2 : r2.length < (Tl.tx x.ps[k].n ++ vT 0 x.ps[k].vs ++ m2 :: r2).length := by rw [List.length_append (bs := m2 :: r2), List.length_cons]; omega
      have HR := hide hR
      have HL2 := hide hL
      have HE := hide (And.intro hm2 (And.intro hrl hr2))
      have hlk : (x.ps.take k).length ≤ 1000000000 := by rw [List.length_take]; omega
      have hyv : x.ps[k].vs.length ≤ 1000000000 := (HPO.out k hlt).l
      clear hR hL hcons hrl he hmr hm2 hr2
      go_wp2_with fail
      refine (KP.out _ _ HR.out).mono ?_
      rintro e w1 ⟨A, kA, rfl, hF, hR1, hK1⟩
      have hL1 := HL2.out.kb hK1
      have hzw := hK1.size
      have hgl := HL2.out.g.lt
      obtain ⟨a0, l0, c0, rfl⟩ := HL2.out.g.form
      generalize x.ps[k] = y at *
      have hb2 : Below w1.heap.size w1 (w1.alloc (.cells #[.string y.n, .slice A y.vs.length kA] 58)) := (Below.refl _ w1).alloc (Nat.le_refl _) _
      have hb3 : Below (w1.alloc (.cells #[.string y.n, .slice A y.vs.length kA] 58)).heap.size (w1.alloc (.cells #[.string y.n, .slice A y.vs.length kA] 58)) ((w1.alloc (.cells #[.string y.n, .slice A y.vs.length kA] 58)).alloc (.cells #[.string y.n, .slice A y.vs.length kA] 58)) := (Below.refl _ _).alloc (Nat.le_refl _) _
      have hb4 := hb2.trans (hb3.mono hb2.size)
      obtain ⟨p0, p1, p2⟩ := (hL1.later hb2).cells
      have hL3 := hL1.later hb4
      have hR3 := hR1.later hb4
      have hF3 : Fpt (encPm y [.string y.n, .slice A y.vs.length kA]) wr.heap.size w1.heap.size _ := (hF.later (.below hb4 (Nat.le_refl _)) hb4.size).imp fun W' hW => ⟨A, kA, rfl, hW⟩
      have hne3 : ∀ g, (Value.slice a0 l0 c0).ownBlock = some g → ¬ (wr.heap.size ≤ g ∧ g < w1.heap.size) := fun g hg hh => by have := (hgl g hg).2; omega
      have hst3 : P + 1 ≤ wr.heap.size := HL2.out.plt
      have hpl3 := hL3.plt
      have hl3 := hL3.l3
      have hnw : ∀ j u, ([.string y.n, .slice A y.vs.length kA] : List Value)[j]? = some u → ((w1.alloc (.cells #[.string y.n, .slice A y.vs.length kA] 58)).alloc (.cells #[.string y.n, .slice A y.vs.length kA] 58)).cell? ((⟨w1.heap.size + 1, 0, none⟩ : Addr).add j) = some u := fun j u hj => by
        match j, hj with
        | 0, hj => simp at hj; subst hj; simp [Addr.add]
        | 1, hj => simp at hj; subst hj; simp [Addr.add]
      have HH := hide (And.intro hL3 (And.intro hR3 (And.intro hF3 (And.intro hne3 (And.intro hst3 (And.intro hnw hpl3))))))
      clear hL3 hR3 hF3 hne3 hst3 hpl3 hb2 hb3 hb4 hL1 hR1 hF hK1 HR KP hgl hnw hzw
      go_wp2_with (at_builtin; obtain ⟨hL3, hR3, hF3, hne3, hst3, hnw, hpl3⟩ := HH.out; refine wpList_append_grow infoPm Tryd.underlying54 rfl (by decide) (by decide) rfl (.tmp 45) (.tmp 47) rfl (P + 1) (.slice a0 l0 c0) (x.ps.take k) (by rfl) hL3.g y [.string y.n, .slice A y.vs.length kA] rfl (by intro u hu; simp only [List.mem_cons, List.not_mem_nil, or_false] at hu; rcases hu with rfl | rfl <;> rfl) wr.heap.size w1.heap.size hst3 hF3 hne3 ⟨w1.heap.size + 1, 0, none⟩ 1 (by rfl) hnw hlk hpl3 ?_; intro v' w4 q1 q2 q3
                   have hL4 := hL3.store q1 q3
                   have hR4 : RdB w4 B (Tl.str r2) m2.toNat := (q3.block B (by omega)).trans hR3
                   have g1 : w4.cell? ⟨P, 1, none⟩ = some _ := (q3.cell (p := ⟨P, 1, none⟩) (by show P < P + 1; omega)).trans hL3.cells.2.1
                   have g2 : w4.frozen? ⟨P, 1, none⟩ = false := frozen_of ((q3.block P (by omega)).trans hL3.p) 1
                   obtain ⟨a1, l1, c1, rfl⟩ := q1.form
                   clear q1 q2 q3 hL3 hR3 hF3 hne3 hst3 hnw hpl3)
      have hR5 : RdB (w4.setCell ⟨P, 1, none⟩ (.slice a1 l1 c1)) B (Tl.str r2) m2.toNat := (Below.heap_setCell _ _ _ B (fun e => by have e' : B = P := e; omega)).trans hR4
      have hrest2 := restOf_eq hR5
      have HL5 := hide hL4
      have HR5 := hide hR5
      clear hL4 hR5 hR4 g1 g2 HH p0 p1 p2
      go_roundw
      case rel => exact ⟨k + 1, _, m2, r2, by omega, by rw [hst]; exact HL5.out, HE.out.1, by have := HE.out.2; omega, HR5.out⟩
      case measure => rw [hrest2, hrest, Tl.str_size, Tl.str_size]; exact HE.out.2.2
end Go.Proofs.YtponocolfjkapaaDoor
