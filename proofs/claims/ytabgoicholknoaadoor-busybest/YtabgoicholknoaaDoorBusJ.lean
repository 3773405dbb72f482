/- BusyBest: people's times are taken, one by one. (Written by gen/busj.py.) -/
import Derived.Test.YtabgoicholknoaaDoorBusI
import Derived.Test.YtabgoicholknoaaDoorBkG
import Derived.Test.YtabgoicholknoaaDoorBusK
namespace Go.Proofs.YtabgoicholknoaaDoor
open Go.RowKit Go.Shelf Go.Maps
set_option linter.unusedVariables false
set_option linter.unusedSimpArgs false

theorem wp_run_app {P : Program} {o : Oper} {a : Act} {w w' : World} {K : Act → World → Prop} {Q : Exit → Act → World → Prop} (s x : Operand) (t u : TypeId) (ho : o.op = .call { callee := .builtin .append, args := #[s, x], argTypes := #[t, u] })
    {v y v' : Value} (hs : a.eval s = v) (hx : a.eval x = y) (hr : (Builtin.append_ #[t, u] o.type #[v, y]).run P w = .ok v' w') (h : K (a.put o.dst v') w') : o.wp P a w K Q := by
  unfold Oper.wp execOp
  simp only [ho, resolve, invoke, builtin, Sem.run_bind, Sem.run_pure, Result.andThen_ok, List.map_toArray, List.map_cons, List.map_nil, hs, hx, hr]
  exact h
/-- a set as an element of a row -/
def encB (x : List (Int × Int)) (cs : List Value) (W : World) : Prop := ∃ a l c, cs = [.slice a l c] ∧ SetAt W (.slice a l c) x
theorem times_info : (Tryd.prog.info? 32).map (fun i => (i.zero, i.size, i.bytes)) = some (some (.agg #[.slice none 0 0]), 1, 24) := by kernel_rfl
theorem set_fpt {W : World} {a : Option Addr} {l c : Nat} {L : List (Int × Int)} {s : Nat} (h : SetAt W (.slice a l c) L) (hs : ∀ g o, a = some ⟨g, o, none⟩ → s ≤ g) : Fpt (encB L [.slice a l c]) s W.heap.size W := by
  refine ⟨Nat.le_refl _, fun W' hag hz => ⟨a, l, c, rfl, ?_⟩⟩
  rcases h with h | ⟨g, k, e, hk, hg, hA⟩
  · exact .inl h
  · simp only [Value.slice.injEq] at e
    obtain ⟨ea, el, ec⟩ := e
    have hgs := hs g 0 ea
    refine .inr ⟨g, k, by rw [ea, el, ec], hk, by omega, fun j hj => ?_⟩
    have hh := hag g hgs hg
    have := hA j hj
    simp only [World.cell?, hh] at this ⊢
    exact this
/-- append(people, times) -/
theorem run_push {w : World} {base : Nat} {v : Value} {Ps : List (List (Int × Int))} {L : List (Int × Int)} {sa : Option Addr} {sl sc : Nat} (ty : TypeId) (hG : GRow 32 1 encB base v Ps w) (g c : Nat) (hc : w.cell? ⟨g, 0, none⟩ = some (.slice sa sl sc)) {s e : Nat} (hs : base ≤ s) (hf : Fpt (encB L [.slice sa sl sc]) s e w) (hne : ∀ g', v.ownBlock = some g' → ¬ (s ≤ g' ∧ g' < e)) (hlen : Ps.length ≤ 1000) (hbase : base ≤ w.heap.size) :
    ∃ v' w', (Builtin.append_ #[27, 27] ty #[v, .slice (some ⟨g, 0, none⟩) 1 c]).run Tryd.prog w = .ok v' w' ∧ GRow 32 1 encB base v' (Ps ++ [L]) w' ∧ Below base w w' := by
  obtain ⟨i0, hi, hz0, hz1, hz2⟩ := info_parts times_info
  obtain ⟨vs, h1, h2, h3, h4⟩ := hG.ex
  obtain ⟨v', w', hr, g1, g2, g3⟩ := run_append_own2 (P := Tryd.prog) w base 27 ty 32 i0 (.agg #[.slice none 0 0]) 1 24 Tryd.underlying27 hi hz0 hz1 hz2 rfl (by decide) v Ps.length vs.flatten h3 ⟨g, 0, none⟩ 1 c [.slice sa sl sc] rfl (fun j u hu => by
    match j, hu with
    | 0, hu => simp at hu; subst hu; exact hc
    | j + 1, hu => simp at hu) (fun u hu => by simp at hu; subst hu; rfl) (by unfold maxLen; omega) (by omega) hbase
  have hb : Below base w w' := (Below.refl _ w).grown g2 hbase fun j hj => (h3.lt j hj).1
  refine ⟨v', w', hr, ?_, hb⟩
  have hvs : ∀ vs' : List (List Value), w.ownsRow base 32 1 v Ps.length vs'.flatten → vs'.flatten = vs.flatten := fun vs' h' => by
    rcases h3.2 with ⟨rfl, e⟩ | ⟨g, cap, cur, rfl, _, hg, _, _, _, ht⟩
    · rw [List.eq_nil_of_length_eq_zero (show vs'.flatten.length = 0 by rw [h'.1, e, Nat.zero_mul]), List.eq_nil_of_length_eq_zero (show vs.flatten.length = 0 by rw [h3.1, e, Nat.zero_mul])]
    · rcases h'.2 with ⟨e, _⟩ | ⟨g', cap', cur', e, _, hg', _, _, _, ht'⟩
      · cases e
      · cases e
        rw [hg] at hg'
        cases hg'
        rw [← ht, ← ht']
  exact hG.push (fun vs' h' => by rw [hvs vs' h']; exact g1) rfl g2 g3 hs hf hne
/-- the law's boxes: what is looked for, people; an element of the argument -/
structure SJ (W : Wn) (mv sv : Value) (w : World) (lv : Value) (Ps : List (List (Int × Int))) (g o : Nat) (el : Value) (X : World) : Prop where
  x : X.heap[w.heap.size]? = some (.cells #[.int .i64 W.len, .int .i64 W.step, .int .i64 W.from', .int .i64 W.to', mv, sv, .int .i64 W.seats] 25 (0, 0))
  p : X.heap[w.heap.size + 1]? = some (.cells #[lv] 27 (0, 0))
  e : X.cell? ⟨g, o, none⟩ = some el
  gr : GRow 32 1 encB (w.heap.size + 2) lv Ps X
  b : Below w.heap.size w X
  z : w.heap.size + 2 ≤ X.heap.size
  zg : g < w.heap.size
theorem SJ.later {W : Wn} {mv sv : Value} {w : World} {lv : Value} {Ps : List (List (Int × Int))} {g o : Nat} {el : Value} {X X' : World} (h : SJ W mv sv w lv Ps g o el X) (hb : Below X.heap.size X X') : SJ W mv sv w lv Ps g o el X' := by
  have hz := h.z
  have hg := h.zg
  exact ⟨(hb.block _ (by omega)).trans h.x, (hb.block _ (by omega)).trans h.p, (hb.cell (show g < _ by omega)).trans h.e, h.gr.later hb, h.b.trans (hb.mono h.b.size), Nat.le_trans hz hb.size, hg⟩
theorem SJ.cells {W : Wn} {mv sv : Value} {w : World} {lv : Value} {Ps : List (List (Int × Int))} {g o : Nat} {el : Value} {X : World} (h : SJ W mv sv w lv Ps g o el X) : X.cell? ⟨w.heap.size + 1, 0, none⟩ = some lv ∧ X.cell? ⟨g, o, none⟩ = some el := ⟨cell_of_row _ _ 0 _ _ (0, 0) h.p, h.e⟩
/-- an argument: slices of spans -/
def ZsAt (w : World) (v : Value) (Zs : List (List (Int × Int))) : Prop :=
  ∃ ad c, v = .slice ad Zs.length c ∧ ∀ j, j < Zs.length → ∃ g o a k, ad = some ⟨g, o, none⟩ ∧ w.cell? ⟨g, o + j, none⟩ = some (.slice a (Zs.getD j []).length k) ∧ SpsW w (.slice a (Zs.getD j []).length k) (Zs.getD j [])
/-- what the loop over people keeps -/
structure LJ (W : Wn) (mv sv : Value) (w : World) (m : Nat) (X : World) : Prop where
  ex : ∃ lv Ps, Ps.length = m ∧ (∀ p ∈ Ps, InvL p ∧ p.length ≤ 64) ∧ X.heap[w.heap.size + 1]? = some (.cells #[lv] 27 (0, 0)) ∧ GRow 32 1 encB (w.heap.size + 2) lv Ps X
  x : X.heap[w.heap.size]? = some (.cells #[.int .i64 W.len, .int .i64 W.step, .int .i64 W.from', .int .i64 W.to', mv, sv, .int .i64 W.seats] 25 (0, 0))
  b : Below w.heap.size w X
  z : w.heap.size + 2 ≤ X.heap.size

theorem grow_ps {X : World} {base : Nat} {a : Option Addr} {c : Nat} {Ps : List (List (Int × Int))} (h : GRow 32 1 encB base (.slice a Ps.length c) Ps X) : PsAt X (.slice a Ps.length c) Ps := by
  refine ⟨a, c, rfl, fun j hj => ?_⟩
  obtain ⟨g, c', cs, e, _, hl, ⟨sa, sl, sk, rfl, hs⟩, hc⟩ := h.at j hj
  cases e
  have := hc 0 (by simp)
  rw [Nat.mul_one, Nat.add_zero] at this
  exact ⟨g, sa, sl, sk, rfl, this, by rw [getD_at Ps j [] hj]; exact hs⟩
/-- the boxes behind the loop -/
structure BJ (W : Wn) (mv sv : Value) (w : World) (la : Option Addr) (lc : Nat) (Ps : List (List (Int × Int))) (X : World) : Prop where
  x : X.heap[w.heap.size]? = some (.cells #[.int .i64 W.len, .int .i64 W.step, .int .i64 W.from', .int .i64 W.to', mv, sv, .int .i64 W.seats] 25 (0, 0))
  p : X.heap[w.heap.size + 1]? = some (.cells #[.slice la Ps.length lc] 27 (0, 0))
  ps : PsAt X (.slice la Ps.length lc) Ps
  b : Below w.heap.size w X
  z : w.heap.size + 2 ≤ X.heap.size
theorem BJ.later {W : Wn} {mv sv : Value} {w : World} {la : Option Addr} {lc : Nat} {Ps : List (List (Int × Int))} {X X' : World} (h : BJ W mv sv w la lc Ps X) (hb : Below X.heap.size X X') : BJ W mv sv w la lc Ps X' := by
  have hz := h.z
  exact ⟨(hb.block _ (by omega)).trans h.x, (hb.block _ (by omega)).trans h.p, h.ps.below hb, h.b.trans (hb.mono h.b.size), Nat.le_trans hz hb.size⟩
theorem BJ.cells {W : Wn} {mv sv : Value} {w : World} {la : Option Addr} {lc : Nat} {Ps : List (List (Int × Int))} {X : World} (h : BJ W mv sv w la lc Ps X) :
    X.cell? ⟨w.heap.size, 0, none⟩ = some (.int .i64 W.len) ∧ X.cell? ⟨w.heap.size, 1, none⟩ = some (.int .i64 W.step) ∧ X.cell? ⟨w.heap.size, 2, none⟩ = some (.int .i64 W.from') ∧ X.cell? ⟨w.heap.size, 3, none⟩ = some (.int .i64 W.to') ∧
    X.cell? ⟨w.heap.size, 4, none⟩ = some mv ∧ X.cell? ⟨w.heap.size, 5, none⟩ = some sv ∧ X.cell? ⟨w.heap.size, 6, none⟩ = some (.int .i64 W.seats) ∧ X.cell? ⟨w.heap.size + 1, 0, none⟩ = some (.slice la Ps.length lc) :=
  ⟨cell_of_row _ _ _ _ _ (0, 0) h.x, cell_of_row _ _ _ _ _ (0, 0) h.x, cell_of_row _ _ _ _ _ (0, 0) h.x, cell_of_row _ _ _ _ _ (0, 0) h.x, cell_of_row _ _ _ _ _ (0, 0) h.x, cell_of_row _ _ _ _ _ (0, 0) h.x, cell_of_row _ _ _ _ _ (0, 0) h.x, cell_of_row _ _ _ _ _ (0, 0) h.p⟩
theorem BJ.start {W : Wn} {mv sv : Value} {w : World} {la : Option Addr} {lc : Nat} {Ps : List (List (Int × Int))} {X : World} (hx : X.heap[w.heap.size]? = some (.cells #[.int .i64 W.len, .int .i64 W.step, .int .i64 W.from', .int .i64 W.to', mv, sv, .int .i64 W.seats] 25 (0, 0)))
    (hp : X.heap[w.heap.size + 1]? = some (.cells #[.slice la Ps.length lc] 27 (0, 0))) (hgr : GRow 32 1 encB (w.heap.size + 2) (.slice la Ps.length lc) Ps X) (hb : Below w.heap.size w X) (hz : w.heap.size + 2 ≤ X.heap.size) :
    BJ W.bare mv sv w la lc Ps (X.setCell ⟨w.heap.size, 6, none⟩ (.int .i64 0)) := by
  have he := setCell_eq_setRow X w.heap.size 6 _ _ _ (.int .i64 0) hx
  have hk : ∀ k, k ≠ w.heap.size → (X.setCell ⟨w.heap.size, 6, none⟩ (.int .i64 0)).heap[k]? = X.heap[k]? := fun k hk => Below.heap_setCell _ _ _ k (fun e => hk e)
  have hsz := (KeepsWalks.setCell X ⟨w.heap.size, 6, none⟩ (.int .i64 0)).size
  refine ⟨by rw [he]; exact setRow_heap _ _ _ _ _ _ hx, (hk _ (by omega)).trans hp, grow_ps (hgr.keep (fun b h1 h2 => hk b (by omega)) hsz), hb.setCell (p := ⟨w.heap.size, 6, none⟩) (Nat.le_refl _) _, by omega⟩
/-- what the law of meetings asks of its arguments' memory -/
structure BArg (W : Wn) (mv sv v : Value) (Zs : List (List (Int × Int))) (w : World) : Prop where
  hd : Hd w
  m : IsAt w mv W.must
  s : IsAt w sv W.should
  wf : ∀ x ∈ W.must ++ W.should, (Lit.int .i64 x).wf = true
  z : ZsAt w v Zs
  l : Zs.length ≤ 12
  fm : FormS mv
  fs : FormS sv
theorem ZsAt.form {w : World} {ad : Option Addr} {cap : Nat} {Zs : List (List (Int × Int))} (h : ZsAt w (.slice ad Zs.length cap) Zs) {j : Nat} (hj : j < Zs.length) : ∃ g o a k, ad = some ⟨g, o, none⟩ ∧ w.cell? ⟨g, o + j, none⟩ = some (.slice a (Zs.getD j []).length k) ∧ SpsW w (.slice a (Zs.getD j []).length k) (Zs.getD j []) := by
  obtain ⟨ad', c, e, hall⟩ := h
  cases e
  exact hall j hj
theorem LJ.start (W : Wn) (mv sv : Value) (w : World) : LJ W mv sv w 0 ((w.alloc (wantC W mv sv)).alloc (.cells #[.slice none 0 0] 27)) := by
  have s1 := ((Below.refl w.heap.size w).alloc (Nat.le_refl _) (wantC W mv sv))
  have s2 := ((Below.refl (w.heap.size + 1) (w.alloc (wantC W mv sv))).alloc (by simp) (.cells #[.slice none 0 0] 27))
  have a2 := World.alloc_heap_new (w.alloc (wantC W mv sv)) (.cells #[.slice none 0 0] 27)
  rw [World.size_alloc] at a2
  exact ⟨⟨_, [], rfl, fun p hp => absurd hp (by simp), a2, GRow.nil⟩, (s2.block _ (by omega)).trans (World.alloc_heap_new w _), s1.trans (s2.mono (by omega)), by simp⟩
theorem SJ.ends {W : Wn} {mv sv : Value} {w : World} {lv lv' : Value} {Ps : List (List (Int × Int))} {L : List (Int × Int)} {g o : Nat} {el : Value} {X X' : World} (h : SJ W mv sv w lv Ps g o el X) (hb : Below (w.heap.size + 2) X X') (hg : GRow 32 1 encB (w.heap.size + 2) lv' (Ps ++ [L]) X') (hP : ∀ p ∈ Ps, InvL p ∧ p.length ≤ 64) (hL : InvL L ∧ L.length ≤ 64) :
    LJ W mv sv w (Ps.length + 1) (X'.setCell ⟨w.heap.size + 1, 0, none⟩ lv') := by
  have hz := h.z
  have hz2 := hb.size
  have hp' := (hb.block (w.heap.size + 1) (by omega)).trans h.p
  have he := setCell_eq_setRow X' (w.heap.size + 1) 0 _ _ _ lv' hp'
  have hp2 : (X'.setCell ⟨w.heap.size + 1, 0, none⟩ lv').heap[w.heap.size + 1]? = some (.cells #[lv'] 27 (0, 0)) := by rw [he]; exact setRow_heap _ _ _ _ _ _ hp'
  have hk : ∀ k, k ≠ w.heap.size + 1 → (X'.setCell ⟨w.heap.size + 1, 0, none⟩ lv').heap[k]? = X'.heap[k]? := fun k hk => Below.heap_setCell _ _ _ k (fun e => hk e)
  have hsz := (KeepsWalks.setCell X' ⟨w.heap.size + 1, 0, none⟩ lv').size
  refine ⟨⟨lv', Ps ++ [L], by simp, fun p hp => ?_, hp2, hg.keep (fun b h1 h2 => hk b (by omega)) hsz⟩, (hk _ (by omega)).trans ((hb.block _ (by omega)).trans h.x), ?_, by omega⟩
  · rcases List.mem_append.1 hp with e | e
    · exact hP p e
    · rw [List.mem_singleton] at e; subst e; exact hL
  · exact (h.b.trans (hb.mono (by omega))).setCell (p := ⟨w.heap.size + 1, 0, none⟩) (by show w.heap.size ≤ w.heap.size + 1; omega) _
set_option maxRecDepth 100000 in
set_option maxHeartbeats 8000000 in
theorem best_none (W : Wn) (mv sv : Value) (ad : Option Addr) (cap : Nat) (Zs : List (List (Int × Int))) (w : World) (hA : BArg W mv sv (.slice ad Zs.length cap) Zs w) (D q : Int) (hD : wrap64 (W.to' - W.from') = D) (hq : wrap64 (D.tdiv W.step) = q) (h1 : W.step ≤ 0) :
    Calls Tryd.prog 3 #[wantV W mv sv, .slice ad Zs.length cap] w fun e w' => e = .returned (.bool true) ∧ Below w.heap.size w w' := by
  have hl := hA.l
  have h12i : ¬ (12 : Int) < (Zs.length : Int) := by omega
  have HA := hide hA
  have HQ := hide (And.intro hD hq)
  clear hA
  unfold wantV
  go_enter Tryd.func3, Tryd.ntmps3
  go_wp2_with fail
  clear hD hq
  go_loopw [6] (fun i wr => ∃ m : Nat, m ≤ Zs.length ∧ i = .int .i64 m ∧ LJ W mv sv w m wr) (fun i _ => Zs.length - (intOf i).toNat)
  case atStart => exact ⟨0, by omega, rfl, LJ.start W mv sv w⟩
  case round =>
    obtain ⟨m, hm, rfl, hJ⟩ := hrel
    by_cases hlt : m < Zs.length
    · have hmi : (m : Int) < (Zs.length : Int) := by omega
      have hm0 : (0 : Int) ≤ m := by omega
      obtain ⟨lv, Ps, hPl, hPs, hp, hgr⟩ := hJ.ex
      obtain ⟨g, og, a, k, rfl, hx, hsp⟩ := HA.out.z.form hlt
      generalize Zs.getD m [] = zs at *
      have hx0 := (hJ.b.cell (World.block_lt_of_cell? w _ hx)).trans hx
      have hsj : SJ W mv sv w lv Ps g (og + m) (.slice a zs.length k) wr := ⟨hJ.x, hp, hx0, hgr, hJ.b, hJ.z, by have := World.block_lt_of_cell? w _ hx; simpa using this⟩
      by_cases hbig : 64 < zs.length
      · have hbi : (64 : Int) < (zs.length : Int) := by omega
        have hBB := hide hJ.b
        clear hJ hsj hp hgr
        go_wp2
        go_ret
        exact ⟨rfl, hBB.out⟩
      · have hbi : ¬ (64 : Int) < (zs.length : Int) := by omega
        obtain ⟨la, lc, rfl⟩ := hgr.slice
        have KT := hide (fun X (h : Below w.heap.size w X) => timesOf_in (.slice a zs.length k) zs (by omega) X (hsp.below h))
        have hJ0 := hsj.later (Below.refl _ wr).drew
        have hS := hJ0.cells
        have HS0 := hide hsj
        have HPP := hide (And.intro hPl hPs)
        clear hJ hsj hp hgr hx hsp hPl hPs hbig
        go_wp2_with fail
        refine wp_region_noPanic ?_
        refine wp_region_linGM (S := fun X => X.cell? ⟨w.heap.size + 1, 0, none⟩ = some (.slice la Ps.length lc) ∧ X.cell? ⟨g, og + m, none⟩ = some (.slice a zs.length k)) (R := fun _ => True) [8] (by kernel_rfl) (by kernel_rfl) [(0, none, 0), (1, none, 1), (2, none, 1), (3, none, 1), (4, none, 0), (5, none, 2), (6, none, 2), (7, none, 2), (8, none, 3)] (by kernel_rfl) (by kernel_rfl) (fun _ _ _ _ _ h => h) (by exact trivial) (by exact hS) (fun ops' Q' hops hQ' => ?_)
        refine wpLinG_read (o := { dst := some 59, op := Go.Op.load 27 (Go.Operand.tmp 5), type := 27, pos := "house.go:219", after := #[], guard := none }) (v := ?vx0) (by rw [hops]; rfl) (by first | exact trivial | rfl) hS ?ex0 ?hx0
        case ex0 => intro w' hw'; obtain ⟨e1, e2⟩ := hw'; go_simp; (try rfl)
        (try simp only [Act.put, List.setIfInBounds_toArray, List.set_cons_zero, List.set_cons_succ])
        refine wpLinG_pure (o := { dst := some 60, op := Go.Op.move (Go.Operand.tmp 1), type := 26, pos := "house.go:219", after := #[], guard := none }) (v := ?vx1) (by rw [hops]; rfl) (by first | exact trivial | rfl) ?ex1 ?hx1
        case ex1 => intro w'; go_simp; (try rfl)
        (try simp only [Act.put, List.setIfInBounds_toArray, List.set_cons_zero, List.set_cons_succ])
        refine wpLinG_pure (o := { dst := some 61, op := Go.Op.move (Go.Operand.tmp 6), type := 3, pos := "house.go:219", after := #[], guard := none }) (v := ?vx2) (by rw [hops]; rfl) (by first | exact trivial | rfl) ?ex2 ?hx2
        case ex2 => intro w'; go_simp; (try rfl)
        (try simp only [Act.put, List.setIfInBounds_toArray, List.set_cons_zero, List.set_cons_succ])
        refine wpLinG_pure (o := { dst := some 62, op := Go.Op.indexAddr 26 (Go.Operand.tmp 60) (Go.Operand.tmp 61), type := 0, pos := "house.go:219", after := #[{ on := 1, ground := Go.Ground.data }, { on := 2, ground := Go.Ground.data }], guard := none }) (v := ?vx3) (by rw [hops]; rfl) (by first | exact trivial | rfl) ?ex3 ?hx3
        case ex3 => intro w'; go_simp; (try rfl)
        (try simp only [Act.put, List.setIfInBounds_toArray, List.set_cons_zero, List.set_cons_succ])
        refine wpLinG_read (o := { dst := some 63, op := Go.Op.load 28 (Go.Operand.tmp 62), type := 28, pos := "house.go:219", after := #[{ on := 3, ground := Go.Ground.data }], guard := none }) (v := ?vx4) (by rw [hops]; rfl) (by first | exact trivial | rfl) hS ?ex4 ?hx4
        case ex4 => intro w' hw'; obtain ⟨e1, e2⟩ := hw'; go_simp; (try rfl)
        (try simp only [Act.put, List.setIfInBounds_toArray, List.set_cons_zero, List.set_cons_succ])
        refine wpLinG_do (o := { dst := some 64, op := Go.Op.call { callee := Go.Callee.value (Go.Operand.func 4), args := #[Go.Operand.tmp 63], argTypes := #[28] }, type := 32, pos := "house.go:219", after := #[{ on := 4, ground := Go.Ground.data }], guard := none }) (by rw [hops]; rfl) (by first | exact trivial | rfl) (fun K hK => ?_)
        go_simp
        refine (KT.out _ hJ0.b).mono ?_
        rintro e X1 ⟨a1, l1, c1, L, rfl, hok1, hs1, hb1, hfr, _⟩
        have hJ1 := hJ0.later hb1
        have hf1 := set_fpt (s := wr.heap.size) hs1 (fun g o e => hfr g o e)
        replace hS := hJ1.cells
        clear hs1 hfr
        refine hK _ _ trivial hS ?_
        clear hK K
        (try simp only [Act.put, List.setIfInBounds_toArray, List.set_cons_zero, List.set_cons_succ])
        refine wpLinG_do (o := { dst := some 65, op := Go.Op.buildSlice 27 1 #[(0, Go.Operand.tmp 64)], type := 27, pos := "house.go:219", after := #[{ on := 5, ground := Go.Ground.data }], guard := none }) (by rw [hops]; rfl) (by first | exact trivial | rfl) (fun K hK => ?_)
        go_simp
        have hbA : Below X1.heap.size X1 (X1.alloc (.cells #[.slice a1 l1 c1] 32)) := (Below.refl _ X1).alloc (Nat.le_refl _) _
        have hJ2 := hJ1.later hbA
        replace hS := hJ2.cells
        have hf2 := hf1.later (Agree.below hbA (Nat.le_refl _)) hbA.size
        refine hK _ _ trivial hS ?_
        clear hK K
        (try simp only [Act.put, List.setIfInBounds_toArray, List.set_cons_zero, List.set_cons_succ])
        refine wpLinG_do (o := { dst := some 66, op := Go.Op.call { callee := Go.Callee.builtin Go.Builtin.append, args := #[Go.Operand.tmp 59, Go.Operand.tmp 65], argTypes := #[27, 27] }, type := 27, pos := "house.go:219", after := #[{ on := 0, ground := Go.Ground.data }, { on := 6, ground := Go.Ground.data }, { on := 5, ground := Go.Ground.chain }], guard := none }) (by rw [hops]; rfl) (by first | exact trivial | rfl) (fun K hK => ?_)
        have hzz := hJ2.z
        have hzg := hJ2.zg
        have hlt0 := HS0.out.gr.lt
        have hz1 := hb1.size
        obtain ⟨v', w', hrun, hG', hbl⟩ := run_push 27 hJ2.gr X1.heap.size 1 (cell_of_row _ _ 0 _ _ (0, 0) (World.alloc_heap_new X1 (.cells #[.slice a1 l1 c1] 32))) (s := wr.heap.size) (e := X1.heap.size) HS0.out.z hf2 (fun g' hg' => by have := (hlt0 g' hg').2; omega) (by have := HPP.out.1; omega) hJ2.z
        obtain ⟨va, vc, rfl⟩ := hG'.slice
        refine wp_run_app (.tmp 59) (.tmp 65) 27 27 rfl (by rfl) (by rfl) hrun ?_
        have hend := hJ2.ends hbl hG' HPP.out.2 ⟨hok1.1, by have := hok1.2; omega⟩
        have hpb := (hbl.block (w.heap.size + 1) (by omega)).trans hJ2.p
        have hcb := cell_of_row _ _ 0 _ _ (0, 0) hpb
        have hfb := frz hpb
        replace hS : w'.cell? ⟨w.heap.size + 1, 0, none⟩ = some (.slice la Ps.length lc) ∧ w'.cell? ⟨g, og + m, none⟩ = some (.slice a zs.length k) := ⟨hcb, (hbl.cell (show g < _ by omega)).trans hJ2.e⟩
        refine hK _ _ trivial hS ?_
        clear hK K
        (try simp only [Act.put, List.setIfInBounds_toArray, List.set_cons_zero, List.set_cons_succ])
        refine wpLinG_store (o := { dst := none, op := Go.Op.store 27 (Go.Operand.tmp 5) (Go.Operand.tmp 66), type := 0, pos := "house.go:219", after := #[{ on := 7, ground := Go.Ground.data }, { on := 7, ground := Go.Ground.chain }, { on := 0, ground := Go.Ground.phase }, { on := 1, ground := Go.Ground.phase }, { on := 2, ground := Go.Ground.phase }, { on := 3, ground := Go.Ground.phase }, { on := 4, ground := Go.Ground.phase }, { on := 5, ground := Go.Ground.phase }, { on := 6, ground := Go.Ground.phase }, { on := 7, ground := Go.Ground.phase }], guard := none }) (by rw [hops]; rfl) (by first | exact trivial | rfl) (fun K hK => ?_)
        go_simp
        refine hK _ _ trivial ?_
        clear hK K
        (try simp only [Act.put, List.setIfInBounds_toArray, List.set_cons_zero, List.set_cons_succ])
        subst hQ'
        refine NoPanic.normal ?_
        clear hops
        rw [HPP.out.1] at hend
        have HE := hide hend
        clear hend hJ0 hJ1 hJ2 hS hG' hbl hpb hcb hfb hf1 hf2 hrun hb1 HS0 KT HPP
        go_wp2
        go_roundw
        case rel => exact ⟨m + 1, by omega, by go_num, by have := HE.out; rw [List.length_append] at this; exact this⟩
        case measure => simp [intOf]; omega
    · obtain rfl : m = Zs.length := by omega
      have hmi : ¬ (Zs.length : Int) < (Zs.length : Int) := by omega
      obtain ⟨lv, Ps, hPl, hPs, hp, hgr⟩ := hJ.ex
      obtain ⟨la, lc, rfl⟩ := hgr.slice
      have hBJ := BJ.start hJ.x hp hgr hJ.b hJ.z
      have q6 : wr.cell? ⟨w.heap.size, 6, none⟩ = some (.int .i64 W.seats) := cell_of_row _ _ _ _ _ (0, 0) hJ.x
      have f6 := frz hJ.x
      have hPs1 : PsOk Ps := fun p hp => ⟨(hPs p hp).1, by have := (hPs p hp).2; omega⟩
      have KF := hide (fun X (h : Below w.heap.size w X) hps => pbfind_any W.bare mv sv la lc none 0 Ps [] X (HA.out.hd.later h) (HA.out.m.below h) (HA.out.s.below h) HA.out.wf hPs1 (by omega) hps (fun r hr => absurd hr (by simp)) (by simp) ⟨none, 0, rfl, fun j hj => absurd hj (Nat.not_lt_zero j)⟩)
      have KC := hide (fun X (h : Below w.heap.size w X) => pbcheck_any W.bare Ps.length mv sv X (HA.out.hd.later h) (HA.out.m.below h) (HA.out.s.below h) HA.out.wf)
      have HPS := hide (And.intro hPl hPs)
      clear hJ hp hgr hPl hPs hPs1
      unfold wantV PFindP at *
      go_upto_region 11 with fail
      obtain ⟨X1, hX1⟩ : ∃ X1, wr.setCell ⟨w.heap.size, 6, none⟩ (.int .i64 0) = X1 := ⟨_, rfl⟩
      rw [hX1] at hBJ ⊢
      clear hX1 q6 f6
      obtain ⟨c0, c1, c2, c3, c4, c5, c6, c7⟩ := hBJ.cells
      have HB1 := hide hBJ
      clear hBJ
      obtain ⟨R, hR⟩ : ∃ R, W.bare.ans Ps [] = R := ⟨_, rfl⟩
      rw [hR] at KF
      have HR := hide hR
      clear hR
      go_wp2_with (first
        | (go_at_call 5; refine (KF.out X1 HB1.out.b HB1.out.ps).mono ?_; rintro e X2 ⟨r, rfl, hr2, hb2⟩; (obtain ⟨ra, rk, rfl⟩ := own_len hr2); (have hB3 := (HB1.out.later hb2).later ((Below.refl X2.heap.size X2).alloc (Nat.le_refl _) (.cells #[.int .i64 (mtA R.2), .int .i64 (mtR R.2), .slice ra (mtM R.2).length rk] 35))); (obtain ⟨d0, d1, d2, d3, d4, d5, d6, d7⟩ := hB3.cells); (have HB3 := hide hB3); (have HR2 := hide hr2); clear hB3 hr2 hb2 c0 c1 c2 c3 c4 c5 c6 c7)
        | fail)
      refine (KC.out _ HB3.out.b).mono ?_
      rintro e X4 ⟨rfl, hb4⟩
      have hsl := (hb4.block X2.heap.size (by simp)).trans (World.alloc_heap_new X2 (.cells #[.int .i64 (mtA R.2), .int .i64 (mtR R.2), .slice ra (mtM R.2).length rk] 35))
      have hB4 := HB3.out.later hb4
      have hz2 := HB3.out.z
      obtain ⟨c0, c1, c2, c3, c4, c5, c6, c7⟩ := hB4.cells
      clear d0 d1 d2 d3 d4 d5 d6 d7 hb4
      by_cases hc0 : W.bare.chk Ps.length = 0
      · exact absurd ((W.bare.chk_iff _).1 hc0).s1 (by show ¬ 1 ≤ W.step; omega)
      · have hRR : R = (W.bare.chk Ps.length, none) := by rw [← HR.out]; exact if_neg hc0
        have HB4 := hide hB4.b
        clear hB4 hsl
        subst hRR
        generalize W.bare.chk Ps.length = C at *
        go_wp2
        go_ret
        exact ⟨by simp, HB4.out⟩
set_option maxRecDepth 100000 in
set_option maxHeartbeats 8000000 in
theorem best_far (W : Wn) (mv sv : Value) (ad : Option Addr) (cap : Nat) (Zs : List (List (Int × Int))) (w : World) (hA : BArg W mv sv (.slice ad Zs.length cap) Zs w) (D q : Int) (hD : wrap64 (W.to' - W.from') = D) (hq : wrap64 (D.tdiv W.step) = q) (h1 : 0 < W.step) (h2 : 400 < q) (h3 : 10000 < q) :
    Calls Tryd.prog 3 #[wantV W mv sv, .slice ad Zs.length cap] w fun e w' => e = .returned (.bool true) ∧ Below w.heap.size w w' := by
  have hl := hA.l
  have h12i : ¬ (12 : Int) < (Zs.length : Int) := by omega
  have HA := hide hA
  have HQ := hide (And.intro hD hq)
  clear hA
  unfold wantV
  go_enter Tryd.func3, Tryd.ntmps3
  go_wp2_with fail
  clear hD hq
  go_loopw [6] (fun i wr => ∃ m : Nat, m ≤ Zs.length ∧ i = .int .i64 m ∧ LJ W mv sv w m wr) (fun i _ => Zs.length - (intOf i).toNat)
  case atStart => exact ⟨0, by omega, rfl, LJ.start W mv sv w⟩
  case round =>
    obtain ⟨m, hm, rfl, hJ⟩ := hrel
    by_cases hlt : m < Zs.length
    · have hmi : (m : Int) < (Zs.length : Int) := by omega
      have hm0 : (0 : Int) ≤ m := by omega
      obtain ⟨lv, Ps, hPl, hPs, hp, hgr⟩ := hJ.ex
      obtain ⟨g, og, a, k, rfl, hx, hsp⟩ := HA.out.z.form hlt
      generalize Zs.getD m [] = zs at *
      have hx0 := (hJ.b.cell (World.block_lt_of_cell? w _ hx)).trans hx
      have hsj : SJ W mv sv w lv Ps g (og + m) (.slice a zs.length k) wr := ⟨hJ.x, hp, hx0, hgr, hJ.b, hJ.z, by have := World.block_lt_of_cell? w _ hx; simpa using this⟩
      by_cases hbig : 64 < zs.length
      · have hbi : (64 : Int) < (zs.length : Int) := by omega
        have hBB := hide hJ.b
        clear hJ hsj hp hgr
        go_wp2
        go_ret
        exact ⟨rfl, hBB.out⟩
      · have hbi : ¬ (64 : Int) < (zs.length : Int) := by omega
        obtain ⟨la, lc, rfl⟩ := hgr.slice
        have KT := hide (fun X (h : Below w.heap.size w X) => timesOf_in (.slice a zs.length k) zs (by omega) X (hsp.below h))
        have hJ0 := hsj.later (Below.refl _ wr).drew
        have hS := hJ0.cells
        have HS0 := hide hsj
        have HPP := hide (And.intro hPl hPs)
        clear hJ hsj hp hgr hx hsp hPl hPs hbig
        go_wp2_with fail
        refine wp_region_noPanic ?_
        refine wp_region_linGM (S := fun X => X.cell? ⟨w.heap.size + 1, 0, none⟩ = some (.slice la Ps.length lc) ∧ X.cell? ⟨g, og + m, none⟩ = some (.slice a zs.length k)) (R := fun _ => True) [8] (by kernel_rfl) (by kernel_rfl) [(0, none, 0), (1, none, 1), (2, none, 1), (3, none, 1), (4, none, 0), (5, none, 2), (6, none, 2), (7, none, 2), (8, none, 3)] (by kernel_rfl) (by kernel_rfl) (fun _ _ _ _ _ h => h) (by exact trivial) (by exact hS) (fun ops' Q' hops hQ' => ?_)
        refine wpLinG_read (o := { dst := some 59, op := Go.Op.load 27 (Go.Operand.tmp 5), type := 27, pos := "house.go:219", after := #[], guard := none }) (v := ?vx0) (by rw [hops]; rfl) (by first | exact trivial | rfl) hS ?ex0 ?hx0
        case ex0 => intro w' hw'; obtain ⟨e1, e2⟩ := hw'; go_simp; (try rfl)
        (try simp only [Act.put, List.setIfInBounds_toArray, List.set_cons_zero, List.set_cons_succ])
        refine wpLinG_pure (o := { dst := some 60, op := Go.Op.move (Go.Operand.tmp 1), type := 26, pos := "house.go:219", after := #[], guard := none }) (v := ?vx1) (by rw [hops]; rfl) (by first | exact trivial | rfl) ?ex1 ?hx1
        case ex1 => intro w'; go_simp; (try rfl)
        (try simp only [Act.put, List.setIfInBounds_toArray, List.set_cons_zero, List.set_cons_succ])
        refine wpLinG_pure (o := { dst := some 61, op := Go.Op.move (Go.Operand.tmp 6), type := 3, pos := "house.go:219", after := #[], guard := none }) (v := ?vx2) (by rw [hops]; rfl) (by first | exact trivial | rfl) ?ex2 ?hx2
        case ex2 => intro w'; go_simp; (try rfl)
        (try simp only [Act.put, List.setIfInBounds_toArray, List.set_cons_zero, List.set_cons_succ])
        refine wpLinG_pure (o := { dst := some 62, op := Go.Op.indexAddr 26 (Go.Operand.tmp 60) (Go.Operand.tmp 61), type := 0, pos := "house.go:219", after := #[{ on := 1, ground := Go.Ground.data }, { on := 2, ground := Go.Ground.data }], guard := none }) (v := ?vx3) (by rw [hops]; rfl) (by first | exact trivial | rfl) ?ex3 ?hx3
        case ex3 => intro w'; go_simp; (try rfl)
        (try simp only [Act.put, List.setIfInBounds_toArray, List.set_cons_zero, List.set_cons_succ])
        refine wpLinG_read (o := { dst := some 63, op := Go.Op.load 28 (Go.Operand.tmp 62), type := 28, pos := "house.go:219", after := #[{ on := 3, ground := Go.Ground.data }], guard := none }) (v := ?vx4) (by rw [hops]; rfl) (by first | exact trivial | rfl) hS ?ex4 ?hx4
        case ex4 => intro w' hw'; obtain ⟨e1, e2⟩ := hw'; go_simp; (try rfl)
        (try simp only [Act.put, List.setIfInBounds_toArray, List.set_cons_zero, List.set_cons_succ])
        refine wpLinG_do (o := { dst := some 64, op := Go.Op.call { callee := Go.Callee.value (Go.Operand.func 4), args := #[Go.Operand.tmp 63], argTypes := #[28] }, type := 32, pos := "house.go:219", after := #[{ on := 4, ground := Go.Ground.data }], guard := none }) (by rw [hops]; rfl) (by first | exact trivial | rfl) (fun K hK => ?_)
        go_simp
        refine (KT.out _ hJ0.b).mono ?_
        rintro e X1 ⟨a1, l1, c1, L, rfl, hok1, hs1, hb1, hfr, _⟩
        have hJ1 := hJ0.later hb1
        have hf1 := set_fpt (s := wr.heap.size) hs1 (fun g o e => hfr g o e)
        replace hS := hJ1.cells
        clear hs1 hfr
        refine hK _ _ trivial hS ?_
        clear hK K
        (try simp only [Act.put, List.setIfInBounds_toArray, List.set_cons_zero, List.set_cons_succ])
        refine wpLinG_do (o := { dst := some 65, op := Go.Op.buildSlice 27 1 #[(0, Go.Operand.tmp 64)], type := 27, pos := "house.go:219", after := #[{ on := 5, ground := Go.Ground.data }], guard := none }) (by rw [hops]; rfl) (by first | exact trivial | rfl) (fun K hK => ?_)
        go_simp
        have hbA : Below X1.heap.size X1 (X1.alloc (.cells #[.slice a1 l1 c1] 32)) := (Below.refl _ X1).alloc (Nat.le_refl _) _
        have hJ2 := hJ1.later hbA
        replace hS := hJ2.cells
        have hf2 := hf1.later (Agree.below hbA (Nat.le_refl _)) hbA.size
        refine hK _ _ trivial hS ?_
        clear hK K
        (try simp only [Act.put, List.setIfInBounds_toArray, List.set_cons_zero, List.set_cons_succ])
        refine wpLinG_do (o := { dst := some 66, op := Go.Op.call { callee := Go.Callee.builtin Go.Builtin.append, args := #[Go.Operand.tmp 59, Go.Operand.tmp 65], argTypes := #[27, 27] }, type := 27, pos := "house.go:219", after := #[{ on := 0, ground := Go.Ground.data }, { on := 6, ground := Go.Ground.data }, { on := 5, ground := Go.Ground.chain }], guard := none }) (by rw [hops]; rfl) (by first | exact trivial | rfl) (fun K hK => ?_)
        have hzz := hJ2.z
        have hzg := hJ2.zg
        have hlt0 := HS0.out.gr.lt
        have hz1 := hb1.size
        obtain ⟨v', w', hrun, hG', hbl⟩ := run_push 27 hJ2.gr X1.heap.size 1 (cell_of_row _ _ 0 _ _ (0, 0) (World.alloc_heap_new X1 (.cells #[.slice a1 l1 c1] 32))) (s := wr.heap.size) (e := X1.heap.size) HS0.out.z hf2 (fun g' hg' => by have := (hlt0 g' hg').2; omega) (by have := HPP.out.1; omega) hJ2.z
        obtain ⟨va, vc, rfl⟩ := hG'.slice
        refine wp_run_app (.tmp 59) (.tmp 65) 27 27 rfl (by rfl) (by rfl) hrun ?_
        have hend := hJ2.ends hbl hG' HPP.out.2 ⟨hok1.1, by have := hok1.2; omega⟩
        have hpb := (hbl.block (w.heap.size + 1) (by omega)).trans hJ2.p
        have hcb := cell_of_row _ _ 0 _ _ (0, 0) hpb
        have hfb := frz hpb
        replace hS : w'.cell? ⟨w.heap.size + 1, 0, none⟩ = some (.slice la Ps.length lc) ∧ w'.cell? ⟨g, og + m, none⟩ = some (.slice a zs.length k) := ⟨hcb, (hbl.cell (show g < _ by omega)).trans hJ2.e⟩
        refine hK _ _ trivial hS ?_
        clear hK K
        (try simp only [Act.put, List.setIfInBounds_toArray, List.set_cons_zero, List.set_cons_succ])
        refine wpLinG_store (o := { dst := none, op := Go.Op.store 27 (Go.Operand.tmp 5) (Go.Operand.tmp 66), type := 0, pos := "house.go:219", after := #[{ on := 7, ground := Go.Ground.data }, { on := 7, ground := Go.Ground.chain }, { on := 0, ground := Go.Ground.phase }, { on := 1, ground := Go.Ground.phase }, { on := 2, ground := Go.Ground.phase }, { on := 3, ground := Go.Ground.phase }, { on := 4, ground := Go.Ground.phase }, { on := 5, ground := Go.Ground.phase }, { on := 6, ground := Go.Ground.phase }, { on := 7, ground := Go.Ground.phase }], guard := none }) (by rw [hops]; rfl) (by first | exact trivial | rfl) (fun K hK => ?_)
        go_simp
        refine hK _ _ trivial ?_
        clear hK K
        (try simp only [Act.put, List.setIfInBounds_toArray, List.set_cons_zero, List.set_cons_succ])
        subst hQ'
        refine NoPanic.normal ?_
        clear hops
        rw [HPP.out.1] at hend
        have HE := hide hend
        clear hend hJ0 hJ1 hJ2 hS hG' hbl hpb hcb hfb hf1 hf2 hrun hb1 HS0 KT HPP
        go_wp2
        go_roundw
        case rel => exact ⟨m + 1, by omega, by go_num, by have := HE.out; rw [List.length_append] at this; exact this⟩
        case measure => simp [intOf]; omega
    · obtain rfl : m = Zs.length := by omega
      have hmi : ¬ (Zs.length : Int) < (Zs.length : Int) := by omega
      obtain ⟨lv, Ps, hPl, hPs, hp, hgr⟩ := hJ.ex
      obtain ⟨la, lc, rfl⟩ := hgr.slice
      have hBJ := BJ.start hJ.x hp hgr hJ.b hJ.z
      have q6 : wr.cell? ⟨w.heap.size, 6, none⟩ = some (.int .i64 W.seats) := cell_of_row _ _ _ _ _ (0, 0) hJ.x
      have f6 := frz hJ.x
      have hPs1 : PsOk Ps := fun p hp => ⟨(hPs p hp).1, by have := (hPs p hp).2; omega⟩
      have KF := hide (fun X (h : Below w.heap.size w X) hps => pbfind_any W.bare mv sv la lc none 0 Ps [] X (HA.out.hd.later h) (HA.out.m.below h) (HA.out.s.below h) HA.out.wf hPs1 (by omega) hps (fun r hr => absurd hr (by simp)) (by simp) ⟨none, 0, rfl, fun j hj => absurd hj (Nat.not_lt_zero j)⟩)
      have KC := hide (fun X (h : Below w.heap.size w X) => pbcheck_any W.bare Ps.length mv sv X (HA.out.hd.later h) (HA.out.m.below h) (HA.out.s.below h) HA.out.wf)
      have HPS := hide (And.intro hPl hPs)
      clear hJ hp hgr hPl hPs hPs1
      unfold wantV PFindP at *
      go_upto_region 11 with fail
      obtain ⟨X1, hX1⟩ : ∃ X1, wr.setCell ⟨w.heap.size, 6, none⟩ (.int .i64 0) = X1 := ⟨_, rfl⟩
      rw [hX1] at hBJ ⊢
      clear hX1 q6 f6
      obtain ⟨c0, c1, c2, c3, c4, c5, c6, c7⟩ := hBJ.cells
      have HB1 := hide hBJ
      clear hBJ
      obtain ⟨R, hR⟩ : ∃ R, W.bare.ans Ps [] = R := ⟨_, rfl⟩
      rw [hR] at KF
      have HR := hide hR
      clear hR
      go_wp2_with (first
        | (go_at_call 5; refine (KF.out X1 HB1.out.b HB1.out.ps).mono ?_; rintro e X2 ⟨r, rfl, hr2, hb2⟩; (obtain ⟨ra, rk, rfl⟩ := own_len hr2); (have hB3 := (HB1.out.later hb2).later ((Below.refl X2.heap.size X2).alloc (Nat.le_refl _) (.cells #[.int .i64 (mtA R.2), .int .i64 (mtR R.2), .slice ra (mtM R.2).length rk] 35))); (obtain ⟨d0, d1, d2, d3, d4, d5, d6, d7⟩ := hB3.cells); (have HB3 := hide hB3); (have HR2 := hide hr2); clear hB3 hr2 hb2 c0 c1 c2 c3 c4 c5 c6 c7)
        | fail)
      refine (KC.out _ HB3.out.b).mono ?_
      rintro e X4 ⟨rfl, hb4⟩
      have hsl := (hb4.block X2.heap.size (by simp)).trans (World.alloc_heap_new X2 (.cells #[.int .i64 (mtA R.2), .int .i64 (mtR R.2), .slice ra (mtM R.2).length rk] 35))
      have hB4 := HB3.out.later hb4
      have hz2 := HB3.out.z
      obtain ⟨c0, c1, c2, c3, c4, c5, c6, c7⟩ := hB4.cells
      clear d0 d1 d2 d3 d4 d5 d6 d7 hb4
      by_cases hc0 : W.bare.chk Ps.length = 0
      · have := (q_good ((W.bare.chk_iff _).1 hc0) HQ.out.1 HQ.out.2).2.2
        omega
      · have hRR : R = (W.bare.chk Ps.length, none) := by rw [← HR.out]; exact if_neg hc0
        have HB4 := hide hB4.b
        clear hB4 hsl
        subst hRR
        generalize W.bare.chk Ps.length = C at *
        go_wp2
        go_ret
        exact ⟨by simp, HB4.out⟩
end Go.Proofs.YtabgoicholknoaaDoor
