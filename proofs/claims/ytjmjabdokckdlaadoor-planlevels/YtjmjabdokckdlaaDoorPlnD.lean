/- plan: early. (Written by gen/plnd.py.) -/
import Derived.Test.YtjmjabdokckdlaaDoorPlnC
namespace Go.Proofs.YtjmjabdokckdlaaDoor
open Go.RowKit
set_option linter.unusedVariables false
set_option linter.unusedSimpArgs false

/-- a row of spans of one's own -/
def SpR (q n : Nat) (s : Sp) (X : World) : Prop := ∃ cur, X.heap[q]? = some (.cells cur 37 (0, 0)) ∧ ∀ t, t < n → cur[t * 2]? = some (.int .i64 (s t).1) ∧ cur[t * 2 + 1]? = some (.int .i64 (s t).2)
theorem SpR.at {q n : Nat} {s : Sp} {X : World} (h : SpR q n s X) : SpAt q n s X := by
  obtain ⟨cur, h1, h2⟩ := h
  exact fun t ht => ⟨(cell_of_row _ _ _ _ _ (0, 0) h1).trans (h2 t ht).1, (cell_of_row _ _ _ _ _ (0, 0) h1).trans (h2 t ht).2⟩
theorem SpR.froz {q n : Nat} {s : Sp} {X : World} (h : SpR q n s X) (t : Nat) : X.frozen? ⟨q, t, none⟩ = false := by
  obtain ⟨cur, h1, _⟩ := h
  exact frozen_of_row _ _ _ _ _ h1
theorem SpR.lt {q n : Nat} {s : Sp} {X : World} (h : SpR q n s X) : q < X.heap.size := by
  obtain ⟨cur, h1, _⟩ := h
  exact (Array.getElem?_eq_some_iff.1 h1).1
theorem SpR.step {q n : Nat} {s : Sp} {X X' : World} (h : SpR q n s X) (hb : Below X.heap.size X X') : SpR q n s X' := by
  have hl := h.lt
  obtain ⟨cur, h1, h2⟩ := h
  exact ⟨cur, (hb.block _ hl).trans h1, h2⟩
theorem SpR.grown {q n : Nat} {s : Sp} {X X' : World} {row : Option Nat} (h : SpR q n s X) (hg : X.grownBy X' row) (hne : ∀ j, row = some j → j ≠ q) : SpR q n s X' := by
  have hl := h.lt
  obtain ⟨cur, h1, h2⟩ := h
  exact ⟨cur, (hg.block _ hl (fun e => hne q e.symm rfl)).trans h1, h2⟩
theorem SpR.congr {q n : Nat} {s s' : Sp} {X : World} (h : SpR q n s X) (hs : ∀ u, u < n → s' u = s u) : SpR q n s' X := by
  obtain ⟨cur, h1, h2⟩ := h
  exact ⟨cur, h1, fun u hu => by rw [hs u hu]; exact h2 u hu⟩
theorem SpR.set {q n : Nat} {s : Sp} {X : World} (h : SpR q n s X) (t : Nat) (ht : t < n) (a b : Int) : SpR q n (upS s t (a, b)) ((X.setCell ⟨q, t * 2, none⟩ (.int .i64 a)).setCell ⟨q, t * 2 + 1, none⟩ (.int .i64 b)) := by
  obtain ⟨cur, h1, h2⟩ := h
  refine ⟨_, heap_setCell_same _ q (t * 2 + 1) _ _ _ (heap_setCell_same X q (t * 2) _ _ _ h1), fun u hu => ?_⟩
  have l1 : t * 2 < cur.size := (Array.getElem?_eq_some_iff.1 (h2 t ht).1).1
  have l2 : t * 2 + 1 < cur.size := (Array.getElem?_eq_some_iff.1 (h2 t ht).2).1
  simp only [Array.getElem?_setIfInBounds, Array.size_setIfInBounds]
  unfold upS
  by_cases e : u = t
  · subst e
    rw [if_neg (by omega), if_pos rfl, if_pos l1, if_pos rfl, if_pos l2, if_pos rfl]
    exact ⟨rfl, rfl⟩
  · rw [if_neg e, if_neg (by omega), if_neg (by omega), if_neg (by omega), if_neg (by omega)]
    exact h2 u hu
theorem made_sp {g n cap B : Nat} {X : World} (h : X.ownsRow B 37 2 (.slice (some ⟨g, 0, none⟩) n cap) n (madeCells (Value.cells (.agg #[.int .i64 0, .int .i64 0])) (n * 2)).toList) : SpR g n (fun _ => (0, 0)) X := by
  rcases h.2 with ⟨h0, _⟩ | ⟨g', cap', cur, hv, _, hg, _, _, _, ht⟩
  · cases h0
  · simp only [Value.slice.injEq, Option.some.injEq, Addr.mk.injEq, and_true, true_and] at hv
    obtain ⟨rfl, rfl⟩ := hv
    have hc : ∀ a, a < n * 2 → cur[a]? = some (.int .i64 0) := fun a ha => by
      have h2 : (cur.toList.take (n * 2))[a]? = some (.int .i64 0) := by
        rw [ht, Array.getElem?_toList]
        unfold madeCells
        rw [Array.getElem?_map, Array.getElem?_range, if_pos (by omega)]
        rcases Nat.mod_two_eq_zero_or_one a with e | e <;> simp [Value.cells, e]
      rw [List.getElem?_take, if_pos (by omega), Array.getElem?_toList] at h2
      exact h2
    exact ⟨cur, hg, fun t ht => ⟨hc _ (by omega), hc _ (by omega)⟩⟩
theorem Topo.take {P : List Tk} {r : List Nat} (h : Topo P r) : ∀ m, Topo P (r.take m) := by
  induction h with
  | nil => intro m; rw [List.take_nil]; exact .nil
  | snoc r i h hi hn hl ih =>
    intro m
    by_cases hm : m ≤ r.length
    · rw [List.take_append_of_le_length hm]; exact ih m
    · rw [List.take_of_length_le (by rw [List.length_append, List.length_singleton]; omega)]
      exact .snoc r i h hi hn hl
theorem earS_spbd {P : List Tk} (h : Good P) {r : List Nat} (hr : Topo P r) : SpBd P.length (earS P r) := fun t ht => by
  have h1 := earS_bd h hr t
  have h2 := hr.le
  have h3 := h.n60
  have h4 := h.len t ht
  have h5 : (earS P r t).2 = (earS P r t).1 + (tk P t).len ∨ (earS P r t).2 = 0 := by
    by_cases e : t ∈ r
    · exact .inl (by rw [earS_fix hr t e]; rfl)
    · exact .inr (by rw [earS_out hr t e])
  omega
theorem earS_take (P : List Tk) (r : List Nat) (m : Nat) (h : m < r.length) : earS P (r.take (m + 1)) = upS (earS P (r.take m)) r[m] (plc P r[m] (soon P r[m] (earS P (r.take m)))) := by
  rw [List.take_succ_eq_append_getElem h, earS_snoc]
/-- what the walk of early keeps -/
structure EaS (w : World) (n : Nat) (s : Sp) (base : Nat) (u : Value) (r : List Nat) (X : World) : Prop where
  sp : SpR w.heap.size n s X
  own : OwnN X base u r
  b : Below w.heap.size w X
theorem EaS.step {w : World} {n : Nat} {s : Sp} {base : Nat} {u : Value} {r : List Nat} {X X' : World} (h : EaS w n s base u r X) (hb : Below X.heap.size X X') : EaS w n s base u r X' := ⟨h.sp.step hb, own_bel h.own hb, h.b.trans (hb.mono h.b.size)⟩
theorem EaS.set {w : World} {n : Nat} {s : Sp} {base : Nat} {u : Value} {r : List Nat} {X : World} (h : EaS w n s base u r X) (hq : w.heap.size < base) (t : Nat) (ht : t < n) (a b : Int) : EaS w n (upS s t (a, b)) base u r ((X.setCell ⟨w.heap.size, t * 2, none⟩ (.int .i64 a)).setCell ⟨w.heap.size, t * 2 + 1, none⟩ (.int .i64 b)) :=
  ⟨h.sp.set t ht a b, own_set (own_set h.own _ hq _) _ hq _, (h.b.setCell (Nat.le_refl _) _).setCell (Nat.le_refl _) _⟩
/-- a task's four cells -/
structure Tk4 (p : Addr) (a b : Int) (c d : Value) (X : World) : Prop where
  c0 : X.cell? p = some (.int .i64 a)
  c1 : X.cell? ⟨p.block, p.off + 1, none⟩ = some (.int .i64 b)
  c2 : X.cell? ⟨p.block, p.off + 2, none⟩ = some c
  c3 : X.cell? ⟨p.block, p.off + 3, none⟩ = some d
theorem Tk4.step {p : Addr} {a b : Int} {c d : Value} {X X' : World} (h : Tk4 p a b c d X) (hb : Below X.heap.size X X') : Tk4 p a b c d X' :=
  have e {p : Addr} {v : Value} (e : X.cell? p = some v) : X'.cell? p = some v := (hb.cell (World.block_lt_of_cell? X _ e)).trans e
  ⟨e h.c0, e h.c1, e h.c2, e h.c3⟩
set_option maxRecDepth 100000 in
set_option maxHeartbeats 8000000 in
theorem early_any {P : List Tk} (hG : Good P) (v : Value) (w : World) (hv : TsAt w v P) :
    Calls Tryd.prog 40 #[v] w fun e w' => ∃ q, e = .returned (.slice (some ⟨q, 0, none⟩) P.length P.length) ∧ w.heap.size ≤ q ∧ SpR q P.length (earS P (ord P)) w' ∧ Topo P (ord P) ∧ Below w.heap.size w w' := by
  have hv' := hv
  obtain ⟨ad, cap, rfl, hall⟩ := hv
  have HV := hide hv'
  have HALL := hide hall
  have h60 := hG.n60
  have HG := hide hG
  have KO := hide (fun W (hb : Below w.heap.size w W) => order_any hG _ W (hv'.below hb))
  clear hall hG hv'
  obtain ⟨i0, hi, hz0, hz1, hz2⟩ := info_parts span_info
  go_enter Tryd.func40, Tryd.ntmps40
  go_wp2_with (refine wpList_make_full _ rfl (.tmp 7) (.tmp 7) 23 rfl w.heap.size 37 i0 (.agg #[.int .i64 0, .int .i64 0]) 2 Tryd.underlying23 hi hz0 hz1 .i64 .i64 _ _ P.length rfl rfl rfl rfl (by rw [hz2]; omega) (by unfold maxLen; omega) (Nat.le_refl _) ?_; intro W1 hown hgrow)
  have hs0 := made_sp hown
  have hb1 : Below w.heap.size w W1 := Below.grown (Below.refl _ w) hgrow (Nat.le_refl _) (fun k hk => by cases hk)
  have hq1 := hs0.lt
  have H1 := hide (And.intro hs0 hb1)
  clear hown hgrow hs0 hb1
  go_wp2_with (go_at_call 48; refine (KO.out _ H1.out.2).mono ?_; rintro e W2 ⟨u, rfl, ho, hT, hb2⟩; have hE : EaS w P.length (fun _ => (0, 0)) (W1.heap.size + 1) u (ord P) W2 := ⟨H1.out.1.step hb2, ho, H1.out.2.trans (hb2.mono H1.out.2.size)⟩; obtain ⟨ua, uc, rfl⟩ := (own_len ho).2; have HE := hide hE; have HT := hide hT; clear hE ho hb2 hT)
  clear H1 KO
  generalize hr : ord P = r at *
  have hrl := HT.out.le
  generalize hbase : W1.heap.size + 1 = base at *
  have hqb : w.heap.size < base := by omega
  clear hbase hq1
  go_loopw [12] (fun i wr => ∃ m : Nat, m ≤ r.length ∧ i = .int .i64 m ∧ EaS w P.length (earS P (r.take m)) base (.slice ua r.length uc) r wr) (fun i _ => r.length - (intOf i).toNat)
  case atStart => exact ⟨0, by omega, rfl, HE.out⟩
  case round =>
    clear HE
    obtain ⟨m, hm, rfl, hE⟩ := hrel
    by_cases hlt : m < r.length
    · have hmi : (m : Int) < (r.length : Int) := by omega
      have hir := HT.out.lt r[m] (List.getElem_mem hlt)
      have hst := earS_take P r m hlt
      have hbd := earS_spbd HG.out (HT.out.take m)
      have hsn : -4000000000000 ≤ soon P r[m] (earS P (r.take m)) ∧ soon P r[m] (earS P (r.take m)) ≤ 4000000000000 := by
        have h1 := earS_spbd HG.out (HT.out.take (m + 1)) r[m] hir
        rw [hst, upS_same] at h1
        exact ⟨h1.1, h1.2.1⟩
      obtain ⟨c0, ec0⟩ : ∃ c0, wr.cell? ⟨c0, m, none⟩ = some (.int .i64 ((r[m] : Nat) : Int)) ∧ ua = some ⟨c0, 0, none⟩ := by
        rcases hE.own.2 with ⟨e, e0⟩ | ⟨g, cap, cur, e, _⟩
        · omega
        · obtain ⟨rfl, rfl⟩ : ua = some ⟨g, 0, none⟩ ∧ uc = cap := by simpa using e
          exact ⟨g, (hE.own.cellAt m (by omega)).trans (nV_at r m hlt), rfl⟩
      obtain ⟨hcm, rfl⟩ := ec0
      obtain ⟨g, o, lv, uv, rfl, y0, y1, y2, y3, hls, hus⟩ := HALL.out r[m] hir
      obtain ⟨la, lc, rfl, _⟩ := hls
      obtain ⟨ua', uc', rfl, _⟩ := hus
      have hlen := HG.out.len r[m] hir
      have KS := hide (fun (W : World) (hb : Below w.heap.size w W) (hs : SpR w.heap.size P.length (earS P (r.take m)) W) => soonest_any HG.out r[m] hir (earS P (r.take m)) hbd _ w.heap.size P.length W (HV.out.below hb) hs.at)
      have h4 : Tk4 ⟨g, o + r[m] * 4, none⟩ (tk P r[m]).len (tk P r[m]).nb (.slice la (tk P r[m]).links.length lc) (.slice ua' (tk P r[m]).uses.length uc') wr := Tk4.step (X := w) ⟨y0, y1, y2, y3⟩ (hE.b)
      have KP := hide (fun W => place_any (.slice la (tk P r[m]).links.length lc) (.int .i64 (tk P r[m]).nb) (.slice la (tk P r[m]).links.length lc) (.slice ua' (tk P r[m]).uses.length uc') (tk P r[m]).len (soon P r[m] (earS P (r.take m))) W hsn hlen)
      have hii : ((r[m] : Nat) : Int) < (P.length : Int) := by omega
      clear y0 y1 y2 y3 hbd
      have HE := hide hE
      have hplc : plc P r[m] (soon P r[m] (earS P (r.take m))) = (soon P r[m] (earS P (r.take m)), soon P r[m] (earS P (r.take m)) + (tk P r[m]).len) := rfl
      rw [hplc] at hst
      clear hplc hE
      generalize soon P r[m] (earS P (r.take m)) = sv at *
      generalize earS P (r.take m) = s at *
      generalize (tk P r[m]).links.length = ln at *
      generalize (tk P r[m]).uses.length = un at *
      generalize (tk P r[m]).len = tl at *
      generalize (tk P r[m]).nb = tn at *
      generalize r[m] = i at *
      go_wp2_with fail
      have hS : Tk4 ⟨g, o + i * 4, none⟩ tl tn (.slice la ln lc) (.slice ua' un uc') wr.drew ∧ EaS w P.length s base (.slice (some ⟨c0, 0, none⟩) r.length uc) r wr.drew := ⟨h4.step (Below.drew (Below.refl _ wr)), HE.out.step (Below.drew (Below.refl _ wr))⟩
      clear h4 HE hcm
      refine wp_region_noPanic ?_
      refine wp_region_linGM (S := fun X => Tk4 ⟨g, o + i * 4, none⟩ tl tn (.slice la ln lc) (.slice ua' un uc') X ∧ EaS w P.length s base (.slice (some ⟨c0, 0, none⟩) r.length uc) r X) (R := fun _ => True) [12] (by kernel_rfl) (by kernel_rfl) [(0, none, 1), (1, none, 1), (2, none, 1), (3, none, 1), (4, none, 1), (5, none, 0), (6, none, 1), (7, none, 1), (8, none, 1), (9, none, 2), (10, none, 2), (11, none, 1), (12, none, 3)] (by kernel_rfl) (by kernel_rfl) (fun _ _ _ _ _ h => h) (by exact trivial) (by exact hS) (fun ops' Q' hops hQ' => ?_)
      refine wpLinG_pure (o := { dst := some 16, op := Go.Op.move (Go.Operand.tmp 3), type := 23, pos := "times.go:42", after := #[], guard := none }) (v := ?vx0) (by rw [hops]; rfl) (by first | exact trivial | rfl) ?ex0 ?hx0
      case ex0 => intro w'; go_simp; (try rfl)
      (try simp only [Act.put, List.setIfInBounds_toArray, List.set_cons_zero, List.set_cons_succ])
      refine wpLinG_pure (o := { dst := some 17, op := Go.Op.move (Go.Operand.tmp 5), type := 3, pos := "times.go:42", after := #[], guard := none }) (v := ?vx1) (by rw [hops]; rfl) (by first | exact trivial | rfl) ?ex1 ?hx1
      case ex1 => intro w'; go_simp; (try rfl)
      (try simp only [Act.put, List.setIfInBounds_toArray, List.set_cons_zero, List.set_cons_succ])
      refine wpLinG_pure (o := { dst := some 18, op := Go.Op.move (Go.Operand.tmp 0), type := 22, pos := "times.go:42", after := #[], guard := none }) (v := ?vx2) (by rw [hops]; rfl) (by first | exact trivial | rfl) ?ex2 ?hx2
      case ex2 => intro w'; go_simp; (try rfl)
      (try simp only [Act.put, List.setIfInBounds_toArray, List.set_cons_zero, List.set_cons_succ])
      refine wpLinG_pure (o := { dst := some 19, op := Go.Op.move (Go.Operand.tmp 5), type := 3, pos := "times.go:42", after := #[], guard := none }) (v := ?vx3) (by rw [hops]; rfl) (by first | exact trivial | rfl) ?ex3 ?hx3
      case ex3 => intro w'; go_simp; (try rfl)
      (try simp only [Act.put, List.setIfInBounds_toArray, List.set_cons_zero, List.set_cons_succ])
      refine wpLinG_pure (o := { dst := some 20, op := Go.Op.indexAddr 22 (Go.Operand.tmp 18) (Go.Operand.tmp 19), type := 0, pos := "times.go:42", after := #[{ on := 2, ground := Go.Ground.data }, { on := 3, ground := Go.Ground.data }], guard := none }) (v := ?vx4) (by rw [hops]; rfl) (by first | exact trivial | rfl) ?ex4 ?hx4
      case ex4 => intro w'; go_simp; (try rfl)
      (try simp only [Act.put, List.setIfInBounds_toArray, List.set_cons_zero, List.set_cons_succ])
      refine wpLinG_read (o := { dst := some 21, op := Go.Op.load 45 (Go.Operand.tmp 20), type := 45, pos := "times.go:42", after := #[{ on := 4, ground := Go.Ground.data }], guard := none }) (v := ?vx5) (by rw [hops]; rfl) (by first | exact trivial | rfl) hS ?ex5 ?hx5
      case ex5 => intro w' hw'; obtain ⟨⟨c0, c1, c2, c3⟩, _⟩ := hw'; go_simp; (try rfl)
      (try simp only [Act.put, List.setIfInBounds_toArray, List.set_cons_zero, List.set_cons_succ])
      refine wpLinG_pure (o := { dst := some 22, op := Go.Op.move (Go.Operand.tmp 0), type := 22, pos := "times.go:42", after := #[], guard := none }) (v := ?vx6) (by rw [hops]; rfl) (by first | exact trivial | rfl) ?ex6 ?hx6
      case ex6 => intro w'; go_simp; (try rfl)
      (try simp only [Act.put, List.setIfInBounds_toArray, List.set_cons_zero, List.set_cons_succ])
      refine wpLinG_pure (o := { dst := some 23, op := Go.Op.move (Go.Operand.tmp 5), type := 3, pos := "times.go:42", after := #[], guard := none }) (v := ?vx7) (by rw [hops]; rfl) (by first | exact trivial | rfl) ?ex7 ?hx7
      case ex7 => intro w'; go_simp; (try rfl)
      (try simp only [Act.put, List.setIfInBounds_toArray, List.set_cons_zero, List.set_cons_succ])
      refine wpLinG_pure (o := { dst := some 24, op := Go.Op.move (Go.Operand.tmp 3), type := 23, pos := "times.go:42", after := #[], guard := none }) (v := ?vx8) (by rw [hops]; rfl) (by first | exact trivial | rfl) ?ex8 ?hx8
      case ex8 => intro w'; go_simp; (try rfl)
      (try simp only [Act.put, List.setIfInBounds_toArray, List.set_cons_zero, List.set_cons_succ])
      refine wpLinG_do (o := { dst := some 25, op := Go.Op.call { callee := Go.Callee.value (Go.Operand.func 56), args := #[Go.Operand.tmp 22, Go.Operand.tmp 23, Go.Operand.tmp 24], argTypes := #[22, 3, 23] }, type := 3, pos := "times.go:42", after := #[{ on := 6, ground := Go.Ground.data }, { on := 7, ground := Go.Ground.data }, { on := 8, ground := Go.Ground.data }], guard := none }) (by rw [hops]; rfl) (by first | exact trivial | rfl) (fun K hK => ?_)
      go_simp
      refine (KS.out _ hS.2.b hS.2.sp).mono ?_
      rintro e X1 ⟨rfl, hb⟩
      replace hS := And.intro (hS.1.step hb) (hS.2.step hb)
      clear hb
      refine hK _ _ trivial hS ?_
      clear hK K
      (try simp only [Act.put, List.setIfInBounds_toArray, List.set_cons_zero, List.set_cons_succ])
      refine wpLinG_do (o := { dst := some 26, op := Go.Op.call { callee := Go.Callee.value (Go.Operand.func 55), args := #[Go.Operand.tmp 21, Go.Operand.tmp 25], argTypes := #[45, 3] }, type := 37, pos := "times.go:42", after := #[{ on := 5, ground := Go.Ground.data }, { on := 9, ground := Go.Ground.data }, { on := 9, ground := Go.Ground.chain }], guard := none }) (by rw [hops]; rfl) (by first | exact trivial | rfl) (fun K hK => ?_)
      go_simp
      refine (KP.out _).mono ?_
      rintro e X2 ⟨rfl, hb⟩
      replace hS := And.intro (hS.1.step hb) (hS.2.step hb)
      clear hb
      refine hK _ _ trivial hS ?_
      clear hK K
      (try simp only [Act.put, List.setIfInBounds_toArray, List.set_cons_zero, List.set_cons_succ])
      refine wpLinG_pure (o := { dst := some 27, op := Go.Op.indexAddr 23 (Go.Operand.tmp 16) (Go.Operand.tmp 17), type := 0, pos := "times.go:42", after := #[{ on := 0, ground := Go.Ground.data }, { on := 1, ground := Go.Ground.data }, { on := 0, ground := Go.Ground.phase }, { on := 1, ground := Go.Ground.phase }, { on := 2, ground := Go.Ground.phase }, { on := 3, ground := Go.Ground.phase }, { on := 4, ground := Go.Ground.phase }, { on := 5, ground := Go.Ground.phase }, { on := 6, ground := Go.Ground.phase }, { on := 7, ground := Go.Ground.phase }, { on := 8, ground := Go.Ground.phase }, { on := 9, ground := Go.Ground.phase }, { on := 10, ground := Go.Ground.phase }], guard := none }) (v := ?vx11) (by rw [hops]; rfl) (by first | exact trivial | rfl) ?ex11 ?hx11
      case ex11 => intro w'; go_simp; (try rfl)
      (try simp only [Act.put, List.setIfInBounds_toArray, List.set_cons_zero, List.set_cons_succ])
      refine wpLinG_store (o := { dst := none, op := Go.Op.store 37 (Go.Operand.tmp 27) (Go.Operand.tmp 26), type := 0, pos := "times.go:42", after := #[{ on := 11, ground := Go.Ground.data }, { on := 10, ground := Go.Ground.data }, { on := 10, ground := Go.Ground.chain }, { on := 0, ground := Go.Ground.phase }, { on := 1, ground := Go.Ground.phase }, { on := 2, ground := Go.Ground.phase }, { on := 3, ground := Go.Ground.phase }, { on := 4, ground := Go.Ground.phase }, { on := 5, ground := Go.Ground.phase }, { on := 6, ground := Go.Ground.phase }, { on := 7, ground := Go.Ground.phase }, { on := 8, ground := Go.Ground.phase }, { on := 9, ground := Go.Ground.phase }, { on := 10, ground := Go.Ground.phase }], guard := none }) (by rw [hops]; rfl) (by first | exact trivial | rfl) (fun K hK => ?_)
      go_simp
      have hcx := (hS.2.sp.at i hir).1
      have hcy := (hS.2.sp.at i hir).2
      have hfx := hS.2.sp.froz (i * 2)
      have hfy := hS.2.sp.froz (i * 2 + 1)
      go_simp
      refine hK _ _ trivial ?_
      clear hK K
      (try simp only [Act.put, List.setIfInBounds_toArray, List.set_cons_zero, List.set_cons_succ])
      subst hQ'
      refine NoPanic.normal ?_
      have hSE := hS.2.set hqb i hir sv (sv + tl)
      clear hops
      go_wp2
      exact ⟨⟨m + 1, by omega, by go_num, by rw [hst]; exact hSE⟩, by simp [intOf]; omega⟩
    · obtain rfl : m = r.length := by omega
      rw [List.take_length] at hE
      have HE := hide hE
      clear hE
      go_wp2_with fail
      go_ret
      exact ⟨_, rfl, Nat.le_refl _, by rw [hr]; exact HE.out.sp, by rw [hr]; exact HT.out, HE.out.b⟩
end Go.Proofs.YtjmjabdokckdlaaDoor
