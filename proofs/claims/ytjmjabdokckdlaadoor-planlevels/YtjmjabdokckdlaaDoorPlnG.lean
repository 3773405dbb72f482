/- plan: late. (Written by gen/plng.py.) -/
import Derived.Test.YtjmjabdokckdlaaDoorPlnF
namespace Go.Proofs.YtjmjabdokckdlaaDoor
open Go.RowKit Go.Shelf
set_option linter.unusedVariables false
set_option linter.unusedSimpArgs false
attribute [local go_sem] Oper.semAt_some

/-- what late keeps -/
structure LaW (w : World) (p : Nat) (v : Value) (n : Nat) (s : Sp) (W : World) : Prop where
  bl : Boxed W w.heap.size 22 v
  bs : Boxed W p 23 (.slice (some ⟨w.heap.size + 1, 0, none⟩) n n)
  sp : SpR (w.heap.size + 1) n s W
  b : Below w.heap.size w W
theorem LaW.step {w : World} {p : Nat} {v : Value} {n : Nat} {s : Sp} {W W' : World} (h : LaW w p v n s W) (hb : Below W.heap.size W W') : LaW w p v n s W' :=
  ⟨(hb.block _ h.bl.lt).trans h.bl, (hb.block _ h.bs.lt).trans h.bs, h.sp.step hb, h.b.trans (hb.mono h.b.size)⟩
theorem LaW.set {w : World} {p : Nat} {v : Value} {n : Nat} {s : Sp} {W : World} (h : LaW w p v n s W) (hp : p ≠ w.heap.size + 1) (t : Nat) (ht : t < n) (a b : Int) : LaW w p v n (upS s t (a, b)) ((W.setCell ⟨w.heap.size + 1, t * 2, none⟩ (.int .i64 a)).setCell ⟨w.heap.size + 1, t * 2 + 1, none⟩ (.int .i64 b)) := by
  have e : ∀ k, k ≠ w.heap.size + 1 → ((W.setCell ⟨w.heap.size + 1, t * 2, none⟩ (.int .i64 a)).setCell ⟨w.heap.size + 1, t * 2 + 1, none⟩ (.int .i64 b)).heap[k]? = W.heap[k]? := fun k hk => (Below.heap_setCell _ _ _ k hk).trans (Below.heap_setCell _ _ _ k hk)
  exact ⟨(e _ (by omega)).trans h.bl, (e _ hp).trans h.bs, h.sp.set t ht a b, (h.b.setCell (by show _ ≤ w.heap.size + 1; omega) _).setCell (by show _ ≤ w.heap.size + 1; omega) _⟩
theorem LaW.congr {w : World} {p : Nat} {v : Value} {n : Nat} {s s' : Sp} {W : World} (h : LaW w p v n s W) (hs : ∀ u, u < n → s' u = s u) : LaW w p v n s' W := ⟨h.bl, h.bs, h.sp.congr hs, h.b⟩
/-- the first m are as late as they could be without links -/
def latP (P : List Tk) (b : Int) (m : Nat) : Sp := fun j => if j < m then latI P b j else (0, 0)
theorem latP_succ (P : List Tk) (b : Int) (m : Nat) : latP P b (m + 1) = upS (latP P b m) m (plc P m (b - (tk P m).len)) := by
  funext j
  unfold latP upS latI
  by_cases e : j = m
  · subst e; rw [if_pos (by omega), if_pos rfl]
  · rw [if_neg e]
    by_cases h : j < m
    · dsimp only; rw [if_pos (by omega), if_pos h]
    · dsimp only; rw [if_neg (by omega), if_neg h]
/-- spans of the tasks' lengths, between two bounds -/
def LB (P : List Tk) (lo b : Int) (s : Sp) : Prop := ∀ j, lo ≤ (s j).1 ∧ (s j).1 ≤ b ∧ (s j).2 = (s j).1 + (tk P j).len
theorem LB.mono {P : List Tk} {lo lo' b : Int} {s : Sp} (h : LB P lo b s) (hl : lo' ≤ lo) : LB P lo' b s := fun j => ⟨Int.le_trans hl (h j).1, (h j).2⟩
theorem tk_out (P : List Tk) (j : Nat) (h : ¬ j < P.length) : tk P j = ⟨0, 0, [], []⟩ := by unfold tk; rw [List.getD_eq_getElem?_getD, List.getElem?_eq_none (by omega)]; rfl
theorem len_any {P : List Tk} (h : Good P) (j : Nat) : 0 ≤ (tk P j).len ∧ (tk P j).len ≤ 1000000 := by
  by_cases hj : j < P.length
  · exact h.len j hj
  · rw [tk_out P j hj]; exact ⟨Int.le_refl _, by decide⟩
theorem latI_lb {P : List Tk} (h : Good P) (b : Int) : LB P (b - 1000000) b (latI P b) := fun j => by
  have := len_any h j
  unfold latI plc
  dsimp only
  exact ⟨by omega, by omega, rfl⟩
theorem latL_lb {P : List Tk} (h : Good P) (i : Nat) (hi : i < P.length) (lo b : Int) : ∀ (l : List Lk) (u : Sp), (∀ x ∈ l, x ∈ (tk P i).links) → lo ≤ (u i).1 → LB P (lo - 2000000) b u → LB P (lo - 2000000) b (latL P i u l)
  | [], u, _, _, h2 => h2
  | x :: l, u, hl, h1, h2 => by
    have hne : x.t.toNat ≠ i := by have := h.link i hi x (hl x (by simp)); omega
    refine latL_lb h i hi lo b l (lat1 P i u x) (fun y hy => hl y (by simp [hy])) ?_ (fun j => ?_)
    · unfold lat1; rw [upS_other _ _ _ _ (fun e => hne e.symm)]; exact h1
    · unfold lat1 upS
      split
      · rename_i e
        have a1 := h2 x.t.toNat
        have a2 := h.gp i hi x (hl x (by simp))
        subst e
        unfold plc; dsimp only
        exact ⟨by omega, by omega, rfl⟩
      · exact h2 j
theorem latF_lb {P : List Tk} (h : Good P) (lo b : Int) : ∀ (q : List Nat) (s : Sp), (∀ i ∈ q, i < P.length) → LB P lo b s → LB P (lo - 2000000 * q.length) b (q.foldl (latT P) s)
  | [], s, _, hs => by simpa using hs
  | i :: q, s, hq, hs => by
    have := latF_lb h (lo - 2000000) b q (latT P s i) (fun k hk => hq k (by simp [hk])) (latL_lb h i (hq i (by simp)) lo b _ s (fun _ hx => hx) (hs i).1 (hs.mono (by omega)))
    rw [List.foldl_cons]
    have e : ((i :: q).length : Int) = q.length + 1 := by simp
    rw [e]
    exact this.mono (by omega)
theorem latL_take (P : List Tk) (i : Nat) (s : Sp) (l : List Lk) (m : Nat) (h : m < l.length) : latL P i s (l.take (m + 1)) = lat1 P i (latL P i s (l.take m)) (lk l m) := by
  unfold latL
  rw [List.take_succ_eq_append_getElem h, List.foldl_append, lk_at l m h]; rfl
/-- the state behind some rounds -/
def stS (P : List Tk) (b : Int) (r : List Nat) (pre : List (Fin r.length)) : Sp := (pre.map fun k => r[k.1]).foldl (latT P) (latI P b)
theorem stS_snoc (P : List Tk) (b : Int) (r : List Nat) (pre : List (Fin r.length)) (k : Fin r.length) : stS P b r (pre ++ [k]) = latT P (stS P b r pre) r[k.1] := by
  unfold stS; rw [List.map_append, List.foldl_append]; rfl
theorem stS_all (P : List Tk) (b : Int) (r : List Nat) (xs : List (Fin r.length)) (h : xs.map (·.1) = bkN r.length r.length) : stS P b r xs = latS P b r := by
  have e : (xs.map fun k => r[k.1]) = r.reverse := by
    have e1 : (xs.map fun k => r[k.1]) = (xs.map (·.1)).map fun k => r.getD k 0 := by
      rw [List.map_map]
      apply List.map_congr_left
      intro k _
      show r[k.1] = r.getD k.1 0
      rw [List.getD_eq_getElem?_getD, List.getElem?_eq_getElem k.2]; rfl
    rw [e1, h, bkN_vals r _ (Nat.le_refl _), List.take_of_length_le (by rw [List.length_reverse]; exact Nat.le_refl _)]
  unfold stS latS
  rw [e]
theorem stS_lb {P : List Tk} (h : Good P) (b : Int) (r : List Nat) (hr : Topo P r) (pre : List (Fin r.length)) (hl : pre.length < r.length) : LB P (b - 1000000 - 2000000 * 60) b (stS P b r pre) := by
  have h1 := hr.le
  have h2 := h.n60
  refine (latF_lb h (b - 1000000) b (pre.map fun k => r[k.1]) _ (fun i hi => ?_) (latI_lb h b)).mono ?_
  · obtain ⟨k, _, rfl⟩ := List.mem_map.1 hi
    exact hr.lt _ (List.getElem_mem k.2)
  · rw [List.length_map]; omega
/-- a task's box -/
structure TkB (B : Nat) (a b : Int) (c d : Value) (X : World) : Prop where
  c0 : X.cell? ⟨B, 0, none⟩ = some (.int .i64 a)
  c1 : X.cell? ⟨B, 1, none⟩ = some (.int .i64 b)
  c2 : X.cell? ⟨B, 2, none⟩ = some c
  c3 : X.cell? ⟨B, 3, none⟩ = some d
theorem TkB.step {B : Nat} {a b : Int} {c d : Value} {X X' : World} (h : TkB B a b c d X) (hb : Below X.heap.size X X') : TkB B a b c d X' :=
  have e {p : Addr} {v : Value} (e : X.cell? p = some v) : X'.cell? p = some v := (hb.cell (World.block_lt_of_cell? X _ e)).trans e
  ⟨e h.c0, e h.c1, e h.c2, e h.c3⟩
theorem TkB.new (X : World) (a b : Int) (c d : Value) : TkB X.heap.size a b c d (X.alloc (.cells #[.int .i64 a, .int .i64 b, c, d] 45)) := ⟨by simp, by simp, by simp, by simp⟩
/-- all blocks but q are as they were -/
structure KQ (q : Nat) (W X : World) : Prop where
  z : W.heap.size ≤ X.heap.size
  k : ∀ k, k < W.heap.size → k ≠ q → X.heap[k]? = W.heap[k]?
theorem KQ.refl (q : Nat) (W : World) : KQ q W W := ⟨Nat.le_refl _, fun _ _ _ => rfl⟩
theorem KQ.step {q : Nat} {W X X' : World} (h : KQ q W X) (hb : Below X.heap.size X X') : KQ q W X' := ⟨Nat.le_trans h.z hb.size, fun k hk hq => (hb.block k (Nat.lt_of_lt_of_le hk h.z)).trans (h.k k hk hq)⟩
theorem KQ.set {q : Nat} {W X : World} (h : KQ q W X) (j : Nat) (v : Value) : KQ q W (X.setCell ⟨q, j, none⟩ v) := ⟨by simpa using h.z, fun k hk hq => (Below.heap_setCell _ _ _ k hq).trans (h.k k hk hq)⟩
theorem KQ.kp {q n : Nat} {W X : World} (h : KQ q W X) (hn : n ≤ W.heap.size) : KpQ q n W X := ⟨h.z, fun k hk hq => h.k k (Nat.lt_of_lt_of_le hk hn) hq⟩
theorem KQ.from {q B : Nat} {W X : World} (h : KQ q W X) (hq : q < B) : KeepsFrom B W X := ⟨h.z, fun k o hB ho _ => (h.k k (Array.getElem?_eq_some_iff.1 ho).1 (by omega)).trans ho⟩
theorem min_if (a b : Int) : (if b < a then b else a) = min a b := by split <;> omega
/-- what stands about a link -/
structure LtS (w : World) (p : Nat) (v : Value) (n : Nat) (s : Sp) (z1 t : Nat) (k g : Int) (z2 : Nat) (tl tn : Int) (tc td : Value) (ai : Addr) (li : Int) (W0 : World) (X : World) : Prop where
  l0 : X.cell? ⟨z1, 0, none⟩ = some (.int .i64 (t : Int))
  l1 : X.cell? ⟨z1, 1, none⟩ = some (.int .i64 k)
  l2 : X.cell? ⟨z1, 2, none⟩ = some (.int .i64 g)
  tb : TkB z2 tl tn tc td X
  ci : X.cell? ai = some (.int .i64 li)
  la : LaW w p v n s X
  kq : KQ (w.heap.size + 1) W0 X
theorem LtS.step {w : World} {p : Nat} {v : Value} {n : Nat} {s : Sp} {z1 t : Nat} {k g : Int} {z2 : Nat} {tl tn : Int} {tc td : Value} {ai : Addr} {li : Int} {W0 X X' : World} (h : LtS w p v n s z1 t k g z2 tl tn tc td ai li W0 X) (hb : Below X.heap.size X X') : LtS w p v n s z1 t k g z2 tl tn tc td ai li W0 X' :=
  have e {p : Addr} {v : Value} (e : X.cell? p = some v) : X'.cell? p = some v := (hb.cell (World.block_lt_of_cell? X _ e)).trans e
  ⟨e h.l0, e h.l1, e h.l2, h.tb.step hb, e h.ci, h.la.step hb, h.kq.step hb⟩
set_option maxRecDepth 100000 in
set_option maxHeartbeats 16000000 in
theorem late_in (n : Nat) (hn : 3 ≤ n) {P : List Tk} (hG : Good P) (b : Int) (hb0 : 0 ≤ b) (hb1 : b ≤ 1099511627776) (v : Value) (w : World) (hv : TsAt w v P) :
    CallsIn Fence.wide n Tryd.prog 43 #[v, .int .i64 b] w fun e w' => ∃ q, e = .returned (.slice (some ⟨q, 0, none⟩) P.length P.length) ∧ w.heap.size ≤ q ∧ SpR q P.length (latS P b (ord P)) w' ∧ Below w.heap.size w w' := by
  have hv' := hv
  obtain ⟨ad, cap, rfl, hall⟩ := hv
  have HV := hide hv'
  have HALL := hide hall
  have h60 := hG.n60
  have HG := hide hG
  have KO := hide (fun W (hb : Below w.heap.size w W) => callsIn_wide (n := n - 1).2 (order_any hG _ W (hv'.below hb)))
  have KB := hide (fun (u : Value) (W : World) (hu : ∃ a l c, u = .slice a l c) => callsIn_wide (n := n - 1).2 (backward_any u W hu))
  have g1 : Fence.wide.fn 48 := trivial
  have g2 : Fence.wide.fn 61 := trivial
  have h1 : 1 ≤ n := by omega
  clear hall hG hv'
  obtain ⟨i0, hi, hz0, hz1, hz2⟩ := info_parts span_info
  have hx0 := Boxed.new w 22 (.slice ad P.length cap)
  have c0 := hx0.cell
  have hbb : Below w.heap.size w (w.alloc (.cells #[.slice ad P.length cap] 22)) := (Below.refl _ w).alloc (Nat.le_refl _) _
  have HX := hide (And.intro hx0 hbb)
  clear hx0 hbb
  refine callsIn_of_wp_marks Tryd.func43 rfl trivial ?_ rfl
  simp only [Tryd.ntmps43, List.size_toArray, List.length_cons, List.length_nil, Nat.reduceAdd, Nat.reduceSub, Array.replicate_succ, Array.replicate_zero, List.push_toArray, List.append_toArray, List.nil_append, List.cons_append]
  obtain ⟨W1, hrun, hown, hgrow⟩ := run_make_full (P := Tryd.prog) (w := w.alloc (.cells #[.slice ad P.length cap] 22)) (w.heap.size + 1) 23 37 i0 (.agg #[.int .i64 0, .int .i64 0]) 2 Tryd.underlying23 hi hz0 hz1 .i64 .i64 P.length (by rw [hz2]; omega) (by unfold maxLen; omega) (by simp)
  simp only [World.size_alloc] at hrun hown
  have hs0 := made_sp hown
  have hb2 : Below w.heap.size w W1 := HX.out.2.grown hgrow (by simp) (fun k hk => by cases hk)
  have hz3 : w.heap.size + 2 ≤ W1.heap.size := by have := hs0.lt; omega
  have hL1 : LaW w W1.heap.size (.slice ad P.length cap) P.length (latP P b 0) (W1.alloc (.cells #[.slice (some ⟨w.heap.size + 1, 0, none⟩) P.length P.length] 23)) := by
    have hbl : Boxed W1 w.heap.size 22 (.slice ad P.length cap) := (hgrow.block _ (by simp) (fun h => by cases h)).trans HX.out.1
    have hbs := Boxed.new W1 23 (.slice (some ⟨w.heap.size + 1, 0, none⟩) P.length P.length)
    have hn1 : Below W1.heap.size W1 (W1.alloc (.cells #[.slice (some ⟨w.heap.size + 1, 0, none⟩) P.length P.length] 23)) := (Below.refl _ W1).alloc (Nat.le_refl _) _
    exact ⟨(hn1.block _ (by omega)).trans hbl, hbs, (hs0.congr (fun u hu => by unfold latP; rw [if_neg (Nat.not_lt_zero _)])).step hn1, hb2.trans (hn1.mono hb2.size)⟩
  have hbl1 : Boxed W1 w.heap.size 22 (.slice ad P.length cap) := (hgrow.block _ (by simp) (fun h => by cases h)).trans HX.out.1
  have c1 := hbl1.cell
  have hlt0 : w.heap.size < W1.heap.size := by omega
  have HL1 := hide hL1
  clear hown hgrow hs0 hb2 hL1 hbl1
  gi_wp2
  clear hrun c0 c1 HX
  generalize hp : W1.heap.size = p at *
  have hpq : p ≠ w.heap.size + 1 := by omega
  gi_loopw [19] (fun j wr => ∃ m : Nat, m ≤ P.length ∧ j = .int .i64 m ∧ LaW w p (.slice ad P.length cap) P.length (latP P b m) wr) (fun j _ => P.length - (intOf j).toNat)
  case atStart => exact ⟨0, by omega, rfl, HL1.out⟩
  case round =>
    clear HL1
    obtain ⟨m, hm, rfl, hL⟩ := hrel
    by_cases hlt : m < P.length
    · have hmi : (m : Int) < (P.length : Int) := by omega
      obtain ⟨g, o, lv, uv, rfl, y0, y1, y2, y3, hls, hus⟩ := HALL.out m hlt
      obtain ⟨la, lc, rfl, _⟩ := hls
      obtain ⟨ua, uc, rfl, _⟩ := hus
      have h4 : Tk4 ⟨g, o + m * 4, none⟩ (tk P m).len (tk P m).nb (.slice la (tk P m).links.length lc) (.slice ua (tk P m).uses.length uc) wr := Tk4.step (X := w) ⟨y0, y1, y2, y3⟩ hL.b
      have hlen := HG.out.len m hlt
      have hst := latP_succ P b m
      have KP := hide (fun W => place_any (.slice la (tk P m).links.length lc) (.int .i64 (tk P m).nb) (.slice la (tk P m).links.length lc) (.slice ua (tk P m).uses.length uc) (tk P m).len (b - (tk P m).len) W ⟨by omega, by omega⟩ hlen)
      have hplc : plc P m (b - (tk P m).len) = (b - (tk P m).len, b - (tk P m).len + (tk P m).len) := rfl
      rw [hplc] at hst
      have c0 := hL.bl.cell
      have c1 := hL.bs.cell
      obtain ⟨x0, x1, x2, x3⟩ := h4
      have hwr : Below w.heap.size w wr := hL.b
      have HL := hide hL
      have hN : Below wr.heap.size wr (wr.alloc (.cells #[.int .i64 (tk P m).len, .int .i64 (tk P m).nb, .slice la (tk P m).links.length lc, .slice ua (tk P m).uses.length uc] 45)) := (Below.refl _ wr).alloc (Nat.le_refl _) _
      have HN := hide hN
      have hi64 := i64_id (x := b - (tk P m).len) (by omega) (by omega)
      clear y0 y1 y2 y3 hL hN hplc
      generalize (tk P m).links.length = ln at *
      generalize (tk P m).uses.length = un at *
      generalize (tk P m).len = tl at *
      generalize (tk P m).nb = tn at *
      gi_wp2_with fail
      have hS : TkB wr.heap.size tl tn (.slice la ln lc) (.slice ua un uc) ((wr.alloc (.cells #[.int .i64 tl, .int .i64 tn, .slice la ln lc, .slice ua un uc] 45)).drew) ∧ LaW w p (.slice (some ⟨g, o, none⟩) P.length cap) P.length (latP P b m) ((wr.alloc (.cells #[.int .i64 tl, .int .i64 tn, .slice la ln lc, .slice ua un uc] 45)).drew) :=
        ⟨(TkB.new wr tl tn _ _).step (Below.drew (Below.refl _ _)), (HL.out.step HN.out).step (Below.drew (Below.refl _ _))⟩
      clear c0 c1 x0 x1 x2 x3 HL HN hwr
      generalize wr.heap.size = z at *
      generalize wr.alloc (.cells #[.int .i64 tl, .int .i64 tn, .slice la ln lc, .slice ua un uc] 45) = W2 at *
      refine wpIn_region_lin (S := fun X => TkB z tl tn (.slice la ln lc) (.slice ua un uc) X ∧ LaW w p (.slice (some ⟨g, o, none⟩) P.length cap) P.length (latP P b m) X) (R := fun _ => True) [9] (by kernel_rfl) (by kernel_rfl) [(0, none, 0), (1, none, 1), (2, none, 0), (3, none, 1), (4, none, 1), (5, none, 0), (6, none, 1), (7, none, 2), (8, none, 1), (9, none, 3)] (by kernel_rfl) (by kernel_rfl) (by exact trivial) (by exact hS) (fun ops' Q' hops hQ' => ?_)
      refine wpLinG_read (o := { dst := some 24, op := Go.Op.load 23 (Go.Operand.tmp 5), type := 23, pos := "times.go:51", after := #[], guard := none }) (v := ?vx0) (by rw [hops]; rfl) (by first | exact trivial | rfl) hS ?ex0 ?hx0
      case ex0 => intro w' hw'; obtain ⟨⟨c0, c1, c2, c3⟩, hla⟩ := hw'; have c4 := hla.bs.cell; go_simp; (try rfl)
      (try simp only [Act.put, List.setIfInBounds_toArray, List.set_cons_zero, List.set_cons_succ])
      refine wpLinG_pure (o := { dst := some 25, op := Go.Op.move (Go.Operand.tmp 6), type := 3, pos := "times.go:51", after := #[], guard := none }) (v := ?vx1) (by rw [hops]; rfl) (by first | exact trivial | rfl) ?ex1 ?hx1
      case ex1 => intro w'; go_simp; (try rfl)
      (try simp only [Act.put, List.setIfInBounds_toArray, List.set_cons_zero, List.set_cons_succ])
      refine wpLinG_read (o := { dst := some 26, op := Go.Op.load 45 (Go.Operand.tmp 7), type := 45, pos := "times.go:51", after := #[], guard := none }) (v := ?vx2) (by rw [hops]; rfl) (by first | exact trivial | rfl) hS ?ex2 ?hx2
      case ex2 => intro w' hw'; obtain ⟨⟨c0, c1, c2, c3⟩, hla⟩ := hw'; have c4 := hla.bs.cell; go_simp; (try rfl)
      (try simp only [Act.put, List.setIfInBounds_toArray, List.set_cons_zero, List.set_cons_succ])
      refine wpLinG_pure (o := { dst := some 27, op := Go.Op.move (Go.Operand.tmp 1), type := 3, pos := "times.go:51", after := #[], guard := none }) (v := ?vx3) (by rw [hops]; rfl) (by first | exact trivial | rfl) ?ex3 ?hx3
      case ex3 => intro w'; go_simp; (try rfl)
      (try simp only [Act.put, List.setIfInBounds_toArray, List.set_cons_zero, List.set_cons_succ])
      refine wpLinG_pure (o := { dst := some 28, op := Go.Op.fieldAddr 45 (Go.Operand.tmp 7) 0, type := 0, pos := "times.go:51", after := #[], guard := none }) (v := ?vx4) (by rw [hops]; rfl) (by first | exact trivial | rfl) ?ex4 ?hx4
      case ex4 => intro w'; go_simp; (try rfl)
      (try simp only [Act.put, List.setIfInBounds_toArray, List.set_cons_zero, List.set_cons_succ])
      refine wpLinG_read (o := { dst := some 29, op := Go.Op.load 3 (Go.Operand.tmp 28), type := 3, pos := "times.go:51", after := #[{ on := 4, ground := Go.Ground.data }], guard := none }) (v := ?vx5) (by rw [hops]; rfl) (by first | exact trivial | rfl) hS ?ex5 ?hx5
      case ex5 => intro w' hw'; obtain ⟨⟨c0, c1, c2, c3⟩, hla⟩ := hw'; have c4 := hla.bs.cell; go_simp; (try rfl)
      (try simp only [Act.put, List.setIfInBounds_toArray, List.set_cons_zero, List.set_cons_succ])
      refine wpLinG_pure (o := { dst := some 30, op := Go.Op.binOp Go.BinOp.sub 3 (Go.Operand.tmp 27) (Go.Operand.tmp 29) 3, type := 3, pos := "times.go:51", after := #[{ on := 3, ground := Go.Ground.data }, { on := 5, ground := Go.Ground.data }], guard := none }) (v := ?vx6) (by rw [hops]; rfl) (by first | exact trivial | rfl) ?ex6 ?hx6
      case ex6 => intro w'; go_simp; (try rfl)
      (try simp only [Act.put, List.setIfInBounds_toArray, List.set_cons_zero, List.set_cons_succ])
      refine wpLinG_do (o := { dst := some 31, op := Go.Op.call { callee := Go.Callee.value (Go.Operand.func 55), args := #[Go.Operand.tmp 26, Go.Operand.tmp 30], argTypes := #[45, 3] }, type := 37, pos := "times.go:51", after := #[{ on := 2, ground := Go.Ground.data }, { on := 6, ground := Go.Ground.data }], guard := none }) (by rw [hops]; rfl) (by first | exact trivial | rfl) (fun K hK => ?_)
      go_simp
      refine (KP.out _).mono ?_
      rintro e X ⟨rfl, hb⟩
      replace hS := And.intro (hS.1.step hb) (hS.2.step hb)
      clear hb
      refine hK _ _ trivial hS ?_
      clear hK K
      (try simp only [Act.put, List.setIfInBounds_toArray, List.set_cons_zero, List.set_cons_succ])
      refine wpLinG_pure (o := { dst := some 32, op := Go.Op.indexAddr 23 (Go.Operand.tmp 24) (Go.Operand.tmp 25), type := 0, pos := "times.go:51", after := #[{ on := 0, ground := Go.Ground.data }, { on := 1, ground := Go.Ground.data }, { on := 0, ground := Go.Ground.phase }, { on := 1, ground := Go.Ground.phase }, { on := 2, ground := Go.Ground.phase }, { on := 3, ground := Go.Ground.phase }, { on := 4, ground := Go.Ground.phase }, { on := 5, ground := Go.Ground.phase }, { on := 6, ground := Go.Ground.phase }, { on := 7, ground := Go.Ground.phase }], guard := none }) (v := ?vx8) (by rw [hops]; rfl) (by first | exact trivial | rfl) ?ex8 ?hx8
      case ex8 => intro w'; go_simp; (try rfl)
      (try simp only [Act.put, List.setIfInBounds_toArray, List.set_cons_zero, List.set_cons_succ])
      refine wpLinG_store (o := { dst := none, op := Go.Op.store 37 (Go.Operand.tmp 32) (Go.Operand.tmp 31), type := 0, pos := "times.go:51", after := #[{ on := 8, ground := Go.Ground.data }, { on := 7, ground := Go.Ground.data }, { on := 7, ground := Go.Ground.chain }, { on := 0, ground := Go.Ground.phase }, { on := 1, ground := Go.Ground.phase }, { on := 2, ground := Go.Ground.phase }, { on := 3, ground := Go.Ground.phase }, { on := 4, ground := Go.Ground.phase }, { on := 5, ground := Go.Ground.phase }, { on := 6, ground := Go.Ground.phase }, { on := 7, ground := Go.Ground.phase }], guard := none }) (by rw [hops]; rfl) (by first | exact trivial | rfl) (fun K hK => ?_)
      go_simp
      have hcx := (hS.2.sp.at m hlt).1
      have hcy := (hS.2.sp.at m hlt).2
      have hfx := hS.2.sp.froz (m * 2)
      have hfy := hS.2.sp.froz (m * 2 + 1)
      go_simp
      refine hK _ _ trivial ?_
      clear hK K
      (try simp only [Act.put, List.setIfInBounds_toArray, List.set_cons_zero, List.set_cons_succ])
      subst hQ'
      refine NoPO.normal ?_
      have hSE := hS.2.set hpq m hlt (b - tl) (b - tl + tl)
      rw [← hst, show b - tl + tl = b by omega] at hSE
      clear hops
      gi_wp2
      go_roundw
      case rel => exact ⟨m + 1, by omega, by go_num, hSE⟩
      case measure => simp [intOf]; omega
    · obtain rfl : m = P.length := by omega
      have hLI := hL.congr (s' := latI P b) (fun u hu => by unfold latP; rw [if_pos hu])
      have c0 := hLI.bl.cell
      have HI := hide hLI
      clear hL hLI
      gi_wp2_with (first
        | (gi_at_call 48; refine (KO.out _ HI.out.b).mono ?_; rintro e W2 ⟨u, rfl, ho, hT, hb⟩; have hL2 := hide (HI.out.step hb); have hzb := HI.out.bs.lt; obtain ⟨ua, uc, rfl⟩ := (own_len ho).2; have HO := hide ho; have HT := hide hT; clear ho hb hT)
        | (gi_at_call 61; refine (KB.out _ _ ⟨_, _, _, rfl⟩).mono ?_; rintro e W3 ⟨rfl, rfl⟩))
      generalize hord : ord P = r at *
      have hrl := HT.out.le
      have hx3 : BkX (wr.heap.size + 1) W2.heap.size (.slice ua r.length uc) r (W2.alloc (.cells #[.slice ua r.length uc] 31)) := ⟨Boxed.new W2 31 (.slice ua r.length uc), own_bel HO.out ((Below.refl _ W2).alloc (Nat.le_refl _) _)⟩
      have hL3 := hL2.out.step ((Below.refl _ W2).alloc (Nat.le_refl _) (.cells #[.slice ua r.length uc] 31))
      have hz2 : p < W2.heap.size := hL2.out.bs.lt
      have hzw : w.heap.size + 1 < W2.heap.size := by omega
      clear HI c0 hL2
      generalize hW3 : W2.alloc (.cells #[.slice ua r.length uc] 31) = W3 at *
      have hz4 : W3.heap.size = W2.heap.size + 1 := by rw [← hW3]; simp
      clear hW3
      refine rf_two (r := r) (q := 9) h1 rfl (enters_of Tryd.func76 (by kernel_rfl) rfl)
        (bwd_stops (n - 1) (by omega) (wr.heap.size + 1) W2.heap.size (.slice ua r.length uc) r (by omega) (w.heap.size + 1) W3 hx3 (by omega) (by omega))
        KpQ.trans (fun W l o o' hl h _ _ => KpQ.of_put W l o o' hl h) (KpQ.refl _ _)
        (fun pre W => LaW w p (.slice ad P.length cap) P.length (stS P b r pre) W ∧ W3.heap.size ≤ W.heap.size) ?own ⟨hL3, Nat.le_refl _⟩ ?assign ?body ?done
      case own =>
        rintro pre X Y row ⟨hL, hz⟩ hg hr
        have hne : ∀ k, k < W3.heap.size → Y.heap[k]? = X.heap[k]? := fun k hk => hg.block k (by omega) (fun e => by have := (hr k e.symm).1; omega)
        refine ⟨⟨(hne _ (by omega)).trans hL.bl, (hne _ (by omega)).trans hL.bs, ?_, ?_⟩, Nat.le_trans hz hg.size⟩
        · obtain ⟨cur, h1, h2⟩ := hL.sp
          exact ⟨cur, (hne _ (by omega)).trans h1, h2⟩
        · exact hL.b.grown hg (by have := hL.b.size; omega) (fun j hj => by have := (hr j hj).1; omega)
      case assign =>
        rintro l pre k W K hi hK
        simp only [List.setIfInBounds_toArray, List.set_cons_succ, List.set_cons_zero] at hK ⊢
        gi_wp2
        exact hK
      case done =>
        rintro D xs W hD hxs ⟨hL, hz⟩ hK
        rw [stS_all P b r xs hxs] at hL
        have c1 := hL.bs.cell
        have HL := hide hL
        clear hL
        gi_wp2
        refine ⟨by simp, .inl ⟨_, _, rfl, run_takeDeferred hK, ?_⟩⟩
        have hg := grownBy_putObj' W D (.deferred none)
        refine ⟨.slice (some ⟨w.heap.size + 1, 0, none⟩) P.length P.length, ?_, w.heap.size + 1, rfl, by omega, ?_, HL.out.b.grown hg (by have := HL.out.b.size; omega) (fun j hj => by cases hj; omega)⟩
        · simp [results, Tryd.results43, go_sem]
        · rw [hord]
          exact HL.out.sp.grown hg (fun j hj => by cases hj; omega)
      case body =>
        rintro l pre k W ⟨hL, hz⟩ hlen
        simp only [List.setIfInBounds_toArray, List.set_cons_succ, List.set_cons_zero]
        have hir := HT.out.lt r[k.1] (List.getElem_mem k.2)
        have hsn := stS_snoc P b r pre k
        have hlb := stS_lb HG.out b r HT.out pre hlen
        obtain ⟨g, o, lv, uv, rfl, y0, y1, y2, y3, hls, hus⟩ := HALL.out r[k.1] hir
        obtain ⟨la, lc, rfl, hlx⟩ := hls
        have hlink := HG.out.link r[k.1] hir
        have hcnt := (HG.out.cnt r[k.1] hir).1
        have hlen' := HG.out.len r[k.1] hir
        have hgp := HG.out.gp r[k.1] hir
        have hll := latL_lb HG.out r[k.1] hir (b - 1000000 - 2000000 * 60) b
        have hself := latL_self P r[k.1]
        have hii : ((r[k.1] : Nat) : Int) < (P.length : Int) := by omega
        have ci := (hL.b.cell (World.block_lt_of_cell? w _ y0)).trans y0
        have cl := (hL.b.cell (World.block_lt_of_cell? w _ y2)).trans y2
        have c0 := hL.bl.cell
        have HLX := hide hlx
        have HLL := hide hll
        have HLB := hide hlb
        have HSF := hide hself
        have HL := hide hL
        have hLT : latT P (stS P b r pre) r[k.1] = latL P r[k.1] (stS P b r pre) (tk P r[k.1]).links := rfl
        rw [hLT] at hsn
        have HSN := hide hsn
        have HLK := hide hlink
        have HGP := hide hgp
        clear y1 y3 hus hlx hll hlb hself hL hLT hsn hlink hgp
        have hy0 := y0
        clear y0 y2
        generalize stS P b r pre = s at *
        generalize r[k.1] = i at *
        generalize hLL : (tk P i).links = L at *
        gi_wp2_with fail
        gi_loopw [45] (fun j wr => ∃ m : Nat, m ≤ L.length ∧ j = .int .i64 m ∧ LaW w p (.slice (some ⟨g, o, none⟩) P.length cap) P.length (latL P i s (L.take m)) wr ∧ KQ (w.heap.size + 1) W wr) (fun j _ => L.length - (intOf j).toNat)
        case atStart => exact ⟨0, by omega, rfl, HL.out, KQ.refl _ _⟩
        case round =>
          obtain ⟨m, hm, rfl, hL, hkq⟩ := hrel
          by_cases hlt : m < L.length
          · have hmi : (m : Int) < (L.length : Int) := by omega
            have hxm := lk_mem L m hlt
            have hx := HLK.out _ hxm
            have hg := HGP.out _ hxm
            have hstep := latL_take P i s L m hlt
            have hlb := HLL.out (L.take m) s (fun x hx => List.mem_of_mem_take hx) (HLB.out i).1 (HLB.out.mono (by omega))
            obtain ⟨g1, o1, rfl, z0, z1, z2⟩ := HLX.out m hlt
            have hb := hL.b
            have x0 := (hb.cell (World.block_lt_of_cell? w _ z0)).trans z0
            have x1 := (hb.cell (World.block_lt_of_cell? w _ z1)).trans z1
            have x2 := (hb.cell (World.block_lt_of_cell? w _ z2)).trans z2
            have ci' := (hb.cell (World.block_lt_of_cell? w _ hy0)).trans hy0
            generalize hs' : latL P i s (L.take m) = s' at *
            generalize hlk : lk L m = x at *
            obtain ⟨xt, xk, xg⟩ := x
            dsimp only at hx
            obtain ⟨t, rfl⟩ : ∃ t : Nat, xt = (t : Int) := ⟨xt.toNat, by omega⟩
            have htn : t < P.length := by omega
            have hti : (t : Int) < (P.length : Int) := by omega
            obtain ⟨g2, o2, lv2, uv2, e2, v0, v1, v2, v3, hl2, hu2⟩ := HALL.out t htn
            obtain ⟨rfl, rfl⟩ : g = g2 ∧ o = o2 := by simpa using e2
            obtain ⟨la2, lc2, rfl, _⟩ := hl2
            obtain ⟨ua2, uc2, rfl, _⟩ := hu2
            have hlt2 := HG.out.len t htn
            have w0 := (hb.cell (World.block_lt_of_cell? w _ v0)).trans v0
            have w1 := (hb.cell (World.block_lt_of_cell? w _ v1)).trans v1
            have w2 := (hb.cell (World.block_lt_of_cell? w _ v2)).trans v2
            have w3 := (hb.cell (World.block_lt_of_cell? w _ v3)).trans v3
            have c0 := hL.bl.cell
            have hcz := hL.bl.lt
            have hgz : g < wr.heap.size := World.block_lt_of_cell? wr _ w0
            have hk0 : (0 : Int) ≤ (t : Int) := by omega
            have KG := hide (fun W => gap_any ⟨(t : Int), xk, xg⟩ (tk P i).len (tk P t).len W ⟨hx.2.2.1, hx.2.2.2.1⟩ ⟨hx.2.2.2.2.1, hx.2.2.2.2.2.1⟩ hlen' hlt2)
            have hgpe : gp P i ⟨(t : Int), xk, xg⟩ = (⟨(t : Int), xk, xg⟩ : Lk).gap (tk P i).len (tk P t).len := by unfold gp; dsimp only; rw [Int.toNat_natCast]
            have hnew : lat1 P i s' ⟨(t : Int), xk, xg⟩ = upS s' t (min (s' t).1 ((s' i).1 - gp P i ⟨(t : Int), xk, xg⟩), min (s' t).1 ((s' i).1 - gp P i ⟨(t : Int), xk, xg⟩) + (tk P t).len) := by unfold lat1 plc; dsimp only; rw [Int.toNat_natCast]
            rw [← hgpe] at KG
            rw [hnew] at hstep
            have hbi := hlb i
            have hbt := hlb t
            have hsi := hL.sp.at i hir
            have hst := hL.sp.at t htn
            have HLW := hide hL
            have HKQ := hide hkq
            clear z0 z1 z2 v0 v1 v2 v3 hb hL hkq hnew hgpe hlb
            generalize gp P i ⟨(t : Int), xk, xg⟩ = gg at *
            generalize (tk P i).len = li at *
            generalize (tk P t).len = tl at *
            generalize (tk P t).nb = tn at *
            generalize (tk P t).links.length = ln at *
            generalize (tk P t).uses.length = un at *
            gi_wp2_with fail
            have hN1 := (Below.refl _ wr).alloc (Nat.le_refl _) (.cells #[.int .i64 (t : Int), .int .i64 xk, .int .i64 xg] 47)
            have hN2 := (Below.refl _ (wr.alloc (.cells #[.int .i64 (t : Int), .int .i64 xk, .int .i64 xg] 47))).alloc (Nat.le_refl _) (.cells #[.int .i64 tl, .int .i64 tn, .slice la2 ln lc2, .slice ua2 un uc2] 45)
            have hN3 : Below wr.heap.size wr ((wr.alloc (.cells #[.int .i64 (t : Int), .int .i64 xk, .int .i64 xg] 47)).alloc (.cells #[.int .i64 tl, .int .i64 tn, .slice la2 ln lc2, .slice ua2 un uc2] 45)) := hN1.trans (hN2.mono hN1.size)
            have hS : LtS w p (.slice (some ⟨g, o, none⟩) P.length cap) P.length s' wr.heap.size t xk xg (wr.heap.size + 1) tl tn (.slice la2 ln lc2) (.slice ua2 un uc2) ⟨g, o + i * 4, none⟩ li W ((wr.alloc (.cells #[.int .i64 (t : Int), .int .i64 xk, .int .i64 xg] 47)).alloc (.cells #[.int .i64 tl, .int .i64 tn, .slice la2 ln lc2, .slice ua2 un uc2] 45)) := by
              refine ⟨by simp, by simp, by simp, ?_, (hN3.cell (World.block_lt_of_cell? wr _ ci')).trans ci', HLW.out.step hN3, HKQ.out.step hN3⟩
              have h := TkB.new (wr.alloc (.cells #[.int .i64 (t : Int), .int .i64 xk, .int .i64 xg] 47)) tl tn (.slice la2 ln lc2) (.slice ua2 un uc2)
              rw [World.size_alloc] at h
              exact h
            have hri := i64_id (x := (s' i).1 - gg) (by omega) (by omega)
            clear x0 x1 x2 ci ci' cl c0 w0 w1 w2 w3 hsi hst hN1 hN2 hN3 HLW HKQ hgz hcz hx3 hL3 HL HSN HLK HGP HLX HLL HLB HSF
            generalize hz1 : wr.heap.size = z1 at *
            generalize hz2' : z1 + 1 = z2 at *
            generalize (wr.alloc (.cells #[.int .i64 (t : Int), .int .i64 xk, .int .i64 xg] 47)).alloc (.cells #[.int .i64 tl, .int .i64 tn, .slice la2 ln lc2, .slice ua2 un uc2] 45) = W5 at *
            replace hS := hS.step (Below.drew (Below.refl _ W5))
            refine wpIn_region_linR (S := fun X => LtS w p (.slice (some ⟨g, o, none⟩) P.length cap) P.length s' z1 t xk xg z2 tl tn (.slice la2 ln lc2) (.slice ua2 un uc2) ⟨g, o + i * 4, none⟩ li W X) (R := fun _ => True) [] (by kernel_rfl) (by kernel_rfl) [(0, none, 0), (1, none, 1), (2, none, 1), (3, none, 1), (4, none, 0), (5, none, 0), (6, none, 0), (7, none, 1), (8, none, 1), (9, none, 1), (10, none, 0), (11, none, 1), (12, none, 0), (13, none, 2), (14, none, 1), (15, none, 1)] (by kernel_rfl) (by kernel_rfl) (by kernel_rfl) (by exact trivial) (by exact hS) (fun ops' Q' hops hQ' => ?_)
            refine wpLinG_read (o := { dst := some 54, op := Go.Op.load 23 (Go.Operand.tmp 5), type := 23, pos := "times.go:56", after := #[], guard := none }) (v := ?vy0) (by rw [hops]; rfl) (by first | exact trivial | rfl) hS ?ey0 ?hy0
            case ey0 => intro w' hw'; obtain ⟨l0, l1, l2, ⟨t0, t1, t2, t3⟩, ci, hla, _⟩ := hw'; have c4 := hla.bs.cell; have c5 := hla.bl.cell; have c6 := (hla.sp.at i hir).1; have c7 := (hla.sp.at t htn).1; go_simp; (try rfl)
            (try simp only [Act.put, List.setIfInBounds_toArray, List.set_cons_zero, List.set_cons_succ])
            refine wpLinG_pure (o := { dst := some 55, op := Go.Op.move (Go.Operand.tmp 9), type := 3, pos := "times.go:56", after := #[], guard := none }) (v := ?vy1) (by rw [hops]; rfl) (by first | exact trivial | rfl) ?ey1 ?hy1
            case ey1 => intro w'; go_simp; (try rfl)
            (try simp only [Act.put, List.setIfInBounds_toArray, List.set_cons_zero, List.set_cons_succ])
            refine wpLinG_pure (o := { dst := some 56, op := Go.Op.indexAddr 23 (Go.Operand.tmp 54) (Go.Operand.tmp 55), type := 0, pos := "times.go:56", after := #[{ on := 0, ground := Go.Ground.data }, { on := 1, ground := Go.Ground.data }], guard := none }) (v := ?vy2) (by rw [hops]; rfl) (by first | exact trivial | rfl) ?ey2 ?hy2
            case ey2 => intro w'; go_simp; (try rfl)
            (try simp only [Act.put, List.setIfInBounds_toArray, List.set_cons_zero, List.set_cons_succ])
            refine wpLinG_pure (o := { dst := some 57, op := Go.Op.fieldAddr 37 (Go.Operand.tmp 56) 0, type := 0, pos := "times.go:56", after := #[{ on := 2, ground := Go.Ground.data }], guard := none }) (v := ?vy3) (by rw [hops]; rfl) (by first | exact trivial | rfl) ?ey3 ?hy3
            case ey3 => intro w'; go_simp; (try rfl)
            (try simp only [Act.put, List.setIfInBounds_toArray, List.set_cons_zero, List.set_cons_succ])
            refine wpLinG_read (o := { dst := some 58, op := Go.Op.load 3 (Go.Operand.tmp 57), type := 3, pos := "times.go:56", after := #[{ on := 3, ground := Go.Ground.data }], guard := none }) (v := ?vy4) (by rw [hops]; rfl) (by first | exact trivial | rfl) hS ?ey4 ?hy4
            case ey4 => intro w' hw'; obtain ⟨l0, l1, l2, ⟨t0, t1, t2, t3⟩, ci, hla, _⟩ := hw'; have c4 := hla.bs.cell; have c5 := hla.bl.cell; have c6 := (hla.sp.at i hir).1; have c7 := (hla.sp.at t htn).1; go_simp; (try rfl)
            (try simp only [Act.put, List.setIfInBounds_toArray, List.set_cons_zero, List.set_cons_succ])
            refine wpLinG_read (o := { dst := some 59, op := Go.Op.load 47 (Go.Operand.tmp 11), type := 47, pos := "times.go:56", after := #[], guard := none }) (v := ?vy5) (by rw [hops]; rfl) (by first | exact trivial | rfl) hS ?ey5 ?hy5
            case ey5 => intro w' hw'; obtain ⟨l0, l1, l2, ⟨t0, t1, t2, t3⟩, ci, hla, _⟩ := hw'; have c4 := hla.bs.cell; have c5 := hla.bl.cell; have c6 := (hla.sp.at i hir).1; have c7 := (hla.sp.at t htn).1; go_simp; (try rfl)
            (try simp only [Act.put, List.setIfInBounds_toArray, List.set_cons_zero, List.set_cons_succ])
            refine wpLinG_read (o := { dst := some 60, op := Go.Op.load 22 (Go.Operand.tmp 2), type := 22, pos := "times.go:56", after := #[], guard := none }) (v := ?vy6) (by rw [hops]; rfl) (by first | exact trivial | rfl) hS ?ey6 ?hy6
            case ey6 => intro w' hw'; obtain ⟨l0, l1, l2, ⟨t0, t1, t2, t3⟩, ci, hla, _⟩ := hw'; have c4 := hla.bs.cell; have c5 := hla.bl.cell; have c6 := (hla.sp.at i hir).1; have c7 := (hla.sp.at t htn).1; go_simp; (try rfl)
            (try simp only [Act.put, List.setIfInBounds_toArray, List.set_cons_zero, List.set_cons_succ])
            refine wpLinG_pure (o := { dst := some 61, op := Go.Op.move (Go.Operand.tmp 9), type := 3, pos := "times.go:56", after := #[], guard := none }) (v := ?vy7) (by rw [hops]; rfl) (by first | exact trivial | rfl) ?ey7 ?hy7
            case ey7 => intro w'; go_simp; (try rfl)
            (try simp only [Act.put, List.setIfInBounds_toArray, List.set_cons_zero, List.set_cons_succ])
            refine wpLinG_pure (o := { dst := some 62, op := Go.Op.indexAddr 22 (Go.Operand.tmp 60) (Go.Operand.tmp 61), type := 0, pos := "times.go:56", after := #[{ on := 6, ground := Go.Ground.data }, { on := 7, ground := Go.Ground.data }], guard := none }) (v := ?vy8) (by rw [hops]; rfl) (by first | exact trivial | rfl) ?ey8 ?hy8
            case ey8 => intro w'; go_simp; (try rfl)
            (try simp only [Act.put, List.setIfInBounds_toArray, List.set_cons_zero, List.set_cons_succ])
            refine wpLinG_pure (o := { dst := some 63, op := Go.Op.fieldAddr 45 (Go.Operand.tmp 62) 0, type := 0, pos := "times.go:56", after := #[{ on := 8, ground := Go.Ground.data }], guard := none }) (v := ?vy9) (by rw [hops]; rfl) (by first | exact trivial | rfl) ?ey9 ?hy9
            case ey9 => intro w'; go_simp; (try rfl)
            (try simp only [Act.put, List.setIfInBounds_toArray, List.set_cons_zero, List.set_cons_succ])
            refine wpLinG_read (o := { dst := some 64, op := Go.Op.load 3 (Go.Operand.tmp 63), type := 3, pos := "times.go:56", after := #[{ on := 9, ground := Go.Ground.data }], guard := none }) (v := ?vy10) (by rw [hops]; rfl) (by first | exact trivial | rfl) hS ?ey10 ?hy10
            case ey10 => intro w' hw'; obtain ⟨l0, l1, l2, ⟨t0, t1, t2, t3⟩, ci, hla, _⟩ := hw'; have c4 := hla.bs.cell; have c5 := hla.bl.cell; have c6 := (hla.sp.at i hir).1; have c7 := (hla.sp.at t htn).1; go_simp; (try rfl)
            (try simp only [Act.put, List.setIfInBounds_toArray, List.set_cons_zero, List.set_cons_succ])
            refine wpLinG_pure (o := { dst := some 65, op := Go.Op.fieldAddr 45 (Go.Operand.tmp 12) 0, type := 0, pos := "times.go:56", after := #[], guard := none }) (v := ?vy11) (by rw [hops]; rfl) (by first | exact trivial | rfl) ?ey11 ?hy11
            case ey11 => intro w'; go_simp; (try rfl)
            (try simp only [Act.put, List.setIfInBounds_toArray, List.set_cons_zero, List.set_cons_succ])
            refine wpLinG_read (o := { dst := some 66, op := Go.Op.load 3 (Go.Operand.tmp 65), type := 3, pos := "times.go:56", after := #[{ on := 11, ground := Go.Ground.data }], guard := none }) (v := ?vy12) (by rw [hops]; rfl) (by first | exact trivial | rfl) hS ?ey12 ?hy12
            case ey12 => intro w' hw'; obtain ⟨l0, l1, l2, ⟨t0, t1, t2, t3⟩, ci, hla, _⟩ := hw'; have c4 := hla.bs.cell; have c5 := hla.bl.cell; have c6 := (hla.sp.at i hir).1; have c7 := (hla.sp.at t htn).1; go_simp; (try rfl)
            (try simp only [Act.put, List.setIfInBounds_toArray, List.set_cons_zero, List.set_cons_succ])
            refine wpLinG_do (o := { dst := some 67, op := Go.Op.call { callee := Go.Callee.value (Go.Operand.func 62), args := #[Go.Operand.tmp 59, Go.Operand.tmp 64, Go.Operand.tmp 66], argTypes := #[47, 3, 3] }, type := 3, pos := "times.go:56", after := #[{ on := 5, ground := Go.Ground.data }, { on := 10, ground := Go.Ground.data }, { on := 12, ground := Go.Ground.data }], guard := none }) (by rw [hops]; rfl) (by first | exact trivial | rfl) (fun K hK => ?_)
            go_simp
            refine (KG.out _).mono ?_
            rintro e X13 ⟨rfl, hb⟩
            replace hS := hS.step hb
            clear hb
            refine hK _ _ trivial hS ?_
            clear hK K
            (try simp only [Act.put, List.setIfInBounds_toArray, List.set_cons_zero, List.set_cons_succ])
            refine wpLinG_pure (o := { dst := some 68, op := Go.Op.binOp Go.BinOp.sub 3 (Go.Operand.tmp 58) (Go.Operand.tmp 67) 3, type := 3, pos := "times.go:56", after := #[{ on := 4, ground := Go.Ground.data }, { on := 13, ground := Go.Ground.data }], guard := none }) (v := ?vy14) (by rw [hops]; rfl) (by first | exact trivial | rfl) ?ey14 ?hy14
            case ey14 => intro w'; go_simp; (try rfl)
            (try simp only [Act.put, List.setIfInBounds_toArray, List.set_cons_zero, List.set_cons_succ])
            refine wpLinG_pure (o := { dst := some 13, op := Go.Op.assign (Go.Operand.tmp 68), type := 3, pos := "times.go:56", after := #[{ on := 14, ground := Go.Ground.data }, { on := 13, ground := Go.Ground.chain }, { on := 0, ground := Go.Ground.phase }, { on := 1, ground := Go.Ground.phase }, { on := 2, ground := Go.Ground.phase }, { on := 3, ground := Go.Ground.phase }, { on := 4, ground := Go.Ground.phase }, { on := 5, ground := Go.Ground.phase }, { on := 6, ground := Go.Ground.phase }, { on := 7, ground := Go.Ground.phase }, { on := 8, ground := Go.Ground.phase }, { on := 9, ground := Go.Ground.phase }, { on := 10, ground := Go.Ground.phase }, { on := 11, ground := Go.Ground.phase }, { on := 12, ground := Go.Ground.phase }, { on := 13, ground := Go.Ground.phase }, { on := 14, ground := Go.Ground.phase }], guard := none }) (v := ?vy15) (by rw [hops]; rfl) (by first | exact trivial | rfl) ?ey15 ?hy15
            case ey15 => intro w'; go_simp; (try rfl)
            (try simp only [Act.put, List.setIfInBounds_toArray, List.set_cons_zero, List.set_cons_succ])
            subst hQ'
            refine NoPO.normal ?_
            clear hops
            gi_wp2_with fail
            replace hS := hS.step (Below.drew (Below.refl _ X13))
            have hmb : -4000000000000 ≤ min (s' t).1 ((s' i).1 - gg) ∧ min (s' t).1 ((s' i).1 - gg) ≤ 4000000000000 := by omega
            have KP := hide (fun W => place_any (.int .i64 0) (.int .i64 tn) (.slice la2 ln lc2) (.slice ua2 un uc2) tl (min (s' t).1 ((s' i).1 - gg)) W hmb hlt2)
            refine wpIn_region_linR (S := fun X => LtS w p (.slice (some ⟨g, o, none⟩) P.length cap) P.length s' z1 t xk xg z2 tl tn (.slice la2 ln lc2) (.slice ua2 un uc2) ⟨g, o + i * 4, none⟩ li W X) (R := fun _ => True) [14] (by kernel_rfl) (by kernel_rfl) [(0, none, 0), (1, none, 1), (2, none, 0), (3, none, 0), (4, none, 0), (5, none, 1), (6, none, 0), (7, none, 1), (8, none, 1), (9, none, 0), (10, none, 1), (11, none, 1), (12, none, 2), (13, none, 1), (14, none, 3)] (by kernel_rfl) (by kernel_rfl) (by kernel_rfl) (by exact trivial) (by exact hS) (fun ops' Q' hops hQ' => ?_)
            refine wpLinG_read (o := { dst := some 69, op := Go.Op.load 23 (Go.Operand.tmp 5), type := 23, pos := "times.go:57", after := #[], guard := none }) (v := ?vu0) (by rw [hops]; rfl) (by first | exact trivial | rfl) hS ?eu0 ?hu0
            case eu0 => intro w' hw'; obtain ⟨l0, l1, l2, ⟨t0, t1, t2, t3⟩, ci, hla, _⟩ := hw'; have c4 := hla.bs.cell; have c5 := hla.bl.cell; have c6 := (hla.sp.at i hir).1; have c7 := (hla.sp.at t htn).1; go_simp; (try rfl)
            (try simp only [Act.put, List.setIfInBounds_toArray, List.set_cons_zero, List.set_cons_succ])
            refine wpLinG_pure (o := { dst := some 70, op := Go.Op.fieldAddr 47 (Go.Operand.tmp 11) 0, type := 0, pos := "times.go:57", after := #[], guard := none }) (v := ?vu1) (by rw [hops]; rfl) (by first | exact trivial | rfl) ?eu1 ?hu1
            case eu1 => intro w'; go_simp; (try rfl)
            (try simp only [Act.put, List.setIfInBounds_toArray, List.set_cons_zero, List.set_cons_succ])
            refine wpLinG_read (o := { dst := some 71, op := Go.Op.load 3 (Go.Operand.tmp 70), type := 3, pos := "times.go:57", after := #[{ on := 1, ground := Go.Ground.data }], guard := none }) (v := ?vu2) (by rw [hops]; rfl) (by first | exact trivial | rfl) hS ?eu2 ?hu2
            case eu2 => intro w' hw'; obtain ⟨l0, l1, l2, ⟨t0, t1, t2, t3⟩, ci, hla, _⟩ := hw'; have c4 := hla.bs.cell; have c5 := hla.bl.cell; have c6 := (hla.sp.at i hir).1; have c7 := (hla.sp.at t htn).1; go_simp; (try rfl)
            (try simp only [Act.put, List.setIfInBounds_toArray, List.set_cons_zero, List.set_cons_succ])
            refine wpLinG_read (o := { dst := some 72, op := Go.Op.load 45 (Go.Operand.tmp 12), type := 45, pos := "times.go:57", after := #[], guard := none }) (v := ?vu3) (by rw [hops]; rfl) (by first | exact trivial | rfl) hS ?eu3 ?hu3
            case eu3 => intro w' hw'; obtain ⟨l0, l1, l2, ⟨t0, t1, t2, t3⟩, ci, hla, _⟩ := hw'; have c4 := hla.bs.cell; have c5 := hla.bl.cell; have c6 := (hla.sp.at i hir).1; have c7 := (hla.sp.at t htn).1; go_simp; (try rfl)
            (try simp only [Act.put, List.setIfInBounds_toArray, List.set_cons_zero, List.set_cons_succ])
            refine wpLinG_read (o := { dst := some 73, op := Go.Op.load 23 (Go.Operand.tmp 5), type := 23, pos := "times.go:57", after := #[], guard := none }) (v := ?vu4) (by rw [hops]; rfl) (by first | exact trivial | rfl) hS ?eu4 ?hu4
            case eu4 => intro w' hw'; obtain ⟨l0, l1, l2, ⟨t0, t1, t2, t3⟩, ci, hla, _⟩ := hw'; have c4 := hla.bs.cell; have c5 := hla.bl.cell; have c6 := (hla.sp.at i hir).1; have c7 := (hla.sp.at t htn).1; go_simp; (try rfl)
            (try simp only [Act.put, List.setIfInBounds_toArray, List.set_cons_zero, List.set_cons_succ])
            refine wpLinG_pure (o := { dst := some 74, op := Go.Op.fieldAddr 47 (Go.Operand.tmp 11) 0, type := 0, pos := "times.go:57", after := #[], guard := none }) (v := ?vu5) (by rw [hops]; rfl) (by first | exact trivial | rfl) ?eu5 ?hu5
            case eu5 => intro w'; go_simp; (try rfl)
            (try simp only [Act.put, List.setIfInBounds_toArray, List.set_cons_zero, List.set_cons_succ])
            refine wpLinG_read (o := { dst := some 75, op := Go.Op.load 3 (Go.Operand.tmp 74), type := 3, pos := "times.go:57", after := #[{ on := 5, ground := Go.Ground.data }], guard := none }) (v := ?vu6) (by rw [hops]; rfl) (by first | exact trivial | rfl) hS ?eu6 ?hu6
            case eu6 => intro w' hw'; obtain ⟨l0, l1, l2, ⟨t0, t1, t2, t3⟩, ci, hla, _⟩ := hw'; have c4 := hla.bs.cell; have c5 := hla.bl.cell; have c6 := (hla.sp.at i hir).1; have c7 := (hla.sp.at t htn).1; go_simp; (try rfl)
            (try simp only [Act.put, List.setIfInBounds_toArray, List.set_cons_zero, List.set_cons_succ])
            refine wpLinG_pure (o := { dst := some 76, op := Go.Op.indexAddr 23 (Go.Operand.tmp 73) (Go.Operand.tmp 75), type := 0, pos := "times.go:57", after := #[{ on := 4, ground := Go.Ground.data }, { on := 6, ground := Go.Ground.data }], guard := none }) (v := ?vu7) (by rw [hops]; rfl) (by first | exact trivial | rfl) ?eu7 ?hu7
            case eu7 => intro w'; go_simp; (try rfl)
            (try simp only [Act.put, List.setIfInBounds_toArray, List.set_cons_zero, List.set_cons_succ])
            refine wpLinG_pure (o := { dst := some 77, op := Go.Op.fieldAddr 37 (Go.Operand.tmp 76) 0, type := 0, pos := "times.go:57", after := #[{ on := 7, ground := Go.Ground.data }], guard := none }) (v := ?vu8) (by rw [hops]; rfl) (by first | exact trivial | rfl) ?eu8 ?hu8
            case eu8 => intro w'; go_simp; (try rfl)
            (try simp only [Act.put, List.setIfInBounds_toArray, List.set_cons_zero, List.set_cons_succ])
            refine wpLinG_read (o := { dst := some 78, op := Go.Op.load 3 (Go.Operand.tmp 77), type := 3, pos := "times.go:57", after := #[{ on := 8, ground := Go.Ground.data }], guard := none }) (v := ?vu9) (by rw [hops]; rfl) (by first | exact trivial | rfl) hS ?eu9 ?hu9
            case eu9 => intro w' hw'; obtain ⟨l0, l1, l2, ⟨t0, t1, t2, t3⟩, ci, hla, _⟩ := hw'; have c4 := hla.bs.cell; have c5 := hla.bl.cell; have c6 := (hla.sp.at i hir).1; have c7 := (hla.sp.at t htn).1; go_simp; (try rfl)
            (try simp only [Act.put, List.setIfInBounds_toArray, List.set_cons_zero, List.set_cons_succ])
            refine wpLinG_pure (o := { dst := some 79, op := Go.Op.move (Go.Operand.tmp 13), type := 3, pos := "times.go:57", after := #[], guard := none }) (v := ?vu10) (by rw [hops]; rfl) (by first | exact trivial | rfl) ?eu10 ?hu10
            case eu10 => intro w'; go_simp; (try rfl)
            (try simp only [Act.put, List.setIfInBounds_toArray, List.set_cons_zero, List.set_cons_succ])
            refine wpLinG_pure (o := { dst := some 80, op := Go.Op.call { callee := Go.Callee.builtin Go.Builtin.min, args := #[Go.Operand.tmp 78, Go.Operand.tmp 79], argTypes := #[3, 3] }, type := 3, pos := "times.go:57", after := #[{ on := 9, ground := Go.Ground.data }, { on := 10, ground := Go.Ground.data }], guard := none }) (v := ?vu11) (by rw [hops]; rfl) (by first | exact trivial | rfl) ?eu11 ?hu11
            case eu11 => intro w'; go_simp; (try rfl)
            (try simp only [Act.put, List.setIfInBounds_toArray, List.set_cons_zero, List.set_cons_succ])
            refine wpLinG_do (o := { dst := some 81, op := Go.Op.call { callee := Go.Callee.value (Go.Operand.func 55), args := #[Go.Operand.tmp 72, Go.Operand.tmp 80], argTypes := #[45, 3] }, type := 37, pos := "times.go:57", after := #[{ on := 3, ground := Go.Ground.data }, { on := 11, ground := Go.Ground.data }], guard := none }) (by rw [hops]; rfl) (by first | exact trivial | rfl) (fun K hK => ?_)
            go_simp
            (try rw [min_if])
            refine (KP.out _).mono ?_
            rintro e X14 ⟨rfl, hb⟩
            replace hS := hS.step hb
            clear hb
            refine hK _ _ trivial hS ?_
            clear hK K
            (try simp only [Act.put, List.setIfInBounds_toArray, List.set_cons_zero, List.set_cons_succ])
            refine wpLinG_pure (o := { dst := some 82, op := Go.Op.indexAddr 23 (Go.Operand.tmp 69) (Go.Operand.tmp 71), type := 0, pos := "times.go:57", after := #[{ on := 0, ground := Go.Ground.data }, { on := 2, ground := Go.Ground.data }, { on := 0, ground := Go.Ground.phase }, { on := 1, ground := Go.Ground.phase }, { on := 2, ground := Go.Ground.phase }, { on := 3, ground := Go.Ground.phase }, { on := 4, ground := Go.Ground.phase }, { on := 5, ground := Go.Ground.phase }, { on := 6, ground := Go.Ground.phase }, { on := 7, ground := Go.Ground.phase }, { on := 8, ground := Go.Ground.phase }, { on := 9, ground := Go.Ground.phase }, { on := 10, ground := Go.Ground.phase }, { on := 11, ground := Go.Ground.phase }, { on := 12, ground := Go.Ground.phase }], guard := none }) (v := ?vu13) (by rw [hops]; rfl) (by first | exact trivial | rfl) ?eu13 ?hu13
            case eu13 => intro w'; go_simp; (try rfl)
            (try simp only [Act.put, List.setIfInBounds_toArray, List.set_cons_zero, List.set_cons_succ])
            refine wpLinG_store (o := { dst := none, op := Go.Op.store 37 (Go.Operand.tmp 82) (Go.Operand.tmp 81), type := 0, pos := "times.go:57", after := #[{ on := 13, ground := Go.Ground.data }, { on := 12, ground := Go.Ground.data }, { on := 12, ground := Go.Ground.chain }, { on := 0, ground := Go.Ground.phase }, { on := 1, ground := Go.Ground.phase }, { on := 2, ground := Go.Ground.phase }, { on := 3, ground := Go.Ground.phase }, { on := 4, ground := Go.Ground.phase }, { on := 5, ground := Go.Ground.phase }, { on := 6, ground := Go.Ground.phase }, { on := 7, ground := Go.Ground.phase }, { on := 8, ground := Go.Ground.phase }, { on := 9, ground := Go.Ground.phase }, { on := 10, ground := Go.Ground.phase }, { on := 11, ground := Go.Ground.phase }, { on := 12, ground := Go.Ground.phase }], guard := none }) (by rw [hops]; rfl) (by first | exact trivial | rfl) (fun K hK => ?_)
            go_simp
            have hcx := (hS.la.sp.at t htn).1
            have hcy := (hS.la.sp.at t htn).2
            have hfx := hS.la.sp.froz (t * 2)
            have hfy := hS.la.sp.froz (t * 2 + 1)
            go_simp
            refine hK _ _ trivial ?_
            clear hK K
            (try simp only [Act.put, List.setIfInBounds_toArray, List.set_cons_zero, List.set_cons_succ])
            subst hQ'
            refine NoPO.normal ?_
            have hSE := hS.la.set hpq t htn (min (s' t).1 ((s' i).1 - gg)) (min (s' t).1 ((s' i).1 - gg) + tl)
            rw [← hstep] at hSE
            have hKE := (hS.kq.set (t * 2) (.int .i64 (min (s' t).1 ((s' i).1 - gg)))).set (t * 2 + 1) (.int .i64 (min (s' t).1 ((s' i).1 - gg) + tl))
            clear hops hS
            gi_wp2
            go_roundw
            case rel => exact ⟨m + 1, by omega, by go_num, hSE, hKE⟩
            case measure => simp [intOf]; omega
          · obtain rfl : m = L.length := by omega
            rw [List.take_length] at hL
            have hkf := hkq.from (B := W3.heap.size) (by omega)
            have hkp := hkq.kp hz
            have hzz := Nat.le_trans hz hkq.z
            rw [hz4] at hkf hkp hzz
            rw [← HSN.out] at hL
            have hmi : ¬ (L.length : Int) < (L.length : Int) := by omega
            gi_wp2
            exact ⟨hkf, hkp, hL, hzz⟩
theorem late_any {P : List Tk} (hG : Good P) (b : Int) (hb0 : 0 ≤ b) (hb1 : b ≤ 1099511627776) (v : Value) (w : World) (hv : TsAt w v P) :
    Calls Tryd.prog 43 #[v, .int .i64 b] w fun e w' => ∃ q, e = .returned (.slice (some ⟨q, 0, none⟩) P.length P.length) ∧ w.heap.size ≤ q ∧ SpR q P.length (latS P b (ord P)) w' ∧ Below w.heap.size w w' :=
  callsIn_wide.1 (late_in 3 (by decide) hG b hb0 hb1 v w hv)
end Go.Proofs.YtjmjabdokckdlaaDoor
