/- plan: put. (Written by gen/plnp.py.) -/
import Derived.Test.YtjmjabdokckdlaaDoorPlnSt
namespace Go.Proofs.YtjmjabdokckdlaaDoor
open Go.RowKit Go.Shelf
set_option linter.unusedVariables false
set_option linter.unusedSimpArgs false

/-- the places, of one's own -/
structure PlcR (w0 : World) (b : Nat) (P : List Tk) (s : Sp) (st : Nat → Bool) (tv hv : Value) (q z : Nat) (W : World) : Prop where
  c0 : W.cell? ⟨b, 0, none⟩ = some tv
  c1 : W.cell? ⟨b, 1, none⟩ = some hv
  c2 : W.cell? ⟨b, 2, none⟩ = some (.slice (some ⟨q, 0, none⟩) P.length P.length)
  c3 : W.cell? ⟨b, 3, none⟩ = some (.slice (some ⟨z, 0, none⟩) P.length P.length)
  sp : SpR q P.length s W
  bo : BoR z P.length st W
  b : Below w0.heap.size w0 W
/-- where they lie -/
structure PlcN (w0 : World) (P : List Tk) (H : List Int) (tv hv : Value) (b q z : Nat) : Prop where
  ts : TsAt w0 tv P
  hs : NsAt w0 hv H
  hb : w0.heap.size ≤ b
  hq : w0.heap.size ≤ q
  hz : w0.heap.size ≤ z
  bq : b ≠ q
  bz : b ≠ z
  qz : q ≠ z
theorem PlcR.w {w0 : World} {b : Nat} {P : List Tk} {H : List Int} {s : Sp} {st : Nat → Bool} {tv hv : Value} {q z : Nat} {W : World} (h : PlcR w0 b P s st tv hv q z W) (n : PlcN w0 P H tv hv b q z) : PlcW b P H s st tv hv q z W :=
  ⟨h.c0, h.c1, h.c2, h.c3, n.ts.below h.b, n.hs.below h.b, h.sp.at, h.bo.at⟩
theorem PlcR.step {w0 : World} {b : Nat} {P : List Tk} {s : Sp} {st : Nat → Bool} {tv hv : Value} {q z : Nat} {W W' : World} (h : PlcR w0 b P s st tv hv q z W) (hb : Below W.heap.size W W') : PlcR w0 b P s st tv hv q z W' :=
  have e {p : Addr} {v : Value} (e : W.cell? p = some v) : W'.cell? p = some v := (hb.cell (World.block_lt_of_cell? W _ e)).trans e
  ⟨e h.c0, e h.c1, e h.c2, e h.c3, h.sp.step hb, h.bo.step hb, h.b.trans (hb.mono h.b.size)⟩
theorem cell_other {W : World} {p : Addr} {b o : Nat} {v : Value} (h : b ≠ p.block) : (W.setCell p v).cell? ⟨b, o, none⟩ = W.cell? ⟨b, o, none⟩ := by
  have e := Below.heap_setCell W p v b h
  unfold World.cell?
  dsimp only
  rw [e]
theorem BoR.other {q n : Nat} {st : Nat → Bool} {X : World} (h : BoR q n st X) (p : Addr) (hp : q ≠ p.block) (v : Value) : BoR q n st (X.setCell p v) := by
  obtain ⟨cur, h1, h2⟩ := h
  exact ⟨cur, (Below.heap_setCell X p v q hp).trans h1, h2⟩
theorem SpR.other {q n : Nat} {s : Sp} {X : World} (h : SpR q n s X) (p : Addr) (hp : q ≠ p.block) (v : Value) : SpR q n s (X.setCell p v) := by
  obtain ⟨cur, h1, h2⟩ := h
  exact ⟨cur, (Below.heap_setCell X p v q hp).trans h1, h2⟩
/-- a task gets its place -/
theorem PlcR.put {w0 : World} {b : Nat} {P : List Tk} {H : List Int} {s : Sp} {st : Nat → Bool} {tv hv : Value} {q z : Nat} {W : World} (h : PlcR w0 b P s st tv hv q z W) (n : PlcN w0 P H tv hv b q z) (i : Nat) (hi : i < P.length) (x y : Int) :
    PlcR w0 b P (upS s i (x, y)) (stU st i) tv hv q z (((W.setCell ⟨q, i * 2, none⟩ (.int .i64 x)).setCell ⟨q, i * 2 + 1, none⟩ (.int .i64 y)).setCell ⟨z, i, none⟩ (.bool true)) := by
  have e : ∀ o, (((W.setCell ⟨q, i * 2, none⟩ (.int .i64 x)).setCell ⟨q, i * 2 + 1, none⟩ (.int .i64 y)).setCell ⟨z, i, none⟩ (.bool true)).cell? ⟨b, o, none⟩ = W.cell? ⟨b, o, none⟩ := fun o => by
    rw [cell_other (p := ⟨z, i, none⟩) n.bz, cell_other (p := ⟨q, i * 2 + 1, none⟩) n.bq, cell_other (p := ⟨q, i * 2, none⟩) n.bq]
  refine ⟨(e 0).trans h.c0, (e 1).trans h.c1, (e 2).trans h.c2, (e 3).trans h.c3, (h.sp.set i hi x y).other _ n.qz _, ?_, ((h.b.setCell n.hq _).setCell n.hq _).setCell n.hz _⟩
  exact (((h.bo.other _ (fun e => n.qz e.symm) _).other _ (fun e => n.qz e.symm) _).set i hi true) (fun u _ => rfl)
/-- all blocks but two are as they were -/
structure KQ2 (q z : Nat) (W X : World) : Prop where
  sz : W.heap.size ≤ X.heap.size
  kk : ∀ k, k < W.heap.size → k ≠ q → k ≠ z → X.heap[k]? = W.heap[k]?
theorem KQ2.of {q z : Nat} {W X : World} (hb : Below W.heap.size W X) : KQ2 q z W X := ⟨hb.size, fun k hk _ _ => hb.block k hk⟩
theorem KQ2.put {q z : Nat} {W X : World} (h : KQ2 q z W X) (a b c : Nat) (x y u : Value) : KQ2 q z W (((X.setCell ⟨q, a, none⟩ x).setCell ⟨q, b, none⟩ y).setCell ⟨z, c, none⟩ u) :=
  ⟨by simpa using h.sz, fun k hk hq hz => ((Below.heap_setCell _ _ _ k hz).trans ((Below.heap_setCell _ _ _ k hq).trans (Below.heap_setCell _ _ _ k hq))).trans (h.kk k hk hq hz)⟩
/-- numbers of one's own -/
abbrev OwnZ (X : World) (base : Nat) (v : Value) (zs : List Int) : Prop := X.ownsRow base 3 1 v zs.length (zs.map (Value.int .i64))
theorem ownZ_len {X : World} {base : Nat} {v : Value} {zs : List Int} (h : OwnZ X base v zs) : ∃ a c, v = .slice a zs.length c := by
  rcases h.2 with ⟨rfl, e⟩ | ⟨g, cap, cur, rfl, _⟩
  · exact ⟨none, 0, by rw [e]⟩
  · exact ⟨_, _, rfl⟩
theorem findAt {α : Type} (p : α → Bool) : ∀ (l : List α) (m : Nat), (∀ x ∈ l.take m, p x = false) → (hm : m < l.length) → p l[m] = true → l.find? p = some l[m]
  | a :: l, 0, _, _, h => List.find?_cons_of_pos h
  | a :: l, m + 1, hn, hm, h => by
    have h0 : p a = false := hn a (by simp)
    rw [List.find?_cons_of_neg (by rw [h0]; simp)]
    exact findAt p l m (fun x hx => hn x (by simp [hx])) (by simpa using hm) h
/-- what stands while a task is put -/
structure PuS (w0 : World) (b : Nat) (P : List Tk) (s : Sp) (st : Nat → Bool) (tv hv : Value) (q z B : Nat) (tl tn : Int) (lv uv : Value) (w X : World) : Prop where
  p : PlcR w0 b P s st tv hv q z X
  t : TkB B tl tn lv uv X
  b : Below w.heap.size w X
theorem PuS.step {w0 : World} {b : Nat} {P : List Tk} {s : Sp} {st : Nat → Bool} {tv hv : Value} {q z B : Nat} {tl tn : Int} {lv uv : Value} {w X X' : World} (h : PuS w0 b P s st tv hv q z B tl tn lv uv w X) (hb : Below X.heap.size X X') : PuS w0 b P s st tv hv q z B tl tn lv uv w X' :=
  ⟨h.p.step hb, h.t.step hb, h.b.trans (hb.mono h.b.size)⟩
set_option maxRecDepth 100000 in
set_option maxHeartbeats 16000000 in
theorem put_any {P : List Tk} (hG : Good P) (H : List Int) (s : Sp) (st : Nat → Bool) (k : Nat) (hL : Lev P H s st k) (hk : k ≤ 60) (i : Nat) (hi : i < P.length) (hU : ∀ r, r < (tk P i).uses.length → (tk P i).uses.getD r 0 ≤ amt H r) (w0 : World) (b : Nat) (tv hv : Value) (q z : Nat) (hN : PlcN w0 P H tv hv b q z) (w : World) (hp : PlcR w0 b P s st tv hv q z w) :
    Calls Tryd.prog 52 #[.pointer (some ⟨b, 0, none⟩), .int .i64 (i : Int)] w fun e w' => e = .returned (.tuple #[]) ∧ PlcR w0 b P (upS s i (plc P i (putB P H s st i))) (stU st i) tv hv q z w' ∧ KQ2 q z w w' := by
  have hts := hN.ts
  obtain ⟨ad, cap, rfl, hall⟩ := hts
  have h60 := hG.n60
  have hii : (i : Int) < (P.length : Int) := by omega
  obtain ⟨g, o, lv, uv, rfl, y0, y1, y2, y3, hls, hus⟩ := hall i hi
  obtain ⟨la, lc, rfl, _⟩ := hls
  have hus' := hus
  obtain ⟨ua, uc, rfl, _⟩ := hus'
  have hw := hp.b
  have x0 := (hw.cell (World.block_lt_of_cell? w0 _ y0)).trans y0
  have x1 := (hw.cell (World.block_lt_of_cell? w0 _ y1)).trans y1
  have x2 := (hw.cell (World.block_lt_of_cell? w0 _ y2)).trans y2
  have x3 := (hw.cell (World.block_lt_of_cell? w0 _ y3)).trans y3
  have c0 := hp.c0
  have hlen := hG.len i hi
  have hsb := hL.soonB hG i hi
  have hbd : SpBd P.length s := fun t ht => by have := hL.bd t; omega
  have hfd := hL.found hG i hi hU
  have hus60 := (hG.cnt i hi).2
  have huse := hG.use i hi
  have hn1 : Below w.heap.size w (w.alloc (.cells #[.int .i64 (tk P i).len, .int .i64 (tk P i).nb, .slice la (tk P i).links.length lc, .slice ua (tk P i).uses.length uc] 45)) := (Below.refl _ w).alloc (Nat.le_refl _) _
  have hS : PuS w0 b P s st (.slice (some ⟨g, o, none⟩) P.length cap) hv q z w.heap.size (tk P i).len (tk P i).nb (.slice la (tk P i).links.length lc) (.slice ua (tk P i).uses.length uc) w ((w.alloc (.cells #[.int .i64 (tk P i).len, .int .i64 (tk P i).nb, .slice la (tk P i).links.length lc, .slice ua (tk P i).uses.length uc] 45)).drew) :=
    ⟨(hp.step hn1).step (Below.drew (Below.refl _ _)), (TkB.new w _ _ _ _).step (Below.drew (Below.refl _ _)), Below.drew hn1⟩
  have KS := hide (fun (W : World) (hb : PlcR w0 b P s st (.slice (some ⟨g, o, none⟩) P.length cap) hv q z W) => soonest_any hG i hi s hbd _ q P.length W (hN.ts.below hb.b) hb.sp.at)
  have KP := hide (fun (x : Int) (hx : -4000000000000 ≤ x ∧ x ≤ 4000000000000) (W : World) => place_any (.slice la (tk P i).links.length lc) (.int .i64 (tk P i).nb) (.slice la (tk P i).links.length lc) (.slice ua (tk P i).uses.length uc) (tk P i).len x W hx hlen)
  have KR := hide (fun (f e : Int) (W : World) (hb : PlcR w0 b P s st (.slice (some ⟨g, o, none⟩) P.length cap) hv q z W) => hasRoom_any hG H s st b _ hv q z (tk P i).uses huse hus60 (tk P i).len (tk P i).nb (.slice la (tk P i).links.length lc) (.slice ua (tk P i).uses.length uc) ⟨_, _, _, rfl⟩ f e W (hb.w hN) (hus.below hb.b))
  have hst2 : stU st i = fun u => if u = i then true else st u := rfl
  have hpl : ∀ x, plc P i x = (x, x + (tk P i).len) := fun x => rfl
  have HL := hide hL
  have HFD := hide hfd
  have HN := hide hN
  have HPL := hide hpl
  have HSB := hide hsb
  have hgz : g < w.heap.size := World.block_lt_of_cell? w _ x0
  have hbz : b < w.heap.size := World.block_lt_of_cell? w _ c0
  clear y0 y1 y2 y3 hus hbd hfd hp hw hL hN hU hall hst2 hus60 huse hn1 hpl hsb hG
  generalize hsoon : soon P i s = f at *
  generalize htl : (tk P i).len = tl at *
  generalize (tk P i).nb = tn at *
  generalize (tk P i).links.length = ln at *
  generalize hun : (tk P i).uses = U at *
  generalize hul : U.length = ul at *
  go_enter Tryd.func52, Tryd.ntmps52
  go_wp2_with fail
  clear x0 x1 x2 x3 c0
  generalize w.alloc (.cells #[.int .i64 tl, .int .i64 tn, .slice la ln lc, .slice ua ul uc] 45) = W5 at *
  generalize hzB : w.heap.size = B at *
  refine wp_region_noPanic ?_
  refine wp_region_linGM (S := fun X => PuS w0 b P s st (.slice (some ⟨g, o, none⟩) P.length cap) hv q z B tl tn (.slice la ln lc) (.slice ua ul uc) w X) (R := fun _ => True) [] (by kernel_rfl) (by kernel_rfl) [(0, none, 1), (1, none, 1), (2, none, 1), (3, none, 0), (4, none, 1), (5, none, 1), (6, none, 1), (7, none, 1), (8, none, 0), (9, none, 2), (10, none, 1)] (by kernel_rfl) (by kernel_rfl) (fun _ _ _ _ _ h => h) (by exact trivial) (by exact hS) (fun ops' Q' hops hQ' => ?_)
  refine wpLinG_pure (o := { dst := some 18, op := Go.Op.move (Go.Operand.tmp 0), type := 105, pos := "level.go:65", after := #[], guard := none }) (v := ?vx0) (by rw [hops]; rfl) (by first | exact trivial | rfl) ?ex0 ?hx0
  case ex0 => intro w'; go_simp; (try rfl)
  (try simp only [Act.put, List.setIfInBounds_toArray, List.set_cons_zero, List.set_cons_succ])
  refine wpLinG_pure (o := { dst := some 19, op := Go.Op.nilCheck (Go.Operand.tmp 18), type := 0, pos := "level.go:65", after := #[{ on := 0, ground := Go.Ground.data }], guard := none }) (v := ?vx1) (by rw [hops]; rfl) (by first | exact trivial | rfl) ?ex1 ?hx1
  case ex1 => intro w'; go_simp; (try rfl)
  (try simp only [Act.put, List.setIfInBounds_toArray, List.set_cons_zero, List.set_cons_succ])
  refine wpLinG_pure (o := { dst := some 20, op := Go.Op.fieldAddr 79 (Go.Operand.tmp 19) 0, type := 0, pos := "level.go:65", after := #[{ on := 1, ground := Go.Ground.data }], guard := none }) (v := ?vx2) (by rw [hops]; rfl) (by first | exact trivial | rfl) ?ex2 ?hx2
  case ex2 => intro w'; go_simp; (try rfl)
  (try simp only [Act.put, List.setIfInBounds_toArray, List.set_cons_zero, List.set_cons_succ])
  refine wpLinG_read (o := { dst := some 21, op := Go.Op.load 22 (Go.Operand.tmp 20), type := 22, pos := "level.go:65", after := #[{ on := 2, ground := Go.Ground.data }], guard := none }) (v := ?vx3) (by rw [hops]; rfl) (by first | exact trivial | rfl) hS ?ex3 ?hx3
  case ex3 => intro w' hw'; obtain ⟨⟨c0, c1, c2, c3, _, _, _⟩, ⟨t0, t1, t2, t3⟩, _⟩ := hw'; go_simp; (try rfl)
  (try simp only [Act.put, List.setIfInBounds_toArray, List.set_cons_zero, List.set_cons_succ])
  refine wpLinG_pure (o := { dst := some 22, op := Go.Op.move (Go.Operand.tmp 1), type := 3, pos := "level.go:65", after := #[], guard := none }) (v := ?vx4) (by rw [hops]; rfl) (by first | exact trivial | rfl) ?ex4 ?hx4
  case ex4 => intro w'; go_simp; (try rfl)
  (try simp only [Act.put, List.setIfInBounds_toArray, List.set_cons_zero, List.set_cons_succ])
  refine wpLinG_pure (o := { dst := some 23, op := Go.Op.move (Go.Operand.tmp 0), type := 105, pos := "level.go:65", after := #[], guard := none }) (v := ?vx5) (by rw [hops]; rfl) (by first | exact trivial | rfl) ?ex5 ?hx5
  case ex5 => intro w'; go_simp; (try rfl)
  (try simp only [Act.put, List.setIfInBounds_toArray, List.set_cons_zero, List.set_cons_succ])
  refine wpLinG_pure (o := { dst := some 24, op := Go.Op.nilCheck (Go.Operand.tmp 23), type := 0, pos := "level.go:65", after := #[{ on := 5, ground := Go.Ground.data }], guard := none }) (v := ?vx6) (by rw [hops]; rfl) (by first | exact trivial | rfl) ?ex6 ?hx6
  case ex6 => intro w'; go_simp; (try rfl)
  (try simp only [Act.put, List.setIfInBounds_toArray, List.set_cons_zero, List.set_cons_succ])
  refine wpLinG_pure (o := { dst := some 25, op := Go.Op.fieldAddr 79 (Go.Operand.tmp 24) 2, type := 0, pos := "level.go:65", after := #[{ on := 6, ground := Go.Ground.data }], guard := none }) (v := ?vx7) (by rw [hops]; rfl) (by first | exact trivial | rfl) ?ex7 ?hx7
  case ex7 => intro w'; go_simp; (try rfl)
  (try simp only [Act.put, List.setIfInBounds_toArray, List.set_cons_zero, List.set_cons_succ])
  refine wpLinG_read (o := { dst := some 26, op := Go.Op.load 23 (Go.Operand.tmp 25), type := 23, pos := "level.go:65", after := #[{ on := 7, ground := Go.Ground.data }], guard := none }) (v := ?vx8) (by rw [hops]; rfl) (by first | exact trivial | rfl) hS ?ex8 ?hx8
  case ex8 => intro w' hw'; obtain ⟨⟨c0, c1, c2, c3, _, _, _⟩, ⟨t0, t1, t2, t3⟩, _⟩ := hw'; go_simp; (try rfl)
  (try simp only [Act.put, List.setIfInBounds_toArray, List.set_cons_zero, List.set_cons_succ])
  refine wpLinG_do (o := { dst := some 27, op := Go.Op.call { callee := Go.Callee.value (Go.Operand.func 56), args := #[Go.Operand.tmp 21, Go.Operand.tmp 22, Go.Operand.tmp 26], argTypes := #[22, 3, 23] }, type := 3, pos := "level.go:65", after := #[{ on := 3, ground := Go.Ground.data }, { on := 4, ground := Go.Ground.data }, { on := 8, ground := Go.Ground.data }], guard := none }) (by rw [hops]; rfl) (by first | exact trivial | rfl) (fun K hK => ?_)
  go_simp
  refine (KS.out _ hS.p).mono ?_
  rintro e X ⟨rfl, hb⟩
  replace hS := hS.step hb
  clear hb
  refine hK _ _ trivial hS ?_
  clear hK K
  (try simp only [Act.put, List.setIfInBounds_toArray, List.set_cons_zero, List.set_cons_succ])
  refine wpLinG_pure (o := { dst := some 5, op := Go.Op.assign (Go.Operand.tmp 27), type := 3, pos := "level.go:65", after := #[{ on := 9, ground := Go.Ground.data }, { on := 9, ground := Go.Ground.chain }, { on := 0, ground := Go.Ground.phase }, { on := 1, ground := Go.Ground.phase }, { on := 2, ground := Go.Ground.phase }, { on := 3, ground := Go.Ground.phase }, { on := 4, ground := Go.Ground.phase }, { on := 5, ground := Go.Ground.phase }, { on := 6, ground := Go.Ground.phase }, { on := 7, ground := Go.Ground.phase }, { on := 8, ground := Go.Ground.phase }, { on := 9, ground := Go.Ground.phase }], guard := none }) (v := ?vx10) (by rw [hops]; rfl) (by first | exact trivial | rfl) ?ex10 ?hx10
  case ex10 => intro w'; go_simp; (try rfl)
  (try simp only [Act.put, List.setIfInBounds_toArray, List.set_cons_zero, List.set_cons_succ])
  subst hQ'
  refine NoPanic.normal ?_
  clear hops KS
  have hq1 := hS.p.sp.lt
  have hz1 := hS.p.bo.lt
  have hb1 : b < X.heap.size := World.block_lt_of_cell? X _ hS.p.c0
  have c2 := hS.p.c2
  have hown0 : OwnZ (X.alloc (.cells #[.int .i64 f] 3)) X.heap.size (.slice (some ⟨X.heap.size, 0, none⟩) 1 1) (begN s st f 0) :=
    ⟨rfl, .inr ⟨X.heap.size, 1, #[.int .i64 f], rfl, Nat.le_refl _, World.alloc_heap_new X _, Nat.le_refl _, by unfold maxLen; omega, rfl, rfl⟩⟩
  have HO := hide (And.intro hown0 ((Below.refl _ X).alloc (Nat.le_refl _) (.cells #[.int .i64 f] 3)))
  have HS := hide hS
  clear hS hown0
  obtain ⟨i0, hi0, hz0, hz01, hz2⟩ := info_parts int_info
  go_wp2_with fail
  go_loopw [6, 35] (fun bv j wr => ∃ m : Nat, m ≤ P.length ∧ j = .int .i64 m ∧ OwnZ wr X.heap.size bv (begN s st f m) ∧ Below X.heap.size X wr) (fun _ j _ => P.length - (intOf j).toNat)
  case atStart => exact ⟨0, by omega, rfl, HO.out⟩
  case round =>
    clear HO c2
    obtain ⟨m, hm, rfl, hown, hB⟩ := hrel
    have hbl := begN_len s st f m
    by_cases hlt : m < P.length
    · have hmi : (m : Int) < (P.length : Int) := by omega
      have hpw := (HS.out.step hB).p
      have s0 := (hpw.sp.at m hlt).1
      have s1 := (hpw.sp.at m hlt).2
      have b0 := hpw.bo.at m hlt
      have c3 := hpw.c3
      have hbr : b < wr.heap.size := by have := hB.size; omega
      have hzr : z < wr.heap.size := by have := hB.size; omega
      have hqr : q < wr.heap.size := by have := hB.size; omega
      have hnx : begN s st f (m + 1) = if st m = true ∧ f < (s m).2 then begN s st f m ++ [(s m).2] else begN s st f m := rfl
      have HB := hide hB
      have hsz := hB.size
      clear hpw hB
      generalize begN s st f m = zs at *
      generalize (s m).1 = sf at *
      generalize (s m).2 = se at *
      cases hst : st m with
      | false =>
        rw [hst] at b0
        rw [hst, if_neg (by simp)] at hnx
        go_wp2_with fail
        go_roundw
        case rel => exact ⟨m + 1, by omega, by go_num, by rw [hnx]; exact hown.alloc _, HB.out.alloc HB.out.size _⟩
        case measure => simp [intOf]; omega
      | true =>
        rw [hst] at b0
        by_cases hd : f < se
        · rw [hst, if_pos ⟨rfl, hd⟩] at hnx
          have hcn := cell_one_new (wr.alloc (.cells #[.int .i64 sf, .int .i64 se] 37)) (.int .i64 se) 3
          rw [World.size_alloc] at hcn
          go_wp2_with (at_builtin; refine wpList_append_own _ rfl _ _ 31 rfl X.heap.size 3 i0 (.int .i64 0) 1 8 Tryd.underlying31 hi0 hz0 hz01 hz2 rfl (by decide) _ _ _ rfl ((hown.alloc (.cells #[.int .i64 sf, .int .i64 se] 37)).alloc (.cells #[.int .i64 se] 3)) ⟨wr.heap.size + 1, 0, none⟩ 1 1 [.int .i64 se] rfl rfl hcn (ints_oneCell .i64 [se]) (by unfold maxLen; omega) (by omega) (by simp; omega) ?_; intro v' w1 hown1 hgrow1 hnil1)
          have hr1 := (hown.alloc (.cells #[.int .i64 sf, .int .i64 se] 37)).alloc (.cells #[.int .i64 se] 3)
          have hbn : Below X.heap.size X w1 := ((HB.out.alloc hsz _).alloc (by simp; omega) _).grown hgrow1 (by simp; omega) (fun j hj => (hr1.lt j hj).1)
          go_roundw
          case rel => exact ⟨m + 1, by omega, by go_num, by rw [hnx]; unfold OwnZ; rw [List.length_append, List.map_append]; exact hown1, hbn⟩
          case measure => simp [intOf]; omega
        · rw [hst, if_neg (fun h => hd h.2)] at hnx
          go_wp2_with fail
          go_roundw
          case rel => exact ⟨m + 1, by omega, by go_num, by rw [hnx]; exact hown.alloc _, HB.out.alloc HB.out.size _⟩
          case measure => simp [intOf]; omega
    · obtain rfl : m = P.length := by omega
      have hmi : ¬ (P.length : Int) < (P.length : Int) := by omega
      obtain ⟨ba, bc, rfl⟩ := ownZ_len hown
      have hbs : begS P s st i = (begN s st f P.length).mergeSort fun x y => decide (x ≤ y) := by unfold begS; rw [hsoon]
      have KO := hide (sort_own X.heap.size _ (begN s st f P.length) wr hown (by omega) (by omega) hB.size)
      have hll : (begS P s st i).length = (begN s st f P.length).length := by rw [hbs]; exact List.length_mergeSort _
      rw [← hbs] at KO
      have HB := hide hB
      clear hown hB hbs
      generalize hzn : (begN s st f P.length).length = zn at *
      go_wp2_with (go_at_call 69; refine KO.out.mono ?_; rintro e w1 ⟨rfl, hown1, hb1', hsz1, _⟩)
      generalize hLL : begS P s st i = L at *
      subst hll
      have hX1 : Below X.heap.size X w1 := HB.out.trans hb1'
      have hS1 := HS.out.step hX1
      have HO1 := hide hown1
      have HLB := hide (show ∀ x ∈ L, -4000000000000 ≤ x ∧ x ≤ 4000000000000 from fun x hx => by
        rw [← hLL] at hx
        have hl := HL.out.bd
        have := HSB.out
        rcases begS_mem.1 hx with rfl | ⟨j, _, _, _, rfl⟩
        · rw [hsoon]; omega
        · have := hl j; omega)
      have HS1 := hide hS1
      clear hown1 hb1' hX1 hS1 HB
      go_loopw [63] (fun j wr => ∃ m : Nat, m ≤ L.length ∧ j = .int .i64 m ∧ (∀ x ∈ L.take m, hrs P H s st U x (x + tl) = false) ∧ Below w1.heap.size w1 wr) (fun j _ => L.length - (intOf j).toNat)
      case atStart => exact ⟨0, by omega, rfl, fun x hx => by simp at hx, Below.refl _ _⟩
      case round =>
        rename_i wr0 _ _
        obtain ⟨m, hm, rfl, hno, hB⟩ := hrel
        by_cases hlt : m < L.length
        · have hmi : (m : Int) < (L.length : Int) := by omega
          have hSw := HS1.out.step hB
          have how := own_bel HO1.out hB
          obtain ⟨g0, ec0⟩ : ∃ g0, ba = some ⟨g0, 0, none⟩ := by
            rcases how.2 with ⟨e, e0⟩ | ⟨g', cap', cur, e, _⟩
            · omega
            · obtain ⟨rfl, rfl⟩ : ba = some ⟨g', 0, none⟩ ∧ bc = cap' := by simpa using e
              exact ⟨g', rfl⟩
          subst ec0
          have hcm := (how.cellAt m (by simpa using hlt)).trans (show (L.map (Value.int .i64))[m]? = some (.int .i64 L[m]) by rw [List.getElem?_map, List.getElem?_eq_getElem hlt]; rfl)
          have hbm : -4000000000000 ≤ L[m] ∧ L[m] ≤ 4000000000000 := HLB.out _ (List.getElem_mem hlt)
          have hyes := findAt (fun x => hrs P H s st U x (x + tl)) L m hno hlt
          have hnx : L.take (m + 1) = L.take m ++ [L[m]] := List.take_succ_eq_append_getElem hlt
          have HB := hide hB
          have HNO := hide hno
          clear how hB hno
          generalize L[m] = x at *
          have hS : PuS w0 b P s st (.slice (some ⟨g, o, none⟩) P.length cap) hv q z B tl tn (.slice la ln lc) (.slice ua ul uc) w wr.drew ∧ Below w1.heap.size w1 wr.drew := ⟨hSw.step (Below.drew (Below.refl _ wr)), Below.drew HB.out⟩
          have hgr := hSw.b.size
          go_wp2_with fail
          clear hcm
          refine wp_region_noPanic ?_
          refine wp_region_linGM (S := fun X => PuS w0 b P s st (.slice (some ⟨g, o, none⟩) P.length cap) hv q z B tl tn (.slice la ln lc) (.slice ua ul uc) w X ∧ Below w1.heap.size w1 X) (R := fun _ => True) [] (by kernel_rfl) (by kernel_rfl) [(0, none, 1), (1, none, 0), (2, none, 0), (3, none, 1), (4, none, 2), (5, none, 2)] (by kernel_rfl) (by kernel_rfl) (fun _ _ _ _ _ h => h) (by exact trivial) (by exact hS) (fun ops' Q' hops hQ' => ?_)
          refine wpLinG_pure (o := { dst := some 67, op := Go.Op.move (Go.Operand.tmp 0), type := 105, pos := "level.go:74", after := #[], guard := none }) (v := ?vy0) (by rw [hops]; rfl) (by first | exact trivial | rfl) ?ey0 ?hy0
          case ey0 => intro w'; go_simp; (try rfl)
          (try simp only [Act.put, List.setIfInBounds_toArray, List.set_cons_zero, List.set_cons_succ])
          refine wpLinG_read (o := { dst := some 68, op := Go.Op.load 45 (Go.Operand.tmp 4), type := 45, pos := "level.go:74", after := #[], guard := none }) (v := ?vy1) (by rw [hops]; rfl) (by first | exact trivial | rfl) hS ?ey1 ?hy1
          case ey1 => intro w' hw'; obtain ⟨⟨⟨c0, c1, c2, c3, _, _, _⟩, ⟨t0, t1, t2, t3⟩, _⟩, _⟩ := hw'; go_simp; (try rfl)
          (try simp only [Act.put, List.setIfInBounds_toArray, List.set_cons_zero, List.set_cons_succ])
          refine wpLinG_read (o := { dst := some 69, op := Go.Op.load 45 (Go.Operand.tmp 4), type := 45, pos := "level.go:74", after := #[], guard := none }) (v := ?vy2) (by rw [hops]; rfl) (by first | exact trivial | rfl) hS ?ey2 ?hy2
          case ey2 => intro w' hw'; obtain ⟨⟨⟨c0, c1, c2, c3, _, _, _⟩, ⟨t0, t1, t2, t3⟩, _⟩, _⟩ := hw'; go_simp; (try rfl)
          (try simp only [Act.put, List.setIfInBounds_toArray, List.set_cons_zero, List.set_cons_succ])
          refine wpLinG_pure (o := { dst := some 70, op := Go.Op.move (Go.Operand.tmp 10), type := 3, pos := "level.go:74", after := #[], guard := none }) (v := ?vy3) (by rw [hops]; rfl) (by first | exact trivial | rfl) ?ey3 ?hy3
          case ey3 => intro w'; go_simp; (try rfl)
          (try simp only [Act.put, List.setIfInBounds_toArray, List.set_cons_zero, List.set_cons_succ])
          refine wpLinG_do (o := { dst := some 71, op := Go.Op.call { callee := Go.Callee.value (Go.Operand.func 55), args := #[Go.Operand.tmp 69, Go.Operand.tmp 70], argTypes := #[45, 3] }, type := 37, pos := "level.go:74", after := #[{ on := 2, ground := Go.Ground.data }, { on := 3, ground := Go.Ground.data }], guard := none }) (by rw [hops]; rfl) (by first | exact trivial | rfl) (fun K hK => ?_)
          go_simp
          refine (KP.out _ hbm _).mono ?_
          rintro e X1 ⟨rfl, hb⟩
          replace hS := And.intro (hS.1.step hb) (hS.2.trans (hb.mono hS.2.size))
          clear hb
          refine hK _ _ trivial hS ?_
          clear hK K
          (try simp only [Act.put, List.setIfInBounds_toArray, List.set_cons_zero, List.set_cons_succ])
          refine wpLinG_do (o := { dst := some 72, op := Go.Op.call { callee := Go.Callee.value (Go.Operand.func 70), args := #[Go.Operand.tmp 67, Go.Operand.tmp 68, Go.Operand.tmp 71], argTypes := #[105, 45, 37] }, type := 4, pos := "level.go:74", after := #[{ on := 0, ground := Go.Ground.data }, { on := 1, ground := Go.Ground.data }, { on := 4, ground := Go.Ground.data }, { on := 4, ground := Go.Ground.chain }], guard := none }) (by rw [hops]; rfl) (by first | exact trivial | rfl) (fun K hK => ?_)
          go_simp
          refine (KR.out _ _ _ hS.1.p).mono ?_
          rintro e X2 ⟨rfl, hb⟩
          replace hS := And.intro (hS.1.step hb) (hS.2.trans (hb.mono hS.2.size))
          clear hb
          refine hK _ _ trivial hS ?_
          clear hK K
          (try simp only [Act.put, List.setIfInBounds_toArray, List.set_cons_zero, List.set_cons_succ])
          subst hQ'
          refine NoPanic.normal ?_
          clear hops
          generalize hr : hrs P H s st U x (x + tl) = r at *
          cases r with
          | false =>
            go_wp2_with fail
            go_roundw
            case rel => exact ⟨m + 1, by omega, by go_num, fun y hy => (by
              rw [hnx] at hy
              rcases List.mem_append.1 hy with h | h
              · exact HNO.out y h
              · rw [List.mem_singleton.1 h]; exact hr), hS.2⟩
            case measure => simp [intOf]; omega
          | true =>
            go_wp2_with fail
            replace hS := And.intro (hS.1.step (Below.drew (Below.refl _ X2))) (Below.drew hS.2)
            refine wp_region_noPanic ?_
            refine wp_region_linGM (S := fun X => PuS w0 b P s st (.slice (some ⟨g, o, none⟩) P.length cap) hv q z B tl tn (.slice la ln lc) (.slice ua ul uc) w X ∧ Below w1.heap.size w1 X) (R := fun _ => True) [14, 16] (by kernel_rfl) (by kernel_rfl) [(0, none, 1), (1, none, 1), (2, none, 1), (3, none, 0), (4, none, 1), (5, none, 1), (6, none, 1), (7, none, 1), (8, none, 0), (9, none, 1), (10, none, 0), (11, none, 1), (12, none, 2), (13, none, 1), (14, none, 3), (15, none, 1), (16, none, 3)] (by kernel_rfl) (by kernel_rfl) (fun _ _ _ _ _ h => h) (by exact trivial) (by exact hS) (fun ops' Q' hops hQ' => ?_)
            refine wpLinG_pure (o := { dst := some 73, op := Go.Op.move (Go.Operand.tmp 0), type := 105, pos := "level.go:75", after := #[], guard := none }) (v := ?vu0) (by rw [hops]; rfl) (by first | exact trivial | rfl) ?eu0 ?hu0
            case eu0 => intro w'; go_simp; (try rfl)
            (try simp only [Act.put, List.setIfInBounds_toArray, List.set_cons_zero, List.set_cons_succ])
            refine wpLinG_pure (o := { dst := some 74, op := Go.Op.nilCheck (Go.Operand.tmp 73), type := 0, pos := "level.go:75", after := #[{ on := 0, ground := Go.Ground.data }], guard := none }) (v := ?vu1) (by rw [hops]; rfl) (by first | exact trivial | rfl) ?eu1 ?hu1
            case eu1 => intro w'; go_simp; (try rfl)
            (try simp only [Act.put, List.setIfInBounds_toArray, List.set_cons_zero, List.set_cons_succ])
            refine wpLinG_pure (o := { dst := some 75, op := Go.Op.fieldAddr 79 (Go.Operand.tmp 74) 2, type := 0, pos := "level.go:75", after := #[{ on := 1, ground := Go.Ground.data }], guard := none }) (v := ?vu2) (by rw [hops]; rfl) (by first | exact trivial | rfl) ?eu2 ?hu2
            case eu2 => intro w'; go_simp; (try rfl)
            (try simp only [Act.put, List.setIfInBounds_toArray, List.set_cons_zero, List.set_cons_succ])
            refine wpLinG_read (o := { dst := some 76, op := Go.Op.load 23 (Go.Operand.tmp 75), type := 23, pos := "level.go:75", after := #[{ on := 2, ground := Go.Ground.data }], guard := none }) (v := ?vu3) (by rw [hops]; rfl) (by first | exact trivial | rfl) hS ?eu3 ?hu3
            case eu3 => intro w' hw'; obtain ⟨⟨⟨c0, c1, c2, c3, _, _, _⟩, ⟨t0, t1, t2, t3⟩, _⟩, _⟩ := hw'; go_simp; (try rfl)
            (try simp only [Act.put, List.setIfInBounds_toArray, List.set_cons_zero, List.set_cons_succ])
            refine wpLinG_pure (o := { dst := some 77, op := Go.Op.move (Go.Operand.tmp 1), type := 3, pos := "level.go:75", after := #[], guard := none }) (v := ?vu4) (by rw [hops]; rfl) (by first | exact trivial | rfl) ?eu4 ?hu4
            case eu4 => intro w'; go_simp; (try rfl)
            (try simp only [Act.put, List.setIfInBounds_toArray, List.set_cons_zero, List.set_cons_succ])
            refine wpLinG_pure (o := { dst := some 78, op := Go.Op.move (Go.Operand.tmp 0), type := 105, pos := "level.go:75", after := #[], guard := none }) (v := ?vu5) (by rw [hops]; rfl) (by first | exact trivial | rfl) ?eu5 ?hu5
            case eu5 => intro w'; go_simp; (try rfl)
            (try simp only [Act.put, List.setIfInBounds_toArray, List.set_cons_zero, List.set_cons_succ])
            refine wpLinG_pure (o := { dst := some 79, op := Go.Op.nilCheck (Go.Operand.tmp 78), type := 0, pos := "level.go:75", after := #[{ on := 5, ground := Go.Ground.data }], guard := none }) (v := ?vu6) (by rw [hops]; rfl) (by first | exact trivial | rfl) ?eu6 ?hu6
            case eu6 => intro w'; go_simp; (try rfl)
            (try simp only [Act.put, List.setIfInBounds_toArray, List.set_cons_zero, List.set_cons_succ])
            refine wpLinG_pure (o := { dst := some 80, op := Go.Op.fieldAddr 79 (Go.Operand.tmp 79) 3, type := 0, pos := "level.go:75", after := #[{ on := 6, ground := Go.Ground.data }], guard := none }) (v := ?vu7) (by rw [hops]; rfl) (by first | exact trivial | rfl) ?eu7 ?hu7
            case eu7 => intro w'; go_simp; (try rfl)
            (try simp only [Act.put, List.setIfInBounds_toArray, List.set_cons_zero, List.set_cons_succ])
            refine wpLinG_read (o := { dst := some 81, op := Go.Op.load 77 (Go.Operand.tmp 80), type := 77, pos := "level.go:75", after := #[{ on := 7, ground := Go.Ground.data }], guard := none }) (v := ?vu8) (by rw [hops]; rfl) (by first | exact trivial | rfl) hS ?eu8 ?hu8
            case eu8 => intro w' hw'; obtain ⟨⟨⟨c0, c1, c2, c3, _, _, _⟩, ⟨t0, t1, t2, t3⟩, _⟩, _⟩ := hw'; go_simp; (try rfl)
            (try simp only [Act.put, List.setIfInBounds_toArray, List.set_cons_zero, List.set_cons_succ])
            refine wpLinG_pure (o := { dst := some 82, op := Go.Op.move (Go.Operand.tmp 1), type := 3, pos := "level.go:75", after := #[{ on := 14, ground := Go.Ground.gcOnly Go.Departure.lateStores }], guard := none }) (v := ?vu9) (by rw [hops]; rfl) (by first | exact trivial | rfl) ?eu9 ?hu9
            case eu9 => intro w'; go_simp; (try rfl)
            (try simp only [Act.put, List.setIfInBounds_toArray, List.set_cons_zero, List.set_cons_succ])
            refine wpLinG_read (o := { dst := some 83, op := Go.Op.load 45 (Go.Operand.tmp 4), type := 45, pos := "level.go:75", after := #[], guard := none }) (v := ?vu10) (by rw [hops]; rfl) (by first | exact trivial | rfl) hS ?eu10 ?hu10
            case eu10 => intro w' hw'; obtain ⟨⟨⟨c0, c1, c2, c3, _, _, _⟩, ⟨t0, t1, t2, t3⟩, _⟩, _⟩ := hw'; go_simp; (try rfl)
            (try simp only [Act.put, List.setIfInBounds_toArray, List.set_cons_zero, List.set_cons_succ])
            refine wpLinG_pure (o := { dst := some 84, op := Go.Op.move (Go.Operand.tmp 10), type := 3, pos := "level.go:75", after := #[], guard := none }) (v := ?vu11) (by rw [hops]; rfl) (by first | exact trivial | rfl) ?eu11 ?hu11
            case eu11 => intro w'; go_simp; (try rfl)
            (try simp only [Act.put, List.setIfInBounds_toArray, List.set_cons_zero, List.set_cons_succ])
            refine wpLinG_do (o := { dst := some 85, op := Go.Op.call { callee := Go.Callee.value (Go.Operand.func 55), args := #[Go.Operand.tmp 83, Go.Operand.tmp 84], argTypes := #[45, 3] }, type := 37, pos := "level.go:75", after := #[{ on := 10, ground := Go.Ground.data }, { on := 11, ground := Go.Ground.data }], guard := none }) (by rw [hops]; rfl) (by first | exact trivial | rfl) (fun K hK => ?_)
            go_simp
            refine (KP.out _ hbm _).mono ?_
            rintro e X3 ⟨rfl, hb⟩
            replace hS := And.intro (hS.1.step hb) (hS.2.trans (hb.mono hS.2.size))
            clear hb
            refine hK _ _ trivial hS ?_
            clear hK K
            (try simp only [Act.put, List.setIfInBounds_toArray, List.set_cons_zero, List.set_cons_succ])
            refine wpLinG_pure (o := { dst := some 86, op := Go.Op.indexAddr 23 (Go.Operand.tmp 76) (Go.Operand.tmp 77), type := 0, pos := "level.go:75", after := #[{ on := 3, ground := Go.Ground.data }, { on := 4, ground := Go.Ground.data }, { on := 0, ground := Go.Ground.phase }, { on := 1, ground := Go.Ground.phase }, { on := 2, ground := Go.Ground.phase }, { on := 3, ground := Go.Ground.phase }, { on := 4, ground := Go.Ground.phase }, { on := 5, ground := Go.Ground.textOnly Go.Departure.lateStores }, { on := 6, ground := Go.Ground.textOnly Go.Departure.lateStoresUnsure }, { on := 7, ground := Go.Ground.textOnly Go.Departure.lateStoresUnsure }, { on := 8, ground := Go.Ground.phase }, { on := 9, ground := Go.Ground.textOnly Go.Departure.lateStores }, { on := 10, ground := Go.Ground.phase }, { on := 11, ground := Go.Ground.phase }, { on := 12, ground := Go.Ground.phase }], guard := none }) (v := ?vu13) (by rw [hops]; rfl) (by first | exact trivial | rfl) ?eu13 ?hu13
            case eu13 => intro w'; go_simp; (try rfl)
            (try simp only [Act.put, List.setIfInBounds_toArray, List.set_cons_zero, List.set_cons_succ])
            refine wpLinG_store (o := { dst := none, op := Go.Op.store 37 (Go.Operand.tmp 86) (Go.Operand.tmp 85), type := 0, pos := "level.go:75", after := #[{ on := 13, ground := Go.Ground.data }, { on := 12, ground := Go.Ground.data }, { on := 12, ground := Go.Ground.chain }, { on := 0, ground := Go.Ground.phase }, { on := 1, ground := Go.Ground.phase }, { on := 2, ground := Go.Ground.phase }, { on := 3, ground := Go.Ground.phase }, { on := 4, ground := Go.Ground.phase }, { on := 5, ground := Go.Ground.textOnly Go.Departure.lateStores }, { on := 6, ground := Go.Ground.textOnly Go.Departure.lateStoresUnsure }, { on := 7, ground := Go.Ground.textOnly Go.Departure.lateStoresUnsure }, { on := 8, ground := Go.Ground.phase }, { on := 9, ground := Go.Ground.textOnly Go.Departure.lateStores }, { on := 10, ground := Go.Ground.phase }, { on := 11, ground := Go.Ground.phase }, { on := 12, ground := Go.Ground.phase }], guard := none }) (by rw [hops]; rfl) (by first | exact trivial | rfl) (fun K hK => ?_)
            go_simp
            have hcx := (hS.1.p.sp.at i hi).1
            have hcy := (hS.1.p.sp.at i hi).2
            have hfx := hS.1.p.sp.froz (i * 2)
            have hfy := hS.1.p.sp.froz (i * 2 + 1)
            go_simp
            refine hK _ _ trivial ?_
            clear hK K
            (try simp only [Act.put, List.setIfInBounds_toArray, List.set_cons_zero, List.set_cons_succ])
            refine wpLinG_pure (o := { dst := some 87, op := Go.Op.indexAddr 77 (Go.Operand.tmp 81) (Go.Operand.tmp 82), type := 0, pos := "level.go:75", after := #[{ on := 8, ground := Go.Ground.data }, { on := 9, ground := Go.Ground.data }, { on := 0, ground := Go.Ground.phase }, { on := 1, ground := Go.Ground.phase }, { on := 2, ground := Go.Ground.phase }, { on := 3, ground := Go.Ground.phase }, { on := 4, ground := Go.Ground.phase }, { on := 5, ground := Go.Ground.phase }, { on := 6, ground := Go.Ground.phase }, { on := 7, ground := Go.Ground.phase }, { on := 8, ground := Go.Ground.phase }, { on := 9, ground := Go.Ground.phase }, { on := 10, ground := Go.Ground.phase }, { on := 11, ground := Go.Ground.phase }, { on := 12, ground := Go.Ground.phase }, { on := 13, ground := Go.Ground.phase }, { on := 14, ground := Go.Ground.phase }], guard := none }) (v := ?vu15) (by rw [hops]; rfl) (by first | exact trivial | rfl) ?eu15 ?hu15
            case eu15 => intro w'; go_simp; (try rfl)
            (try simp only [Act.put, List.setIfInBounds_toArray, List.set_cons_zero, List.set_cons_succ])
            refine wpLinG_store (o := { dst := none, op := Go.Op.store 4 (Go.Operand.tmp 87) (Go.Operand.const (Go.Value.bool true)), type := 0, pos := "level.go:75", after := #[{ on := 15, ground := Go.Ground.data }, { on := 14, ground := Go.Ground.chain }, { on := 0, ground := Go.Ground.phase }, { on := 1, ground := Go.Ground.phase }, { on := 2, ground := Go.Ground.phase }, { on := 3, ground := Go.Ground.phase }, { on := 4, ground := Go.Ground.phase }, { on := 5, ground := Go.Ground.phase }, { on := 6, ground := Go.Ground.phase }, { on := 7, ground := Go.Ground.phase }, { on := 8, ground := Go.Ground.phase }, { on := 9, ground := Go.Ground.phase }, { on := 10, ground := Go.Ground.phase }, { on := 11, ground := Go.Ground.phase }, { on := 12, ground := Go.Ground.phase }, { on := 13, ground := Go.Ground.phase }, { on := 14, ground := Go.Ground.phase }], guard := none }) (by rw [hops]; rfl) (by first | exact trivial | rfl) (fun K hK => ?_)
            go_simp
            have hcz := (hS.1.p.bo.other ⟨q, i * 2, none⟩ (fun e => HN.out.qz e.symm) (.int .i64 x)).at i hi
            have hfz := hS.1.p.bo.froz i
            go_simp
            refine hK _ _ trivial ?_
            clear hK K
            (try simp only [Act.put, List.setIfInBounds_toArray, List.set_cons_zero, List.set_cons_succ])
            subst hQ'
            refine NoPanic.normal ?_
            clear hops
            have hpb : putB P H s st i = x := Option.some.inj (HFD.out.1.symm.trans (hyes trivial))
            have hput := hS.1.p.put HN.out i hi x (x + tl)
            have hkq := (KQ2.of hS.1.b).put (q := q) (z := z) (i * 2) (i * 2 + 1) i (.int .i64 x) (.int .i64 (x + tl)) (.bool true)
            go_wp2_with fail
            refine bodyPost_ret (results_none rfl _ _ _) rfl ?_
            rw [hpb, HPL.out x]
            exact ⟨rfl, hput, hkq⟩
        · obtain rfl : m = L.length := by omega
          rw [List.take_length] at hno
          have hnone : L.find? (fun b => hrs P H s st U b (b + tl)) = none := List.find?_eq_none.2 fun x hx => by simp [hno x hx]
          rw [HFD.out.1] at hnone
          cases hnone
end Go.Proofs.YtjmjabdokckdlaaDoor
