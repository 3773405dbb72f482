/- PlanLeast, walked. (Written by gen/plnk.py.) -/
import Derived.Test.YtldcjmnboagnkaaDoorPlnJ
namespace Go.Proofs.YtldcjmnboagnkaaDoor
open Go.RowKit Go.Shelf
set_option linter.unusedVariables false
set_option linter.unusedSimpArgs false

theorem cells_new4 (X : World) (a b c d : Value) (T : TypeId) : ∀ j u, ([a, b, c, d] : List Value)[j]? = some u → (X.alloc (.cells #[a, b, c, d] T)).cell? ((⟨X.heap.size, 0, none⟩ : Addr).add j) = some u
  | 0, u, h => by rw [Addr.add_lit]; simpa using h
  | 1, u, h => by rw [Addr.add_lit]; simpa using h
  | 2, u, h => by rw [Addr.add_lit]; simpa using h
  | 3, u, h => by rw [Addr.add_lit]; simpa using h
  | j + 4, u, h => by simp at h
/-- what the building of the other plan keeps -/
structure DlS (X0 : World) (P : List Tk) (D : List Int) (LV UV : Nat → Value) (v : Value) (m : Nat) (X : World) : Prop where
  own : X.ownsRow X0.heap.size 45 4 v m (tC P D LV UV m)
  b : Below X0.heap.size X0 X
theorem DlS.step {X0 : World} {P : List Tk} {D : List Int} {LV UV : Nat → Value} {v : Value} {m : Nat} {X X' : World} (h : DlS X0 P D LV UV v m X) (hb : Below X.heap.size X X') : DlS X0 P D LV UV v m X' := ⟨own_bel h.own hb, h.b.trans (hb.mono h.b.size)⟩
theorem own_setNew {w : World} {base z n : Nat} {v : Value} {ty : TypeId} {xs : List Value} (h : w.ownsRow base ty z v n xs) (p : Addr) (hp : ∀ j, v.ownBlock = some j → j ≠ p.block) (u : Value) : (w.setCell p u).ownsRow base ty z v n xs :=
  ⟨h.1, h.2.imp id fun ⟨g, cap, cur, h1, h2, h3, h4⟩ => ⟨g, cap, cur, h1, h2, (Below.heap_setCell w p u g (hp g (by rw [h1]; rfl))).trans h3, h4⟩⟩
/-- a task's box, whole -/
def TkH (z : Nat) (a b : Int) (c d : Value) (X : World) : Prop := X.heap[z]? = some (.cells #[.int .i64 a, .int .i64 b, c, d] 45 (0, 0))
theorem TkH.step {z : Nat} {a b : Int} {c d : Value} {X X' : World} (h : TkH z a b c d X) (hb : Below X.heap.size X X') : TkH z a b c d X' := (hb.block z (Array.getElem?_eq_some_iff.1 h).1).trans h
theorem TkH.cells {z : Nat} {a b : Int} {c d : Value} {X : World} (h : TkH z a b c d X) : TkB z a b c d X ∧ ∀ j, X.frozen? ⟨z, j, none⟩ = false :=
  ⟨⟨(cell_of_row _ _ _ _ _ (0, 0) h).trans rfl, (cell_of_row _ _ _ _ _ (0, 0) h).trans rfl, (cell_of_row _ _ _ _ _ (0, 0) h).trans rfl, (cell_of_row _ _ _ _ _ (0, 0) h).trans rfl⟩, fun j => frozen_of_row _ _ _ _ _ h⟩
theorem TkH.set1 {z : Nat} {a b : Int} {c d : Value} {X : World} (h : TkH z a b c d X) (b' : Int) : TkH z a b' c d (X.setCell ⟨z, 1, none⟩ (.int .i64 b')) := by
  have := heap_setCell_same X z 1 _ _ (.int .i64 b') h
  exact this
/-- the argument -/
structure PArg (P : List Tk) (D : List Int) (ad : Option Addr) (c : Nat) (LV UV : Nat → Value) (dv : Value) (w : World) : Prop where
  hd : Hd w
  hv : TsAt w (.slice ad P.length c) P
  ha : ∀ j, j < P.length → ∃ g o, ad = some ⟨g, o, none⟩ ∧ w.cell? ⟨g, o + j * 4, none⟩ = some (.int .i64 (tk P j).len) ∧ w.cell? ⟨g, o + j * 4 + 1, none⟩ = some (.int .i64 (tk P j).nb) ∧ w.cell? ⟨g, o + j * 4 + 2, none⟩ = some (LV j) ∧ w.cell? ⟨g, o + j * 4 + 3, none⟩ = some (UV j) ∧ LsAt w (LV j) (tk P j).links ∧ NsAt w (UV j) (tk P j).uses
  hD : NsAt w dv D
set_option maxRecDepth 100000 in
set_option maxHeartbeats 4000000 in
theorem least_no (P : List Tk) (D : List Int) (ad : Option Addr) (c : Nat) (LV UV : Nat → Value) (dv : Value) (w : World) (h : PArg P D ad c LV UV dv w) (h2 : ¬ 200 < P.length) (hk : chkP P ≠ 0) :
    Calls Tryd.prog 5 #[.slice ad P.length c, dv] w fun e w' => e = .returned (.bool true) ∧ Below w.heap.size w w' := by
  have KE := hide (pearly_any P _ w h.hd h.hv)
  have KC := hide (fun W (hb : Below w.heap.size w W) => pcheck_any P _ W (h.hd.later hb) (h.hv.below hb))
  have h2i : ¬ (200 : Int) < (P.length : Int) := by omega
  clear h
  generalize chkP P = k at *
  go_enter Tryd.func5, Tryd.ntmps5
  go_wp2_with (first
    | (go_at_call 8; refine KE.out.mono ?_; rintro e W1 ⟨u, rfl, hs, hf, b1⟩; have HB1 := hide b1)
    | (go_at_call 19; refine (KC.out _ HB1.out).mono ?_; rintro e W2 ⟨rfl, b2⟩))
  go_ret
  exact ⟨ret_bool (by simp), HB1.out.trans (b2.mono HB1.out.size)⟩
set_option maxRecDepth 100000 in
set_option maxHeartbeats 16000000 in
theorem least_yes (P : List Tk) (D : List Int) (ad : Option Addr) (c : Nat) (LV UV : Nat → Value) (dv : Value) (w : World) (h : PArg P D ad c LV UV dv w) (hk : chkP P = 0) :
    Calls Tryd.prog 5 #[.slice ad P.length c, dv] w fun e w' => e = .returned (.bool true) ∧ Below w.heap.size w w' := by
  have hG := (chk_good hk).1
  have h60 := hG.n60
  have h2i : ¬ (200 : Int) < (P.length : Int) := by omega
  have KE := hide (pearly_any P _ w h.hd h.hv)
  have KC := hide (fun W (hb : Below w.heap.size w W) => pcheck_any P _ W (h.hd.later hb) (h.hv.below hb))
  have KN := hide (fun W (hb : Below w.heap.size w W) => pend_any P _ W (h.hd.later hb) (h.hv.below hb))
  have KF := hide (fun (s : Sp) (q : Nat) W (hb : Below w.heap.size w W) (hf : Fits P s) (hs : SpBd P.length s) (hq : SpR q P.length s W) => fits_any hG s hf hs _ q P.length W (h.hv.below hb) hq.at)
  have en : eNv P = eN P := by unfold eNv; rw [if_pos hk]
  rw [hk] at KE
  simp only [hk] at KC
  simp only [hk, en] at KN
  have H := hide h
  have HG := hide hG
  obtain ⟨i0, hi, hz0, hz1, hz2⟩ := info_parts task_info
  obtain ⟨dd, dc, rfl, hdl⟩ := h.hD
  have HDL := hide hdl
  clear h hG hdl
  go_enter Tryd.func5, Tryd.ntmps5
  go_wp2_with (first
    | (go_at_call 8; refine KE.out.mono ?_; rintro e W1 ⟨u, rfl, hs, hf, b1⟩; obtain ⟨q, rfl, hq, hsp⟩ := hs.1 rfl; have HB1 := hide b1; have HS1 := hide hsp; have HF := hide (hf rfl); clear hs hf b1 hsp)
    | (go_at_call 19; refine (KC.out _ HB1.out).mono ?_; rintro e W2 ⟨rfl, b2⟩; have HB2 := hide (HB1.out.trans (b2.mono HB1.out.size)); have HS2 := hide (HS1.out.step b2); clear b2)
    | (go_at_call 10; refine (KN.out _ HB2.out).mono ?_; rintro e W3 ⟨rfl, b3⟩; have HB3 := hide (HB2.out.trans (b3.mono HB2.out.size)); have HS3 := hide (HS2.out.step b3); clear b3)
    | (go_at_call 25; refine (KF.out _ _ _ HB3.out HF.out.fits HF.out.spbd HS3.out).mono ?_; rintro e W4 ⟨rfl, b4⟩; have HB4 := hide (HB3.out.trans (b4.mono HB3.out.size)); have HS4 := hide (HS3.out.step b4); clear b4))
  clear HB1 HB2 HB3 HS1 HS2 HS3 KE KC KN
  have hdr : ∀ n, Below W4.heap.size W4 (W4.drewN n) := fun n => bdr (Below.refl _ _) n
  have hqz : q < W4.heap.size := HS4.out.lt
  go_loopw [10, 11] (fun rv j wr => ∃ m : Nat, m ≤ P.length ∧ j = .int .i64 m ∧ DlS W4 P D LV UV rv m wr) (fun _ j _ => P.length - (intOf j).toNat)
  case atStart => exact ⟨0, by omega, rfl, World.ownsRow_nil _ _ _ _, Below.refl _ _⟩
  case round =>
    obtain ⟨m, hm, rfl, hL⟩ := hrel
    by_cases hlt : m < P.length
    · have hmi : (m : Int) < (P.length : Int) := by omega
      obtain ⟨g, o, rfl, y0, y1, y2, y3, hls, hus⟩ := H.out.ha m hlt
      obtain ⟨la, lc, hLV, _⟩ := hls
      obtain ⟨ua, uc, hUV, _⟩ := hus
      have hbw : Below w.heap.size w wr := HB4.out.trans (hL.b.mono HB4.out.size)
      have x0 := (hbw.cell (World.block_lt_of_cell? w _ y0)).trans y0
      have x1 := (hbw.cell (World.block_lt_of_cell? w _ y1)).trans y1
      have x2 := (hbw.cell (World.block_lt_of_cell? w _ y2)).trans y2
      have x3 := (hbw.cell (World.block_lt_of_cell? w _ y3)).trans y3
      have hnx : tC P D LV UV (m + 1) = tC P D LV UV m ++ [.int .i64 (tk P m).len, .int .i64 (nbM P D m), LV m, UV m] := rfl
      have hnb := HG.out.nb m hlt
      rw [hLV] at x2 hnx
      rw [hUV] at x3 hnx
      have HB := hide hbw
      have HL := hide hL
      have hN := (Below.refl _ wr).alloc (Nat.le_refl _) (.cells #[.int .i64 (tk P m).len, .int .i64 (tk P m).nb, .slice la (tk P m).links.length lc, .slice ua (tk P m).uses.length uc] 45)
      have HN := hide hN
      have HT : Hid (TkH wr.heap.size (tk P m).len (tk P m).nb (.slice la (tk P m).links.length lc) (.slice ua (tk P m).uses.length uc) (wr.alloc (.cells #[.int .i64 (tk P m).len, .int .i64 (tk P m).nb, .slice la (tk P m).links.length lc, .slice ua (tk P m).uses.length uc] 45))) := World.alloc_heap_new wr _
      have hXz : W4.heap.size ≤ wr.heap.size := hL.b.size
      clear y0 y1 y2 y3 hL hbw hN
      by_cases hD : m < D.length
      · have hDi : (m : Int) < (D.length : Int) := by omega
        have hnv : nbM P D m = min 1000000 ((tk P m).nb + pk (D.getD m 0)) := by unfold nbM; rw [if_pos hD]
        rw [hnv] at hnx
        obtain ⟨dg, do', rfl, z0⟩ := HDL.out m hD
        have hpb := pk_bd (D.getD m 0)
        have KP := hide (fun W => pick_any (D.getD m 0) W)
        have xd := (HB.out.cell (World.block_lt_of_cell? w _ z0)).trans z0
        clear z0 hnv
        generalize D.getD m 0 = dv at *
        generalize (tk P m).links.length = ln at *
        generalize (tk P m).uses.length = un at *
        generalize (tk P m).len = tl at *
        generalize (tk P m).nb = tn at *
        have hi64 := i64_id (x := tn + pk dv) (by omega) (by omega)
        go_wp2_with fail
        have hS : TkH wr.heap.size tl tn (.slice la ln lc) (.slice ua un uc) ((wr.alloc (.cells #[.int .i64 tl, .int .i64 tn, .slice la ln lc, .slice ua un uc] 45)).drew) ∧ ((wr.alloc (.cells #[.int .i64 tl, .int .i64 tn, .slice la ln lc, .slice ua un uc] 45)).drew).cell? ⟨dg, do' + m, none⟩ = some (.int .i64 dv) ∧ Below wr.heap.size wr ((wr.alloc (.cells #[.int .i64 tl, .int .i64 tn, .slice la ln lc, .slice ua un uc] 45)).drew) :=
          ⟨HT.out.step (Below.drew (Below.refl _ _)), ((HN.out.drew).cell (World.block_lt_of_cell? wr _ xd)).trans xd, HN.out.drew⟩
        clear x0 x1 x2 x3 xd HN HT
        generalize wr.alloc (.cells #[.int .i64 tl, .int .i64 tn, .slice la ln lc, .slice ua un uc] 45) = W5 at *
        generalize hz : wr.heap.size = z at *
        refine wp_region_noPanic ?_
        refine wp_region_linGM (S := fun X => TkH z tl tn (.slice la ln lc) (.slice ua un uc) X ∧ X.cell? ⟨dg, do' + m, none⟩ = some (.int .i64 dv) ∧ Below z wr X) (R := fun _ => True) [10] (by kernel_rfl) (by kernel_rfl) [(0, none, 1), (1, none, 0), (2, none, 1), (3, none, 1), (4, none, 1), (5, none, 0), (6, none, 2), (7, none, 1), (8, none, 1), (9, none, 1), (10, none, 3)] (by kernel_rfl) (by kernel_rfl) (fun _ _ _ _ _ h => h) (by exact trivial) (by exact hS) (fun ops' Q' hops hQ' => ?_)
        refine wpLinG_pure (o := { dst := some 66, op := Go.Op.fieldAddr 45 (Go.Operand.tmp 12) 1, type := 0, pos := "house.go:296", after := #[], guard := none }) (v := ?vx0) (by rw [hops]; rfl) (by first | exact trivial | rfl) ?ex0 ?hx0
        case ex0 => intro w'; go_simp; (try rfl)
        (try simp only [Act.put, List.setIfInBounds_toArray, List.set_cons_zero, List.set_cons_succ])
        refine wpLinG_read (o := { dst := some 67, op := Go.Op.load 3 (Go.Operand.tmp 66), type := 3, pos := "house.go:296", after := #[{ on := 0, ground := Go.Ground.data }], guard := none }) (v := ?vx1) (by rw [hops]; rfl) (by first | exact trivial | rfl) hS ?ex1 ?hx1
        case ex1 => intro w' hw'; obtain ⟨ht, hd, _⟩ := hw'; obtain ⟨t0, t1, t2, t3⟩ := ht.cells.1; go_simp; (try rfl)
        (try simp only [Act.put, List.setIfInBounds_toArray, List.set_cons_zero, List.set_cons_succ])
        refine wpLinG_pure (o := { dst := some 68, op := Go.Op.move (Go.Operand.tmp 1), type := 31, pos := "house.go:296", after := #[], guard := none }) (v := ?vx2) (by rw [hops]; rfl) (by first | exact trivial | rfl) ?ex2 ?hx2
        case ex2 => intro w'; go_simp; (try rfl)
        (try simp only [Act.put, List.setIfInBounds_toArray, List.set_cons_zero, List.set_cons_succ])
        refine wpLinG_pure (o := { dst := some 69, op := Go.Op.move (Go.Operand.tmp 11), type := 3, pos := "house.go:296", after := #[], guard := none }) (v := ?vx3) (by rw [hops]; rfl) (by first | exact trivial | rfl) ?ex3 ?hx3
        case ex3 => intro w'; go_simp; (try rfl)
        (try simp only [Act.put, List.setIfInBounds_toArray, List.set_cons_zero, List.set_cons_succ])
        refine wpLinG_pure (o := { dst := some 70, op := Go.Op.indexAddr 31 (Go.Operand.tmp 68) (Go.Operand.tmp 69), type := 0, pos := "house.go:296", after := #[{ on := 2, ground := Go.Ground.data }, { on := 3, ground := Go.Ground.data }], guard := none }) (v := ?vx4) (by rw [hops]; rfl) (by first | exact trivial | rfl) ?ex4 ?hx4
        case ex4 => intro w'; go_simp; (try rfl)
        (try simp only [Act.put, List.setIfInBounds_toArray, List.set_cons_zero, List.set_cons_succ])
        refine wpLinG_read (o := { dst := some 71, op := Go.Op.load 3 (Go.Operand.tmp 70), type := 3, pos := "house.go:296", after := #[{ on := 4, ground := Go.Ground.data }], guard := none }) (v := ?vx5) (by rw [hops]; rfl) (by first | exact trivial | rfl) hS ?ex5 ?hx5
        case ex5 => intro w' hw'; obtain ⟨ht, hd, _⟩ := hw'; obtain ⟨t0, t1, t2, t3⟩ := ht.cells.1; go_simp; (try rfl)
        (try simp only [Act.put, List.setIfInBounds_toArray, List.set_cons_zero, List.set_cons_succ])
        refine wpLinG_do (o := { dst := some 72, op := Go.Op.call { callee := Go.Callee.value (Go.Operand.func 26), args := #[Go.Operand.tmp 71, Go.Operand.const (Go.Value.int Go.IntKind.i64 500)], argTypes := #[3, 3] }, type := 3, pos := "house.go:296", after := #[{ on := 5, ground := Go.Ground.data }], guard := none }) (by rw [hops]; rfl) (by first | exact trivial | rfl) (fun K hK => ?_)
        go_simp
        refine (KP.out _).mono ?_
        rintro e X16 ⟨rfl, hX⟩
        rw [← hX] at hS
        clear hX
        refine hK _ _ trivial hS ?_
        clear hK K
        (try simp only [Act.put, List.setIfInBounds_toArray, List.set_cons_zero, List.set_cons_succ])
        refine wpLinG_pure (o := { dst := some 73, op := Go.Op.binOp Go.BinOp.add 3 (Go.Operand.tmp 67) (Go.Operand.tmp 72) 3, type := 3, pos := "house.go:296", after := #[{ on := 1, ground := Go.Ground.data }, { on := 6, ground := Go.Ground.data }], guard := none }) (v := ?vx7) (by rw [hops]; rfl) (by first | exact trivial | rfl) ?ex7 ?hx7
        case ex7 => intro w'; go_simp; (try rfl)
        (try simp only [Act.put, List.setIfInBounds_toArray, List.set_cons_zero, List.set_cons_succ])
        refine wpLinG_pure (o := { dst := some 74, op := Go.Op.call { callee := Go.Callee.builtin Go.Builtin.min, args := #[Go.Operand.const (Go.Value.int Go.IntKind.i64 1000000), Go.Operand.tmp 73], argTypes := #[3, 3] }, type := 3, pos := "house.go:296", after := #[{ on := 7, ground := Go.Ground.data }], guard := none }) (v := ?vx8) (by rw [hops]; rfl) (by first | exact trivial | rfl) ?ex8 ?hx8
        case ex8 => intro w'; go_simp; (try rfl)
        (try simp only [Act.put, List.setIfInBounds_toArray, List.set_cons_zero, List.set_cons_succ])
        refine wpLinG_pure (o := { dst := some 75, op := Go.Op.fieldAddr 45 (Go.Operand.tmp 12) 1, type := 0, pos := "house.go:296", after := #[{ on := 0, ground := Go.Ground.phase }, { on := 1, ground := Go.Ground.phase }, { on := 2, ground := Go.Ground.phase }, { on := 3, ground := Go.Ground.phase }, { on := 4, ground := Go.Ground.phase }, { on := 5, ground := Go.Ground.phase }, { on := 6, ground := Go.Ground.phase }, { on := 7, ground := Go.Ground.phase }, { on := 8, ground := Go.Ground.phase }], guard := none }) (v := ?vx9) (by rw [hops]; rfl) (by first | exact trivial | rfl) ?ex9 ?hx9
        case ex9 => intro w'; go_simp; (try rfl)
        (try simp only [Act.put, List.setIfInBounds_toArray, List.set_cons_zero, List.set_cons_succ])
        refine wpLinG_store (o := { dst := none, op := Go.Op.store 3 (Go.Operand.tmp 75) (Go.Operand.tmp 74), type := 0, pos := "house.go:296", after := #[{ on := 9, ground := Go.Ground.data }, { on := 8, ground := Go.Ground.data }, { on := 6, ground := Go.Ground.chain }, { on := 0, ground := Go.Ground.phase }, { on := 1, ground := Go.Ground.phase }, { on := 2, ground := Go.Ground.phase }, { on := 3, ground := Go.Ground.phase }, { on := 4, ground := Go.Ground.phase }, { on := 5, ground := Go.Ground.phase }, { on := 6, ground := Go.Ground.phase }, { on := 7, ground := Go.Ground.phase }, { on := 8, ground := Go.Ground.phase }], guard := none }) (by rw [hops]; rfl) (by first | exact trivial | rfl) (fun K hK => ?_)
        go_simp
        (try simp only [min_if])
        have hcb := hS.1.cells.1.c1
        have hcf := hS.1.cells.2 1
        go_simp
        refine hK _ _ trivial ?_
        clear hK K
        (try simp only [Act.put, List.setIfInBounds_toArray, List.set_cons_zero, List.set_cons_succ])
        subst hQ'
        refine NoPanic.normal ?_
        clear hops
        have hT6 := hS.1.set1 (min 1000000 (tn + pk dv))
        have hown := own_setNew (own_bel HL.out.own (by rw [hz]; exact hS.2.2)) ⟨z, 1, none⟩ (fun j hj => by have := HL.out.own.lt j hj; show j ≠ z; omega) (.int .i64 (min 1000000 (tn + pk dv)))
        have hB6 : Below W4.heap.size W4 (X16.setCell ⟨z, 1, none⟩ (.int .i64 (min 1000000 (tn + pk dv)))) := (HL.out.b.trans (hS.2.2.mono hXz)).setCell (by show _ ≤ z; omega) _
        clear hS hcb hcf hpb hi64 KP
        generalize hnv : min 1000000 (tn + pk dv) = nv at *
        generalize hW6 : X16.setCell ⟨z, 1, none⟩ (.int .i64 nv) = W6 at *
        obtain ⟨t0, t1, t2, t3⟩ := hT6.cells.1
        have hz6 : W4.heap.size ≤ W6.heap.size := hB6.size
        go_wp2_with (at_builtin; refine wpList_append_own _ rfl _ _ 22 rfl W4.heap.size 45 i0 (.agg #[.int .i64 0, .int .i64 0, .slice none 0 0, .slice none 0 0]) 4 64 Tryd.underlying22 hi hz0 hz1 hz2 rfl (by decide) _ _ _ rfl (hown.alloc _) ⟨W6.heap.size, 0, none⟩ 1 1 [.int .i64 tl, .int .i64 nv, .slice la ln lc, .slice ua un uc] rfl rfl (cells_new4 _ _ _ _ _ _) (fun u hu => by simp at hu; rcases hu with rfl | rfl | rfl | rfl <;> rfl) (by unfold maxLen; omega) (by omega) (by simp; omega) ?_; intro v' w1 hown1 hgrow1 hnil1)
        have hr1 := hown.alloc (.cells #[.int .i64 tl, .int .i64 nv, .slice la ln lc, .slice ua un uc] 45)
        go_roundw
        case rel => exact ⟨m + 1, by omega, by go_num, ⟨by rw [hnx]; exact hown1, (hB6.alloc (by omega) _).grown hgrow1 (by simp; omega) (fun j hj => (hr1.lt j hj).1)⟩⟩
        case measure => simp [intOf]; omega
      · have hDi : ¬ (m : Int) < (D.length : Int) := by omega
        have hnv : nbM P D m = (tk P m).nb := by unfold nbM; rw [if_neg hD]
        rw [hnv] at hnx
        have hown := own_bel HL.out.own HN.out
        have hB6 := HL.out.b.alloc HL.out.b.size (.cells #[.int .i64 (tk P m).len, .int .i64 (tk P m).nb, .slice la (tk P m).links.length lc, .slice ua (tk P m).uses.length uc] 45)
        obtain ⟨t0, t1, t2, t3⟩ := HT.out.cells.1
        generalize (tk P m).links.length = ln at *
        generalize (tk P m).uses.length = un at *
        generalize (tk P m).len = tl at *
        generalize (tk P m).nb = nv at *
        generalize hW6 : wr.alloc (.cells #[.int .i64 tl, .int .i64 nv, .slice la ln lc, .slice ua un uc] 45) = W6 at *
        have hz6 : W4.heap.size ≤ W6.heap.size := hB6.size
        clear hnv HN HT hnb
        go_wp2_with (at_builtin; refine wpList_append_own _ rfl _ _ 22 rfl W4.heap.size 45 i0 (.agg #[.int .i64 0, .int .i64 0, .slice none 0 0, .slice none 0 0]) 4 64 Tryd.underlying22 hi hz0 hz1 hz2 rfl (by decide) _ _ _ rfl (hown.alloc _) ⟨W6.heap.size, 0, none⟩ 1 1 [.int .i64 tl, .int .i64 nv, .slice la ln lc, .slice ua un uc] rfl rfl (cells_new4 _ _ _ _ _ _) (fun u hu => by simp at hu; rcases hu with rfl | rfl | rfl | rfl <;> rfl) (by unfold maxLen; omega) (by omega) (by simp; omega) ?_; intro v' w1 hown1 hgrow1 hnil1)
        have hr1 := hown.alloc (.cells #[.int .i64 tl, .int .i64 nv, .slice la ln lc, .slice ua un uc] 45)
        go_roundw
        case rel => exact ⟨m + 1, by omega, by go_num, ⟨by rw [hnx]; exact hown1, (hB6.alloc (by omega) _).grown hgrow1 (by simp; omega) (fun j hj => (hr1.lt j hj).1)⟩⟩
        case measure => simp [intOf]; omega
    · obtain rfl : m = P.length := by omega
      have hbw : Below w.heap.size w wr := HB4.out.trans (hL.b.mono HB4.out.size)
      have hTQ : TsAt wr u10 (delP P D P.length) := tC_ts (w := w) hL.own (fun j hj => by obtain ⟨g, o, _, _, _, _, _, hl, _⟩ := H.out.ha j hj; exact hl.below hbw) (fun j hj => by obtain ⟨g, o, _, _, _, _, _, _, hu⟩ := H.out.ha j hj; exact hu.below hbw)
      have hdel := del_of HG.out D
      have hkQ := hdel.chk HG.out
      rw [hk] at hkQ
      have hd2 := H.out.hd.later hbw
      have enQ : eNv (delP P D P.length) = eN (delP P D P.length) := by unfold eNv; rw [if_pos hkQ]
      have KE2 := hide (pearly_any (delP P D P.length) u10 wr hd2 hTQ)
      have KN2 := hide (fun W (hb : Below wr.heap.size wr W) => pend_any (delP P D P.length) u10 W (hd2.later hb) (hTQ.below hb))
      have KL2 := hide (fun W (hb : Below w.heap.size w W) => plate_any P (eN (delP P D P.length)) _ W (H.out.hd.later hb) (H.out.hv.below hb))
      rw [hkQ] at KE2
      simp only [hkQ, enQ] at KN2
      have HDel := hide hdel
      have HBW := hide hbw
      have HS5 := hide (HS4.out.step hL.b)
      have hmz : W4.heap.size ≤ wr.heap.size := hL.b.size
      clear hL hTQ hdel hkQ hd2 enQ hbw HB4 HS4
      have hlQ := HDel.out.l
      generalize delP P D P.length = Q at *
      go_wp2_with (first
        | (go_at_call 8; refine KE2.out.mono ?_; rintro e W5 ⟨u2, rfl, hs, hf, b5⟩; obtain ⟨q2, rfl, hq2, hsp2⟩ := hs.1 rfl; rw [hlQ] at hsp2 ⊢; have HFQ := hide (hf rfl); have HM := hide (least_math HF.out HFQ.out HDel.out); have HB5 := hide b5; have HBW5 := hide (HBW.out.trans (b5.mono HBW.out.size)); have HS6 := hide (HS5.out.step b5); have HT6 := hide hsp2; clear hs hf b5 hsp2)
        | (go_at_call 10; refine (KN2.out _ HB5.out).mono ?_; rintro e W6 ⟨rfl, b6⟩; have HBW6 := hide (HBW5.out.trans (b6.mono HBW5.out.size)); have HS7 := hide (HS6.out.step b6); have HT7 := hide (HT6.out.step b6); clear b6)
        | (go_at_call 13; refine (KL2.out _ HBW6.out).mono ?_; rintro e W7 ⟨u3, rfl, hs, b7⟩; have hm1 := HM.out.2.1; rw [hm1] at hs ⊢; obtain ⟨q3, rfl, hq3, hsp3⟩ := hs.1 rfl; have hge : ¬ eN Q < eN P := (by have := HM.out.1; omega); have HBW7 := hide (HBW6.out.trans (b7.mono HBW6.out.size)); have HS8 := hide (HS7.out.step b7); have HT8 := hide (HT7.out.step b7); have HU8 := hide hsp3; clear hs b7 hsp3 hm1)
        | (go_at_call 25; refine (KF.out _ _ _ HBW7.out (HDel.out.fits HG.out _ HFQ.out.fits) (by have := HFQ.out.spbd; rw [hlQ] at this; exact this) HT8.out).mono ?_; rintro e W8 ⟨rfl, b8⟩; have HBW8 := hide (HBW7.out.trans (b8.mono HBW7.out.size)); have HS9 := hide (HS8.out.step b8); have HT9 := hide (HT8.out.step b8); have HU9 := hide (HU8.out.step b8); clear b8))
      have HMI := hide HM.out.2.2
      clear HB5 HBW5 HS6 HT6 KE2 KN2 KL2 HBW6 HS7 HT7 HBW7 HS8 HT8 HU8 hge HM HS5 HBW HFQ HDel KF
      have hq9 := HS9.out.lt
      have hq9' := HT9.out.lt
      have hq9'' := HU9.out.lt
      generalize lS P (eN Q) = sL at *
      generalize eS Q = sQ at *
      generalize eS P = sP at *
      generalize eN Q = nQ at *
      go_loopw [19] (fun j wx => ∃ i : Nat, i ≤ P.length ∧ j = .int .i64 i ∧ Below W8.heap.size W8 wx) (fun j _ => P.length - (intOf j).toNat)
      case atStart => exact ⟨0, by omega, rfl, by first | exact Below.refl _ _ | exact bdr (Below.refl _ _) _⟩
      case round =>
        obtain ⟨i, hi', rfl, hB⟩ := hrel
        by_cases hil : i < P.length
        · have hii : (i : Int) < (P.length : Int) := by omega
          obtain ⟨m1, m2, m3, _⟩ := HMI.out i hil
          have d1 : decide ((sQ i).1 < (sP i).1) = false := decide_eq_false (by omega)
          have d2 : decide ((sL i).1 < (sQ i).1) = false := decide_eq_false (by omega)
          have d3 : decide (nQ < (sL i).2) = false := decide_eq_false (by omega)
          have x1 := ((HS9.out.step hB).at i hil).1
          have x2 := ((HT9.out.step hB).at i hil).1
          have x3 := ((HU9.out.step hB).at i hil).1
          have x4 := ((HU9.out.step hB).at i hil).2
          have HBB := hide hB
          clear hB m1 m2 m3
          generalize (sQ i).1 = a1 at *
          generalize (sP i).1 = a2 at *
          generalize (sL i).1 = a3 at *
          generalize (sL i).2 = a4 at *
          go_wp2_with fail
          go_quiet (fail)
          go_wp2_with fail
          go_roundw
          case rel => exact ⟨i + 1, by omega, by go_num, by repeat (first | exact HBB.out | apply bdr)⟩
          case measure => simp [intOf]; omega
        · obtain rfl : i = P.length := by omega
          have HBB := hide hB
          clear hB
          go_wp2_with fail
          go_ret
          exact ⟨rfl, HBW8.out.trans (HBB.out.mono HBW8.out.size)⟩
theorem least_walk (P : List Tk) (D : List Int) (v dv : Value) (w : World) (hd : Hd w) (hv : TsAt w v P) (hD : NsAt w dv D) :
    Calls Tryd.prog 5 #[v, dv] w fun e w' => e = .returned (.bool true) ∧ Below w.heap.size w w' := by
  obtain ⟨ad, c, LV, UV, rfl, hall⟩ := ts_form hv
  by_cases h2 : 200 < P.length
  · have h2i : (200 : Int) < (P.length : Int) := by omega
    go_enter Tryd.func5, Tryd.ntmps5
    go_wp2_with fail
    go_ret
    exact ⟨rfl, Below.refl _ _⟩
  · by_cases hk : chkP P = 0
    · exact least_yes P D ad c LV UV dv w ⟨hd, hv, hall, hD⟩ hk
    · exact least_no P D ad c LV UV dv w ⟨hd, hv, hall, hD⟩ h2 hk
end Go.Proofs.YtldcjmnboagnkaaDoor
