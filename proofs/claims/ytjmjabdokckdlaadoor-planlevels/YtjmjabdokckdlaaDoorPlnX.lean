/- plan: next. (Written by gen/plnx.py.) -/
import Derived.Test.YtjmjabdokckdlaaDoorPlnW
namespace Go.Proofs.YtjmjabdokckdlaaDoor
open Go.RowKit Go.Shelf
set_option linter.unusedVariables false
set_option linter.unusedSimpArgs false

/-- the task that gets its place next, of the first m; -1: none -/
def nxN (P : List Tk) (st : Nat → Bool) (l : Sp) : Nat → Int
  | 0 => -1
  | m + 1 => if st m = false ∧ hav st (tk P m).links = true ∧ (nxN P st l m < 0 ∨ (l m).1 < (l (nxN P st l m).toNat).1) then (m : Int) else nxN P st l m
theorem nxN_bd (P : List Tk) (st : Nat → Bool) (l : Sp) : ∀ m, -1 ≤ nxN P st l m ∧ nxN P st l m < m ∨ (m = 0 ∧ nxN P st l m = -1)
  | 0 => .inr ⟨rfl, rfl⟩
  | m + 1 => by
    have := nxN_bd P st l m
    left
    rw [nxN]
    split <;> omega
/-- where any task can get its place, one does -/
theorem nxN_is {P : List Tk} {st : Nat → Bool} {l : Sp} : ∀ {m i : Nat}, i < m → st i = false → hav st (tk P i).links = true → 0 ≤ nxN P st l m
  | m + 1, i, h, h1, h2 => by
    rw [nxN]
    by_cases e : i = m
    · subst e
      split
      · omega
      · rename_i hn
        by_cases c : nxN P st l i < 0
        · exact absurd ⟨h1, h2, .inl c⟩ hn
        · omega
    · have := nxN_is (l := l) (m := m) (by omega) h1 h2
      split <;> omega
/-- what it is -/
theorem nxN_can {P : List Tk} {st : Nat → Bool} {l : Sp} : ∀ {m : Nat}, 0 ≤ nxN P st l m → (nxN P st l m).toNat < m ∧ st (nxN P st l m).toNat = false ∧ hav st (tk P (nxN P st l m).toNat).links = true
  | m + 1, h => by
    rw [nxN] at h ⊢
    split at h
    · rename_i c
      rw [if_pos c]
      rw [Int.toNat_natCast]
      exact ⟨by omega, c.1, c.2.1⟩
    · rename_i c
      rw [if_neg c]
      have := nxN_can h
      exact ⟨by omega, this.2⟩
/-- what stands about a task -/
structure NxS (b z m n tz : Nat) (lv : Value) (x : Bool) (w0 X : World) : Prop where
  c3 : X.cell? ⟨b, 3, none⟩ = some (.slice (some ⟨z, 0, none⟩) n n)
  b0 : X.cell? ⟨z, m, none⟩ = some (.bool x)
  l2 : X.cell? ⟨tz, 2, none⟩ = some lv
  b : Below w0.heap.size w0 X
theorem NxS.step {b z m n tz : Nat} {lv : Value} {x : Bool} {w0 X X' : World} (h : NxS b z m n tz lv x w0 X) (hb : Below X.heap.size X X') : NxS b z m n tz lv x w0 X' :=
  have e {p : Addr} {v : Value} (e : X.cell? p = some v) : X'.cell? p = some v := (hb.cell (World.block_lt_of_cell? X _ e)).trans e
  ⟨e h.c3, e h.b0, e h.l2, h.b.trans (hb.mono h.b.size)⟩
set_option maxRecDepth 100000 in
set_option maxHeartbeats 8000000 in
theorem next_any {P : List Tk} (hG : Good P) (H : List Int) (s : Sp) (st : Nat → Bool) (b : Nat) (tv hv : Value) (q z : Nat) (l : Sp) (ql : Nat) (w : World) (hp : PlcW b P H s st tv hv q z w) (hl : SpAt ql P.length l w) :
    Calls Tryd.prog 53 #[.pointer (some ⟨b, 0, none⟩), .slice (some ⟨ql, 0, none⟩) P.length P.length] w fun ev w' => ev = .returned (.int .i64 (nxN P st l P.length)) ∧ Below w.heap.size w w' := by
  have hts := hp.ts
  obtain ⟨ad, cap, rfl, hall⟩ := hts
  have h60 := hG.n60
  have HG := hide hG
  have HP := hide hp
  have HL := hide hl
  have HALL := hide hall
  have c0 := hp.c0
  clear hp hG hl hall
  go_enter Tryd.func53, Tryd.ntmps53
  go_wp2_with fail
  go_loopw [5, 13] (fun nv j wr => ∃ m : Nat, m ≤ P.length ∧ j = .int .i64 m ∧ nv = .int .i64 (nxN P st l m) ∧ Below w.heap.size w wr) (fun _ j _ => P.length - (intOf j).toNat)
  case atStart => exact ⟨0, by omega, rfl, rfl, Below.refl _ _⟩
  case round =>
    clear c0
    obtain ⟨m, hm, rfl, rfl, hB⟩ := hrel
    by_cases hlt : m < P.length
    · have hmi : (m : Int) < (P.length : Int) := by omega
      have hp := HP.out.below hB
      have b0 := hp.bo m hlt
      have c3 := hp.c3
      obtain ⟨g, o, lv, uv, rfl, y0, y1, y2, y3, hls, hus⟩ := HALL.out m hlt
      have hls' := hls
      obtain ⟨la, lc, rfl, _⟩ := hls'
      obtain ⟨ua, uc, rfl, _⟩ := hus
      have x0 := (hB.cell (World.block_lt_of_cell? w _ y0)).trans y0
      have x1 := (hB.cell (World.block_lt_of_cell? w _ y1)).trans y1
      have x2 := (hB.cell (World.block_lt_of_cell? w _ y2)).trans y2
      have x3 := (hB.cell (World.block_lt_of_cell? w _ y3)).trans y3
      have l0 := ((HL.out.below hB) m hlt).1
      have hnb := nxN_bd P st l m
      have hnx : nxN P st l (m + 1) = if st m = false ∧ hav st (tk P m).links = true ∧ (nxN P st l m < 0 ∨ (l m).1 < (l (nxN P st l m).toNat).1) then (m : Int) else nxN P st l m := rfl
      have hlk := HG.out.link m hlt
      have hcn := HG.out.cnt m hlt
      have KH := hide (fun (W : World) (hb : Below wr.heap.size wr W) => haveAll_any z P.length st P.length (tk P m).links _ W (hls.below (hB.trans (hb.mono hB.size))) (fun x hx => ⟨(hlk x hx).1, (hlk x hx).2.1⟩) (hp.bo.below hb) hcn.1)
      have hbz : b < wr.heap.size := World.block_lt_of_cell? wr _ c3
      have hzz : z < wr.heap.size := World.block_lt_of_cell? wr _ b0
      have hgz : g < wr.heap.size := World.block_lt_of_cell? wr _ x0
      have hqz : ql < wr.heap.size := World.block_lt_of_cell? wr _ l0
      have hBn := hB.alloc hB.size (.cells #[.int .i64 (tk P m).len, .int .i64 (tk P m).nb, .slice la (tk P m).links.length lc, .slice ua (tk P m).uses.length uc] 45)
      have hN := (Below.refl _ wr).alloc (Nat.le_refl _) (.cells #[.int .i64 (tk P m).len, .int .i64 (tk P m).nb, .slice la (tk P m).links.length lc, .slice ua (tk P m).uses.length uc] 45)
      have HLr := hide (HL.out.below hB)
      have HB := hide hB
      have HBn := hide hBn
      have HN := hide hN
      clear y0 y1 y2 y3 hls hp hB hBn hN hlk hcn l0
      generalize (tk P m).len = tl at *
      generalize (tk P m).nb = tn at *
      generalize hln : (tk P m).links.length = ln at *
      generalize (tk P m).uses.length = un at *
      cases hst : st m with
      | true =>
        rw [hst] at b0
        rw [if_neg (by rw [hst]; simp)] at hnx
        generalize nxN P st l m = nx at *
        go_wp2_with fail
        go_quiet (fail)
        go_wp2_with fail
        go_roundw
        case rel => exact ⟨m + 1, by omega, by go_num, by rw [hnx], by repeat (first | exact HBn.out | apply bdr)⟩
        case measure => simp [intOf]; omega
      | false =>
        rw [hst] at b0
        generalize hhv : hav st (tk P m).links = hh at *
        generalize hnn : nxN P st l m = nx at *
        go_wp2_with fail
        have hS : NxS b z m P.length wr.heap.size (.slice la ln lc) false wr ((wr.alloc (.cells #[.int .i64 tl, .int .i64 tn, .slice la ln lc, .slice ua un uc] 45)).drew) :=
          NxS.step (X := wr.alloc (.cells #[.int .i64 tl, .int .i64 tn, .slice la ln lc, .slice ua un uc] 45)) ⟨(HN.out.cell hbz).trans c3, (HN.out.cell hzz).trans b0, by simp, HN.out⟩ (Below.drew (Below.refl _ _))
        clear x0 x1 x2 x3 c3 b0 HN HBn
        generalize wr.alloc (.cells #[.int .i64 tl, .int .i64 tn, .slice la ln lc, .slice ua un uc] 45) = W5 at *
        generalize hz : wr.heap.size = tz at *
        refine wp_region_noPanic ?_
        refine wp_region_linGM (S := fun X => NxS b z m P.length tz (.slice la ln lc) false wr X) (R := fun _ => True) [] (by kernel_rfl) (by kernel_rfl) [(0, none, 1), (1, none, 1), (2, none, 1), (3, none, 0), (4, none, 1), (5, none, 1), (6, none, 0), (7, none, 1), (8, some (25, false), 1), (9, some (25, false), 0), (10, some (25, false), 1), (11, some (25, false), 1), (12, some (25, false), 1), (13, some (25, false), 0), (14, some (25, false), 2), (15, some (25, false), 1), (16, none, 1)] (by kernel_rfl) (by kernel_rfl) (fun _ _ _ _ _ h => h) (by exact trivial) (by exact hS) (fun ops' Q' hops hQ' => ?_)
        refine wpLinG_pure (o := { dst := some 18, op := Go.Op.move (Go.Operand.tmp 0), type := 105, pos := "level.go:52", after := #[], guard := none }) (v := ?vx0) (by rw [hops]; rfl) (by first | exact trivial | rfl) ?ex0 ?hx0
        case ex0 => intro w'; go_simp; (try rfl)
        (try simp only [Act.put, List.setIfInBounds_toArray, List.set_cons_zero, List.set_cons_succ])
        refine wpLinG_pure (o := { dst := some 19, op := Go.Op.nilCheck (Go.Operand.tmp 18), type := 0, pos := "level.go:52", after := #[{ on := 0, ground := Go.Ground.data }], guard := none }) (v := ?vx1) (by rw [hops]; rfl) (by first | exact trivial | rfl) ?ex1 ?hx1
        case ex1 => intro w'; go_simp; (try rfl)
        (try simp only [Act.put, List.setIfInBounds_toArray, List.set_cons_zero, List.set_cons_succ])
        refine wpLinG_pure (o := { dst := some 20, op := Go.Op.fieldAddr 79 (Go.Operand.tmp 19) 3, type := 0, pos := "level.go:52", after := #[{ on := 1, ground := Go.Ground.data }], guard := none }) (v := ?vx2) (by rw [hops]; rfl) (by first | exact trivial | rfl) ?ex2 ?hx2
        case ex2 => intro w'; go_simp; (try rfl)
        (try simp only [Act.put, List.setIfInBounds_toArray, List.set_cons_zero, List.set_cons_succ])
        refine wpLinG_read (o := { dst := some 21, op := Go.Op.load 77 (Go.Operand.tmp 20), type := 77, pos := "level.go:52", after := #[{ on := 2, ground := Go.Ground.data }], guard := none }) (v := ?vx3) (by rw [hops]; rfl) (by first | exact trivial | rfl) hS ?ex3 ?hx3
        case ex3 => intro w' hw'; obtain ⟨c3, b0, l2, _⟩ := hw'; go_simp; (try rfl)
        (try simp only [Act.put, List.setIfInBounds_toArray, List.set_cons_zero, List.set_cons_succ])
        refine wpLinG_pure (o := { dst := some 22, op := Go.Op.move (Go.Operand.tmp 6), type := 3, pos := "level.go:52", after := #[], guard := none }) (v := ?vx4) (by rw [hops]; rfl) (by first | exact trivial | rfl) ?ex4 ?hx4
        case ex4 => intro w'; go_simp; (try rfl)
        (try simp only [Act.put, List.setIfInBounds_toArray, List.set_cons_zero, List.set_cons_succ])
        refine wpLinG_pure (o := { dst := some 23, op := Go.Op.indexAddr 77 (Go.Operand.tmp 21) (Go.Operand.tmp 22), type := 0, pos := "level.go:52", after := #[{ on := 3, ground := Go.Ground.data }, { on := 4, ground := Go.Ground.data }], guard := none }) (v := ?vx5) (by rw [hops]; rfl) (by first | exact trivial | rfl) ?ex5 ?hx5
        case ex5 => intro w'; go_simp; (try rfl)
        (try simp only [Act.put, List.setIfInBounds_toArray, List.set_cons_zero, List.set_cons_succ])
        refine wpLinG_read (o := { dst := some 24, op := Go.Op.load 4 (Go.Operand.tmp 23), type := 4, pos := "level.go:52", after := #[{ on := 5, ground := Go.Ground.data }], guard := none }) (v := ?vx6) (by rw [hops]; rfl) (by first | exact trivial | rfl) hS ?ex6 ?hx6
        case ex6 => intro w' hw'; obtain ⟨c3, b0, l2, _⟩ := hw'; go_simp; (try rfl)
        (try simp only [Act.put, List.setIfInBounds_toArray, List.set_cons_zero, List.set_cons_succ])
        refine wpLinG_pure (o := { dst := some 25, op := Go.Op.move (Go.Operand.tmp 24), type := 4, pos := "level.go:52", after := #[{ on := 6, ground := Go.Ground.data }], guard := none }) (v := ?vx7) (by rw [hops]; rfl) (by first | exact trivial | rfl) ?ex7 ?hx7
        case ex7 => intro w'; go_simp; (try rfl)
        (try simp only [Act.put, List.setIfInBounds_toArray, List.set_cons_zero, List.set_cons_succ])
        refine wpLinG_pure (o := { dst := some 26, op := Go.Op.fieldAddr 45 (Go.Operand.tmp 7) 2, type := 0, pos := "level.go:52", after := #[{ on := 7, ground := Go.Ground.guard }], guard := some (7, false) }) (v := ?vx8) (by rw [hops]; rfl) (by first | exact trivial | rfl) ?ex8 ?hx8
        case ex8 => intro w'; go_simp; (try rfl)
        (try simp only [Act.put, List.setIfInBounds_toArray, List.set_cons_zero, List.set_cons_succ])
        refine wpLinG_read (o := { dst := some 27, op := Go.Op.load 43 (Go.Operand.tmp 26), type := 43, pos := "level.go:52", after := #[{ on := 8, ground := Go.Ground.data }, { on := 7, ground := Go.Ground.guard }], guard := some (7, false) }) (v := ?vx9) (by rw [hops]; rfl) (by first | exact trivial | rfl) hS ?ex9 ?hx9
        case ex9 => intro w' hw'; obtain ⟨c3, b0, l2, _⟩ := hw'; go_simp; (try rfl)
        (try simp only [Act.put, List.setIfInBounds_toArray, List.set_cons_zero, List.set_cons_succ])
        refine wpLinG_pure (o := { dst := some 28, op := Go.Op.move (Go.Operand.tmp 0), type := 105, pos := "level.go:52", after := #[{ on := 7, ground := Go.Ground.guard }], guard := some (7, false) }) (v := ?vx10) (by rw [hops]; rfl) (by first | exact trivial | rfl) ?ex10 ?hx10
        case ex10 => intro w'; go_simp; (try rfl)
        (try simp only [Act.put, List.setIfInBounds_toArray, List.set_cons_zero, List.set_cons_succ])
        refine wpLinG_pure (o := { dst := some 29, op := Go.Op.nilCheck (Go.Operand.tmp 28), type := 0, pos := "level.go:52", after := #[{ on := 10, ground := Go.Ground.data }, { on := 7, ground := Go.Ground.guard }], guard := some (7, false) }) (v := ?vx11) (by rw [hops]; rfl) (by first | exact trivial | rfl) ?ex11 ?hx11
        case ex11 => intro w'; go_simp; (try rfl)
        (try simp only [Act.put, List.setIfInBounds_toArray, List.set_cons_zero, List.set_cons_succ])
        refine wpLinG_pure (o := { dst := some 30, op := Go.Op.fieldAddr 79 (Go.Operand.tmp 29) 3, type := 0, pos := "level.go:52", after := #[{ on := 11, ground := Go.Ground.data }, { on := 7, ground := Go.Ground.guard }], guard := some (7, false) }) (v := ?vx12) (by rw [hops]; rfl) (by first | exact trivial | rfl) ?ex12 ?hx12
        case ex12 => intro w'; go_simp; (try rfl)
        (try simp only [Act.put, List.setIfInBounds_toArray, List.set_cons_zero, List.set_cons_succ])
        refine wpLinG_read (o := { dst := some 31, op := Go.Op.load 77 (Go.Operand.tmp 30), type := 77, pos := "level.go:52", after := #[{ on := 12, ground := Go.Ground.data }, { on := 7, ground := Go.Ground.guard }], guard := some (7, false) }) (v := ?vx13) (by rw [hops]; rfl) (by first | exact trivial | rfl) hS ?ex13 ?hx13
        case ex13 => intro w' hw'; obtain ⟨c3, b0, l2, _⟩ := hw'; go_simp; (try rfl)
        (try simp only [Act.put, List.setIfInBounds_toArray, List.set_cons_zero, List.set_cons_succ])
        refine wpLinG_do (o := { dst := some 32, op := Go.Op.call { callee := Go.Callee.value (Go.Operand.func 67), args := #[Go.Operand.tmp 27, Go.Operand.tmp 31], argTypes := #[43, 77] }, type := 4, pos := "level.go:52", after := #[{ on := 9, ground := Go.Ground.data }, { on := 13, ground := Go.Ground.data }, { on := 7, ground := Go.Ground.chain }, { on := 7, ground := Go.Ground.guard }], guard := some (7, false) }) (by rw [hops]; rfl) (by first | exact trivial | rfl) (fun K hK => ?_)
        go_simp
        refine (KH.out _ (by have := hS.b; rwa [hz] at this)).mono ?_
        rintro e X ⟨rfl, hb⟩
        replace hS := hS.step hb
        clear hb
        refine hK _ _ trivial hS ?_
        clear hK K
        (try simp only [Act.put, List.setIfInBounds_toArray, List.set_cons_zero, List.set_cons_succ])
        refine wpLinG_pure (o := { dst := some 33, op := Go.Op.unOp Go.UnOp.not 4 (Go.Operand.tmp 32), type := 4, pos := "level.go:52", after := #[{ on := 14, ground := Go.Ground.data }, { on := 7, ground := Go.Ground.guard }], guard := some (7, false) }) (v := ?vx15) (by rw [hops]; rfl) (by first | exact trivial | rfl) ?ex15 ?hx15
        case ex15 => intro w'; go_simp; (try rfl)
        (try simp only [Act.put, List.setIfInBounds_toArray, List.set_cons_zero, List.set_cons_succ])
        refine wpLinG_pure (o := { dst := some 34, op := Go.Op.pick (Go.Operand.tmp 25) (Go.Operand.const (Go.Value.bool true)) (Go.Operand.tmp 33), type := 4, pos := "level.go:52", after := #[{ on := 7, ground := Go.Ground.data }, { on := 15, ground := Go.Ground.data }], guard := none }) (v := ?vx16) (by rw [hops]; rfl) (by first | exact trivial | rfl) ?ex16 ?hx16
        case ex16 => intro w'; go_simp; (try rfl)
        (try simp only [Act.put, List.setIfInBounds_toArray, List.set_cons_zero, List.set_cons_succ])
        subst hQ'
        refine NoPanic.normal ?_
        clear hops
        have hB2 := HB.out.trans (hS.b.mono (by rw [hz]; have := HB.out.size; omega))
        have hlr := HL.out.below hB2
        have l0 := (hlr m hlt).1
        have HB2 := hide hB2
        cases hh with
        | false =>
          rw [if_neg (by simp)] at hnx
          clear hS hB2 hlr l0
          go_wp2_with fail
          go_roundw
          case rel => exact ⟨m + 1, by omega, by go_num, by rw [hnx], HB2.out⟩
          case measure => simp [intOf]; omega
        | true =>
          by_cases hneg : nx < 0
          · rw [if_pos ⟨hst, rfl, .inl hneg⟩] at hnx
            have d1 : decide (nx < 0) = true := decide_eq_true hneg
            clear hS hB2 hlr
            go_wp2_with fail
            go_quiet (fail)
            go_wp2_with fail
            go_roundw
            case rel => exact ⟨m + 1, by omega, by go_num, by rw [hnx], by repeat (first | exact HB2.out | apply bdr)⟩
            case measure => simp [intOf]; omega
          · obtain ⟨c, rfl⟩ : ∃ c : Nat, nx = (c : Int) := ⟨nx.toNat, by omega⟩
            have hcl : c < P.length := by omega
            have hci : (c : Int) < (P.length : Int) := by omega
            have l1 := (hlr c hcl).1
            rw [Int.toNat_natCast] at hnx
            have d1 : decide ((c : Int) < 0) = false := decide_eq_false hneg
            clear hS hB2 hlr
            generalize (l m).1 = lm at *
            generalize (l c).1 = lo at *
            by_cases hd : lm < lo
            · rw [if_pos ⟨hst, rfl, .inr hd⟩] at hnx
              have d2 : decide (lm < lo) = true := decide_eq_true hd
              go_wp2_with fail
              go_quiet (fail)
              go_wp2_with fail
              go_roundw
              case rel => exact ⟨m + 1, by omega, by go_num, by rw [hnx], by repeat (first | exact HB2.out | apply bdr)⟩
              case measure => simp [intOf]; omega
            · rw [if_neg (fun h => h.2.2.elim hneg hd)] at hnx
              have d2 : decide (lm < lo) = false := decide_eq_false hd
              go_wp2_with fail
              go_quiet (fail)
              go_wp2_with fail
              go_roundw
              case rel => exact ⟨m + 1, by omega, by go_num, by rw [hnx], by repeat (first | exact HB2.out | apply bdr)⟩
              case measure => simp [intOf]; omega
    · obtain rfl : m = P.length := by omega
      have HB := hide hB
      clear hB
      go_wp2_with fail
      go_ret
      exact ⟨rfl, HB.out⟩
end Go.Proofs.YtjmjabdokckdlaaDoor
