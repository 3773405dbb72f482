/- package cron: daysWord. -/
import Derived.Test.YtmecghnemocdpaaDoorCrnG
import Derived.Test.YtmecghnemocdpaaDoorCrnD
import Derived.Laws.AppendOwnNone
import Derived.Test.YtmecghnemocdpaaDoorLinG
import Derived.Deep.RegionHeld3
namespace Go.Proofs.YtmecghnemocdpaaDoor
open Go.RowKit Go.Shelf
set_option linter.unusedVariables false
set_option linter.unusedSimpArgs false

theorem own_later {w w' : World} {b : Nat} {e : TypeId} {z : Nat} {v : Value} {n : Nat} {xs : List Value} (h : w.ownsRow b e z v n xs) (hb : Below w.heap.size w w') : w'.ownsRow b e z v n xs :=
  ⟨h.1, h.2.imp id fun ⟨g, cap, cur, h1, h2, h3, h4⟩ => ⟨g, cap, cur, h1, h2, (hb.block g (Array.getElem?_eq_some_iff.1 h3).1).trans h3, h4⟩⟩
/-- append(l, m...) of rows of texts of one's own -/
theorem wp_append_strs {o : Oper} {a : Act} {w : World} {K : Act → World → Prop} {Q : Exit → Act → World → Prop} (s x : Operand)
    (ho : o.op = .call { callee := .builtin .append, args := #[s, x], argTypes := #[48, 48] })
    (base base2 : Nat) (v v2 : Value) (L M : List ByteArray) (hs : a.eval s = v) (hown : w.ownsRow base 9 1 v L.length (strs L)) (hx : a.eval x = v2) (hown2 : w.ownsRow base2 9 1 v2 M.length (strs M))
    (hlen : L.length + M.length ≤ 1000) (hbase : base ≤ w.heap.size)
    (h : ∀ v' w', w'.ownsRow base 9 1 v' (L ++ M).length (strs (L ++ M)) → Below base w w' → (∀ k, k < w.heap.size → v.ownBlock ≠ some k → w'.heap[k]? = w.heap[k]?) → K (a.put o.dst v') w') : o.wp Tryd.prog a w K Q := by
  obtain ⟨i0, hi, hz0, hz1, hz2⟩ := info_of infoStr
  rcases hown2.2 with ⟨rfl, h0⟩ | ⟨g, cap, cur, rfl, hg, hgb, hmc, hcm, hcs, htake⟩
  · have hM : M = [] := List.eq_nil_of_length_eq_zero h0
    subst hM
    have hrun := run_append_owned_none (P := Tryd.prog) (w := w) base 48 o.type 9 i0 1 Tryd.underlying48 hi v L.length (strs L) hown
    unfold Oper.wp
    simp [execOp, ho, resolve, invoke, builtin, hs, hx, hrun, Result.andThen]
    exact h v w (by simpa using hown) (Below.refl _ _) (fun _ _ _ => rfl)
  · refine wp_append_own w s x 48 ho base 9 i0 (.string ⟨#[]⟩) 1 16 Tryd.underlying48 hi hz0 hz1 hz2 rfl (by decide) v L.length (strs L) hs hown ⟨g, 0, none⟩ M.length cap (strs M) hx (by rw [strs_len]; omega) ?_ ?_ (by unfold maxLen; omega) (by omega) hbase ?_
    · exact hown2.cells (g := g) rfl
    · intro u hu
      obtain ⟨y, _, rfl⟩ := List.mem_map.1 hu
      rfl
    · intro v' w' hown' hgrow _
      refine h v' w' (by rw [List.length_append, strs_app]; exact hown') ((Below.refl _ w).grown hgrow hbase fun j hj => (hown.lt j hj).1) fun k hk hne => hgrow.block k hk (fun e => hne e.symm)
theorem step_append_strs {ops : Array Oper} {E : Prop} {o : Oper} {a : Act} {w : World} {K : Act → World → Prop} {Q : Exit → Act → World → Prop} (hgd : o.guard = none) (s x : Operand)
    (ho : o.op = .call { callee := .builtin .append, args := #[s, x], argTypes := #[48, 48] })
    (base base2 : Nat) (v v2 : Value) (L M : List ByteArray) (hs : a.eval s = v) (hown : w.ownsRow base 9 1 v L.length (strs L)) (hx : a.eval x = v2) (hown2 : w.ownsRow base2 9 1 v2 M.length (strs M))
    (hlen : L.length + M.length ≤ 1000) (hbase : base ≤ w.heap.size)
    (h : ∀ v' w', w'.ownsRow base 9 1 v' (L ++ M).length (strs (L ++ M)) → Below base w w' → (∀ k, k < w.heap.size → v.ownBlock ≠ some k → w'.heap[k]? = w.heap[k]?) → K (a.put o.dst v') w') : if Region.wanted o (yielded ops a.tmps) = true then Oper.wp Tryd.prog o a w K Q else E := by
  have hw : Region.wanted o (yielded ops a.tmps) = true := by simp [Region.wanted, hgd]
  rw [if_pos hw]
  exact wp_append_strs s x ho base base2 v v2 L M hs hown hx hown2 hlen hbase h
theorem wpList_append_strs {ops : Array Oper} {rest : List Oper} {o : Oper} {a : Act} {w : World} {Q : Exit → Act → World → Prop} (hgd : o.guard = none) (s x : Operand)
    (ho : o.op = .call { callee := .builtin .append, args := #[s, x], argTypes := #[48, 48] })
    (base base2 : Nat) (v v2 : Value) (L M : List ByteArray) (hs : a.eval s = v) (hown : w.ownsRow base 9 1 v L.length (strs L)) (hx : a.eval x = v2) (hown2 : w.ownsRow base2 9 1 v2 M.length (strs M))
    (hlen : L.length + M.length ≤ 1000) (hbase : base ≤ w.heap.size)
    (h : ∀ v' w', w'.ownsRow base 9 1 v' (L ++ M).length (strs (L ++ M)) → Below base w w' → (∀ k, k < w.heap.size → v.ownBlock ≠ some k → w'.heap[k]? = w.heap[k]?) → wpList Tryd.prog ops Q rest (a.put o.dst v') w') : wpList Tryd.prog ops Q (o :: rest) a w :=
  wpList_plain hgd fun _ hK => wp_append_strs s x ho base base2 v v2 L M hs hown hx hown2 hlen hbase fun v' w' h1 h2 h3 => hK _ _ (h v' w' h1 h2 h3)
/-- a new row of one text -/
theorem own_one (w : World) (t : ByteArray) : (w.alloc (.cells #[.string t] 9)).ownsRow w.heap.size 9 1 (.slice (some ⟨w.heap.size, 0, none⟩) 1 1) [t].length (strs [t]) :=
  ⟨rfl, .inr ⟨w.heap.size, 1, #[.string t], rfl, Nat.le_refl _, World.alloc_heap_new w _, Nat.le_refl 1, by unfold maxLen; omega, rfl, rfl⟩⟩
theorem own_one_d (w : World) (t : ByteArray) : (w.alloc (.cells #[.string t] 9)).drew.ownsRow w.heap.size 9 1 (.slice (some ⟨w.heap.size, 0, none⟩) 1 1) [t].length (strs [t]) := own_one w t
theorem dItems_eq (x : Crn.C) : Crn.dItems x = Crn.its x.da ⟨#[]⟩ ++ Crn.its x.near ⟨#[87]⟩ ++ (if x.last then [⟨#[76]⟩] else []) := rfl
theorem dItems_bd (x : Crn.C) (h1 : Sm x.da) (h2 : Sm x.near) : (Crn.dItems x).length ≤ 201 ∧ ∀ y ∈ Crn.dItems x, y.size ≤ 12 ∧ 0 < y.size := by
  unfold Crn.dItems
  constructor
  · rw [List.length_append, List.length_append, its_length, its_length]
    have a1 := h1.1
    have a2 := h2.1
    cases x.last <;> simp <;> omega
  · intro y hy
    rcases List.mem_append.1 hy with hy | hy
    · rcases List.mem_append.1 hy with hy | hy
      · exact its_size _ _ h1 (by decide) y hy
      · exact its_size _ _ h2 (by decide) y hy
    · cases hl : x.last with
      | false => rw [hl] at hy; simp at hy
      | true =>
        rw [hl] at hy
        simp only [if_true, List.mem_singleton] at hy
        subst hy
        decide
theorem _root_.Go.World.ownsRow.mono0 {w : World} {b b' : Nat} {e : TypeId} {s : Nat} {v : Value} {n : Nat} {xs : List Value} (h : w.ownsRow b e s v n xs) (hb : b' ≤ b) : w.ownsRow b' e s v n xs :=
  ⟨h.1, h.2.imp id fun ⟨g, cap, cur, h1, h2, h3⟩ => ⟨g, cap, cur, h1, Nat.le_trans hb h2, h3⟩⟩
theorem keep2b {V X X' : World} {a b : Addr} {u v : Value} (h : (X.cell? a = some u ∧ X.cell? b = some v) ∧ Below V.heap.size V X) (hb : Below V.heap.size X X') (hc : a.block < V.heap.size) (hd : b.block < V.heap.size) : (X'.cell? a = some u ∧ X'.cell? b = some v) ∧ Below V.heap.size V X' :=
  ⟨⟨(hb.cell hc).trans h.1.1, (hb.cell hd).trans h.1.2⟩, h.2.trans hb⟩
theorem keep2 {V X X' : World} {a b : Addr} {u v : Value} (h : (X.cell? a = some u ∧ X.cell? b = some v) ∧ Below V.heap.size V X) (hb : Below X.heap.size X X') : (X'.cell? a = some u ∧ X'.cell? b = some v) ∧ Below V.heap.size V X' :=
  ⟨⟨(hb.cell (World.block_lt_of_cell? _ _ h.1.1)).trans h.1.1, (hb.cell (World.block_lt_of_cell? _ _ h.1.2)).trans h.1.2⟩, h.2.trans (hb.mono h.2.size)⟩
set_option maxRecDepth 100000 in
set_option maxHeartbeats 4000000 in
theorem daysWord_any (A : CAd) (x : Crn.C) (w : World) (hk : KT w) (hl : CL A x w) (h1 : Sm x.da) (h2 : Sm x.near) :
    Calls Tryd.prog 17 #[crV A x] w fun e w' => e = .returned (.string (Crn.dWord x)) ∧ Below w.heap.size w w' := by
  have HW := hide (CW.new hk hl)
  have HO : Hid (Crn.dWord x = if x.any then Crn.star else Crn.joinB (Crn.dItems x)) := rfl
  have KI := hide (fun W (hw : CW w A x W) => items_any A.d A.cd x.da ⟨#[]⟩ W hw.cl.da h1 (by decide))
  have KN := hide (fun W (hw : CW w A x W) => items_any A.n A.cn x.near ⟨#[87]⟩ W hw.cl.near h2 (by decide))
  obtain ⟨hd1, hd2⟩ := dItems_bd x h1 h2
  have KJ := hide (fun base v W (ho : World.ownsRow W base 9 1 v (Crn.dItems x).length (strs (Crn.dItems x))) => join_own base v (Crn.dItems x) ⟨#[44]⟩ W ho (by omega) (by rw [joinS_com]; have := Crn.joinB_size (Crn.dItems x) 12 (fun y hy => (hd2 y hy).1); omega))
  rw [joinS_com] at KJ
  have HD := hide (dItems_eq x)
  have a1 := h1.1
  have a2 := h2.1
  generalize Crn.dWord x = T at *
  generalize Crn.joinB (Crn.dItems x) = J at *
  generalize Crn.dItems x = DI at *
  clear hk hl h1 h2 hd1 hd2
  go_enter Tryd.func17, Tryd.ntmps17
  go_upto_region 1 with fail
  obtain ⟨W0, hW0⟩ : ∃ W0, (w.alloc (.cells #[.slice A.m x.mi.length A.cm, .slice A.h x.ho.length A.ch, .slice A.o x.mo.length A.co, .bool x.any, .slice A.d x.da.length A.cd, .bool x.last, .slice A.n x.near.length A.cn, .bool x.anyW, .slice A.w x.wd.length A.cw, .slice A.l x.lo.length A.cl, .slice A.t x.nth.length A.ct] 25)) = W0 := ⟨_, rfl⟩
  rw [hW0] at HW ⊢
  clear hW0
  have hw := HW.out
  clear HW
  obtain ⟨x0, x1, x2, x3, x4, x5, x6, x7, x8, x9, x10⟩ := hw.bx.cells
  cases hany : x.any
  · rw [hany] at HO x3
    clear hany
    obtain rfl : T = J := HO.out
    clear HO
    go_upto_region 3 with fail
    have hS : (W0.drew.cell? ⟨w.heap.size, 4, none⟩ = some (.slice A.d x.da.length A.cd) ∧ W0.drew.cell? ⟨w.heap.size, 6, none⟩ = some (.slice A.n x.near.length A.cn)) ∧ Below W0.heap.size W0 W0.drew := ⟨⟨x4, x6⟩, (Below.refl _ _).drew⟩
    clear x0 x1 x2 x3 x4 x5 x6 x7 x8 x9 x10
    --R3
    refine wp_region_noPanic ?_
    refine wp_region_linGM (S := fun X => (X.cell? ⟨w.heap.size, 4, none⟩ = some (.slice A.d x.da.length A.cd) ∧ X.cell? ⟨w.heap.size, 6, none⟩ = some (.slice A.n x.near.length A.cn)) ∧ Below W0.heap.size W0 X) (R := fun _ => True) [] (by kernel_rfl) (by kernel_rfl) [(0, none, 1), (1, none, 0), (3, none, 1), (4, none, 0), (2, none, 2), (5, none, 2), (6, none, 2), (7, none, 1)] (by kernel_rfl) (by kernel_rfl) (fun _ _ _ _ _ h => h) (by exact trivial) (by exact hS) (fun ops' Q' hops hQ' => ?_)
    refine wpLinG_pure (o := { dst := some 6, op := Go.Op.fieldAddr 25 (Go.Operand.tmp 1) 4, type := 0, pos := "text.go:75", after := #[], guard := none }) (v := ?vx0) (by rw [hops]; rfl) (by first | exact trivial | rfl) ?ex0 ?hx0
    case ex0 => intro w'; go_simp; (try rfl)
    (try simp only [Act.put, List.setIfInBounds_toArray, List.set_cons_zero, List.set_cons_succ])
    refine wpLinG_read (o := { dst := some 7, op := Go.Op.load 22 (Go.Operand.tmp 6), type := 22, pos := "text.go:75", after := #[{ on := 0, ground := Go.Ground.data }], guard := none }) (v := ?vx1) (by rw [hops]; rfl) (by first | exact trivial | rfl) hS ?ex1 ?hx1
    case ex1 => intro w' hw'; obtain ⟨⟨e1, e2⟩, _⟩ := hw'; go_simp; (try rfl)
    (try simp only [Act.put, List.setIfInBounds_toArray, List.set_cons_zero, List.set_cons_succ])
    refine wpLinG_pure (o := { dst := some 9, op := Go.Op.fieldAddr 25 (Go.Operand.tmp 1) 6, type := 0, pos := "text.go:75", after := #[], guard := none }) (v := ?vx2) (by rw [hops]; rfl) (by first | exact trivial | rfl) ?ex2 ?hx2
    case ex2 => intro w'; go_simp; (try rfl)
    (try simp only [Act.put, List.setIfInBounds_toArray, List.set_cons_zero, List.set_cons_succ])
    refine wpLinG_read (o := { dst := some 10, op := Go.Op.load 22 (Go.Operand.tmp 9), type := 22, pos := "text.go:75", after := #[{ on := 3, ground := Go.Ground.data }], guard := none }) (v := ?vx3) (by rw [hops]; rfl) (by first | exact trivial | rfl) hS ?ex3 ?hx3
    case ex3 => intro w' hw'; obtain ⟨⟨e1, e2⟩, _⟩ := hw'; go_simp; (try rfl)
    (try simp only [Act.put, List.setIfInBounds_toArray, List.set_cons_zero, List.set_cons_succ])
    refine wpLinG_do (o := { dst := some 8, op := Go.Op.call { callee := Go.Callee.value (Go.Operand.func 25), args := #[Go.Operand.tmp 7, Go.Operand.const (Go.Value.string { data := #[] })], argTypes := #[22, 9] }, type := 48, pos := "text.go:75", after := #[{ on := 1, ground := Go.Ground.data }], guard := none }) (by rw [hops]; rfl) (by first | exact trivial | rfl) (fun K hK => ?_)
    go_simp
    refine (KI.out _ (hw.later hS.2)).mono ?_
    rintro e X1 ⟨v1, rfl, ho1, hb1⟩
    obtain ⟨b1, l1, c1, rfl⟩ := ownr_form ho1
    replace hS := keep2 hS hb1
    refine hK _ _ trivial hS ?_
    clear hK K
    (try simp only [Act.put, List.setIfInBounds_toArray, List.set_cons_zero, List.set_cons_succ])
    refine wpLinG_do (o := { dst := some 11, op := Go.Op.call { callee := Go.Callee.value (Go.Operand.func 25), args := #[Go.Operand.tmp 10, Go.Operand.const (Go.Value.string { data := #[87] })], argTypes := #[22, 9] }, type := 48, pos := "text.go:75", after := #[{ on := 4, ground := Go.Ground.data }, { on := 2, ground := Go.Ground.chain }], guard := none }) (by rw [hops]; rfl) (by first | exact trivial | rfl) (fun K hK => ?_)
    go_simp
    refine (KN.out _ (hw.later hS.2)).mono ?_
    rintro e X2 ⟨v2, rfl, ho2, hb2⟩
    obtain ⟨b2, l2, c2, rfl⟩ := ownr_form ho2
    replace hS := keep2 hS hb2
    refine hK _ _ trivial hS ?_
    clear hK K
    (try simp only [Act.put, List.setIfInBounds_toArray, List.set_cons_zero, List.set_cons_succ])
    refine wpLinG_do (o := { dst := some 12, op := Go.Op.call { callee := Go.Callee.builtin Go.Builtin.append, args := #[Go.Operand.tmp 8, Go.Operand.tmp 11], argTypes := #[48, 48] }, type := 48, pos := "text.go:75", after := #[{ on := 2, ground := Go.Ground.data }, { on := 5, ground := Go.Ground.data }, { on := 5, ground := Go.Ground.chain }], guard := none }) (by rw [hops]; rfl) (by first | exact trivial | rfl) (fun K hK => ?_)
    refine wp_append_strs (.tmp 8) (.tmp 11) rfl W0.heap.size _ _ _ (Crn.its x.da ⟨#[]⟩) (Crn.its x.near ⟨#[87]⟩) rfl (by rw [its_length]; exact (own_later ho1 hb2).mono0 (Nat.le_refl _)) rfl (by rw [its_length]; exact ho2) (by rw [its_length, its_length]; omega) hS.2.size ?_
    intro v3 X3 ho3 hb3 _
    obtain ⟨b3, l3, c3, rfl⟩ := ownr_form ho3
    replace hS := keep2b hS hb3 hw.bx.lt hw.bx.lt
    refine hK _ _ trivial hS ?_
    clear hK K
    (try simp only [Act.put, List.setIfInBounds_toArray, List.set_cons_zero, List.set_cons_succ])
    refine wpLinG_pure (o := { dst := some 3, op := Go.Op.assign (Go.Operand.tmp 12), type := 48, pos := "text.go:75", after := #[{ on := 6, ground := Go.Ground.data }, { on := 6, ground := Go.Ground.chain }, { on := 0, ground := Go.Ground.phase }, { on := 1, ground := Go.Ground.phase }, { on := 2, ground := Go.Ground.phase }, { on := 3, ground := Go.Ground.phase }, { on := 4, ground := Go.Ground.phase }, { on := 5, ground := Go.Ground.phase }, { on := 6, ground := Go.Ground.phase }], guard := none }) (v := ?vx7) (by rw [hops]; rfl) (by first | exact trivial | rfl) ?ex7 ?hx7
    case ex7 => intro w'; go_simp; (try rfl)
    (try simp only [Act.put, List.setIfInBounds_toArray, List.set_cons_zero, List.set_cons_succ])
    subst hQ'
    refine NoPanic.normal ?_
    --E3
    clear hops
    have hw3 := hw.later hS.2
    have hbe := hw3.be
    obtain ⟨x0, x1, x2, x3, x4, x5, x6, x7, x8, x9, x10⟩ := hw3.bx.cells
    have hsz : w.heap.size < W0.heap.size := hw.bx.lt
    have hsz3 := hS.2.size
    clear x0 x1 x2 x3 x4 x6 x7 x8 x9 x10 hw hw3 KI KN hb1 hb2 hb3 ho1 ho2 hS
    cases hlast : x.last
    · rw [hlast] at HD x5
      clear hlast
      have hD : DI = Crn.its x.da ⟨#[]⟩ ++ Crn.its x.near ⟨#[87]⟩ := by rw [HD.out]; simp
      rw [← hD] at ho3
      clear hD HD
      go_wp2_with fail
      refine (KJ.out _ _ _ ho3).mono ?_
      rintro e W3 ⟨rfl, b4⟩
      have hB3 := hbe.trans (b4.mono hbe.size)
      go_wp2
      go_ret
      exact ⟨rfl, hB3⟩
    · rw [hlast] at HD x5
      clear hlast
      have hD : DI = (Crn.its x.da ⟨#[]⟩ ++ Crn.its x.near ⟨#[87]⟩) ++ [⟨#[76]⟩] := by rw [HD.out]; simp
      have hlen : (Crn.its x.da ⟨#[]⟩ ++ Crn.its x.near ⟨#[87]⟩).length ≤ 200 := by rw [List.length_append, its_length, its_length]; omega
      generalize (Crn.its x.da ⟨#[]⟩ ++ Crn.its x.near ⟨#[87]⟩) = LL at *
      clear HD
      go_wp2_with (at_builtin; refine wpList_append_strs rfl (.tmp 15) (.tmp 16) rfl W0.heap.size X3.heap.size _ _ LL [⟨#[76]⟩] rfl (own_later ho3 ((Below.refl _ X3).alloc (Nat.le_refl _) _)) rfl (own_one X3 ⟨#[76]⟩) ?c1 ?c2 ?_)
      case c1 => simp; omega
      case c2 => simp; omega
      intro v4 X4 ho4 hb4 _
      have hl4 : LL.length + 1 = DI.length := by rw [hD]; simp
      rw [← hD] at ho4
      replace ho4 : X4.ownsRow W0.heap.size 9 1 v4 DI.length (strs DI) := by rw [← hl4]; simpa using ho4
      obtain ⟨b5, l5, c5, rfl⟩ := ownr_form ho4
      have hbe4 : Below w.heap.size w X4 := (hbe.alloc hbe.size _).trans (hb4.mono (by omega))
      clear hb4
      go_wp2_with fail
      refine (KJ.out _ _ _ ho4).mono ?_
      rintro e W3 ⟨rfl, b4⟩
      have hB3 := hbe4.trans (b4.mono hbe4.size)
      go_wp2
      go_ret
      exact ⟨rfl, hB3⟩
  · rw [hany] at HO x3
    clear hany
    obtain rfl : T = Crn.star := HO.out
    clear HO KJ
    go_wp2
    go_ret
    exact ⟨rfl, hw.be⟩
end Go.Proofs.YtmecghnemocdpaaDoor
