/- package cron: weekdaysWord. -/
import Derived.Test.YtmecghnemocdpaaDoorCrnH
namespace Go.Proofs.YtmecghnemocdpaaDoor
open Go.RowKit Go.Shelf
set_option linter.unusedVariables false
set_option linter.unusedSimpArgs false

theorem wItems_eq (x : Crn.C) : Crn.wItems x = Crn.its x.wd ⟨#[]⟩ ++ Crn.its x.lo ⟨#[76]⟩ ++ (Crn.nts x.nth).take x.nth.length := by
  rw [List.take_of_length_le (by unfold Crn.nts; rw [List.length_map]; exact Nat.le_refl _)]; rfl
/-- weekdays of a month below a hundred -/
def SmN (l : List (Int × Int)) : Prop := l.length ≤ 100 ∧ ∀ k, k < l.length → (0 ≤ (l.getD k (0, 0)).1 ∧ (l.getD k (0, 0)).1 < 100) ∧ 0 ≤ (l.getD k (0, 0)).2 ∧ (l.getD k (0, 0)).2 < 100
theorem smN_of {l : List (Int × Int)} (h : Crn.risesN l = true) : SmN l := by
  refine ⟨by have := Crn.risesN_len h; omega, fun k hk => ?_⟩
  have := Crn.okN_bd (Crn.allB_yes h k hk)
  omega
theorem nts_length (l : List (Int × Int)) : (Crn.nts l).length = l.length := by unfold Crn.nts; rw [List.length_map]
theorem nts_take (l : List (Int × Int)) (k : Nat) (h : k < l.length) : (Crn.nts l).take (k + 1) = (Crn.nts l).take k ++ [Crn.dec (l.getD k (0, 0)).2 ++ ⟨#[35]⟩ ++ Crn.dec (l.getD k (0, 0)).1] := by
  rw [getD_take_succ _ k ⟨#[]⟩ (by rw [nts_length]; exact h)]
  unfold Crn.nts
  rw [List.getD_eq_getElem?_getD, List.getElem?_map, List.getD_eq_getElem?_getD, List.getElem?_eq_getElem h]
  simp only [Option.map_some, Option.getD_some]
theorem nts_size (l : List (Int × Int)) (hs : SmN l) : ∀ x ∈ Crn.nts l, x.size ≤ 12 ∧ 0 < x.size := by
  intro x hx
  obtain ⟨n, hn, rfl⟩ := List.mem_map.1 hx
  obtain ⟨k, hk, rfl⟩ := List.mem_iff_getElem.1 hn
  have := hs.2 k hk
  rw [List.getD_eq_getElem?_getD, List.getElem?_eq_getElem hk, Option.getD_some] at this
  have h1 := Crn.dec_size _ this.1.1 this.1.2
  have h2 := Crn.dec_size _ this.2.1 this.2.2
  have q : (⟨#[35]⟩ : ByteArray).size = 1 := rfl
  rw [ByteArray.size_append, ByteArray.size_append, q]; omega
theorem wItems_bd (x : Crn.C) (h1 : Sm x.wd) (h2 : Sm x.lo) (h3 : SmN x.nth) : (Crn.wItems x).length ≤ 300 ∧ ∀ y ∈ Crn.wItems x, y.size ≤ 12 ∧ 0 < y.size := by
  unfold Crn.wItems
  constructor
  · rw [List.length_append, List.length_append, its_length, its_length, nts_length]
    have a1 := h1.1
    have a2 := h2.1
    have a3 := h3.1
    omega
  · intro y hy
    rcases List.mem_append.1 hy with hy | hy
    · rcases List.mem_append.1 hy with hy | hy
      · exact its_size _ _ h1 (by decide) y hy
      · exact its_size _ _ h2 (by decide) y hy
    · exact nts_size _ h3 y hy
set_option maxRecDepth 100000 in
set_option maxHeartbeats 4000000 in
theorem weekdaysWord_any (A : CAd) (x : Crn.C) (w : World) (hk : KT w) (hl : CL A x w) (h1 : Sm x.wd) (h2 : Sm x.lo) (h3 : SmN x.nth) :
    Calls Tryd.prog 18 #[crV A x] w fun e w' => e = .returned (.string (Crn.wWord x)) ∧ Below w.heap.size w w' := by
  have HW := hide (CW.new hk hl)
  have HO : Hid (Crn.wWord x = if x.anyW then Crn.star else Crn.joinB (Crn.wItems x)) := rfl
  have KI := hide (fun W (hw : CW w A x W) => items_any A.w A.cw x.wd ⟨#[]⟩ W hw.cl.wd h1 (by decide))
  have KN := hide (fun W (hw : CW w A x W) => items_any A.l A.cl x.lo ⟨#[76]⟩ W hw.cl.lo h2 (by decide))
  obtain ⟨hd1, hd2⟩ := wItems_bd x h1 h2 h3
  have KJ := hide (fun base v W (ho : World.ownsRow W base 9 1 v (Crn.wItems x).length (strs (Crn.wItems x))) => join_own base v (Crn.wItems x) ⟨#[44]⟩ W ho (by omega) (by rw [joinS_com]; have := Crn.joinB_size (Crn.wItems x) 12 (fun y hy => (hd2 y hy).1); omega))
  rw [joinS_com] at KJ
  have HD := hide (wItems_eq x)
  have H3 := hide h3
  have a1 := h1.1
  have a2 := h2.1
  generalize Crn.wWord x = T at *
  generalize Crn.joinB (Crn.wItems x) = J at *
  generalize Crn.wItems x = DI at *
  clear hk hl h1 h2 hd1 hd2 h3
  go_enter Tryd.func18, Tryd.ntmps18
  go_upto_region 1 with fail
  obtain ⟨W0, hW0⟩ : ∃ W0, (w.alloc (.cells #[.slice A.m x.mi.length A.cm, .slice A.h x.ho.length A.ch, .slice A.o x.mo.length A.co, .bool x.any, .slice A.d x.da.length A.cd, .bool x.last, .slice A.n x.near.length A.cn, .bool x.anyW, .slice A.w x.wd.length A.cw, .slice A.l x.lo.length A.cl, .slice A.t x.nth.length A.ct] 25)) = W0 := ⟨_, rfl⟩
  rw [hW0] at HW ⊢
  clear hW0
  have hw := HW.out
  clear HW
  obtain ⟨x0, x1, x2, x3, x4, x5, x6, x7, x8, x9, x10⟩ := hw.bx.cells
  cases hany : x.anyW
  · rw [hany] at HO x7
    clear hany
    obtain rfl : T = J := HO.out
    clear HO
    go_upto_region 3 with fail
    have hS : (W0.drew.cell? ⟨w.heap.size, 8, none⟩ = some (.slice A.w x.wd.length A.cw) ∧ W0.drew.cell? ⟨w.heap.size, 9, none⟩ = some (.slice A.l x.lo.length A.cl)) ∧ Below W0.heap.size W0 W0.drew := ⟨⟨x8, x9⟩, (Below.refl _ _).drew⟩
    clear x0 x1 x2 x3 x4 x5 x6 x7 x8 x9 x10
    refine wp_region_noPanic ?_
    refine wp_region_linGM (S := fun X => (X.cell? ⟨w.heap.size, 8, none⟩ = some (.slice A.w x.wd.length A.cw) ∧ X.cell? ⟨w.heap.size, 9, none⟩ = some (.slice A.l x.lo.length A.cl)) ∧ Below W0.heap.size W0 X) (R := fun _ => True) [] (by kernel_rfl) (by kernel_rfl) [(0, none, 1), (1, none, 0), (3, none, 1), (4, none, 0), (2, none, 2), (5, none, 2), (6, none, 2), (7, none, 1)] (by kernel_rfl) (by kernel_rfl) (fun _ _ _ _ _ h => h) (by exact trivial) (by exact hS) (fun ops' Q' hops hQ' => ?_)
    refine wpLinG_pure (o := { dst := some 8, op := Go.Op.fieldAddr 25 (Go.Operand.tmp 1) 8, type := 0, pos := "text.go:87", after := #[], guard := none }) (v := ?vx0) (by rw [hops]; rfl) (by first | exact trivial | rfl) ?ex0 ?hx0
    case ex0 => intro w'; go_simp; (try rfl)
    (try simp only [Act.put, List.setIfInBounds_toArray, List.set_cons_zero, List.set_cons_succ])
    refine wpLinG_read (o := { dst := some 9, op := Go.Op.load 22 (Go.Operand.tmp 8), type := 22, pos := "text.go:87", after := #[{ on := 0, ground := Go.Ground.data }], guard := none }) (v := ?vx1) (by rw [hops]; rfl) (by first | exact trivial | rfl) hS ?ex1 ?hx1
    case ex1 => intro w' hw'; obtain ⟨⟨e1, e2⟩, _⟩ := hw'; go_simp; (try rfl)
    (try simp only [Act.put, List.setIfInBounds_toArray, List.set_cons_zero, List.set_cons_succ])
    refine wpLinG_pure (o := { dst := some 11, op := Go.Op.fieldAddr 25 (Go.Operand.tmp 1) 9, type := 0, pos := "text.go:87", after := #[], guard := none }) (v := ?vx2) (by rw [hops]; rfl) (by first | exact trivial | rfl) ?ex2 ?hx2
    case ex2 => intro w'; go_simp; (try rfl)
    (try simp only [Act.put, List.setIfInBounds_toArray, List.set_cons_zero, List.set_cons_succ])
    refine wpLinG_read (o := { dst := some 12, op := Go.Op.load 22 (Go.Operand.tmp 11), type := 22, pos := "text.go:87", after := #[{ on := 3, ground := Go.Ground.data }], guard := none }) (v := ?vx3) (by rw [hops]; rfl) (by first | exact trivial | rfl) hS ?ex3 ?hx3
    case ex3 => intro w' hw'; obtain ⟨⟨e1, e2⟩, _⟩ := hw'; go_simp; (try rfl)
    (try simp only [Act.put, List.setIfInBounds_toArray, List.set_cons_zero, List.set_cons_succ])
    refine wpLinG_do (o := { dst := some 10, op := Go.Op.call { callee := Go.Callee.value (Go.Operand.func 25), args := #[Go.Operand.tmp 9, Go.Operand.const (Go.Value.string { data := #[] })], argTypes := #[22, 9] }, type := 48, pos := "text.go:87", after := #[{ on := 1, ground := Go.Ground.data }], guard := none }) (by rw [hops]; rfl) (by first | exact trivial | rfl) (fun K hK => ?_)
    go_simp
    refine (KI.out _ (hw.later hS.2)).mono ?_
    rintro e X1 ⟨v1, rfl, ho1, hb1⟩
    obtain ⟨b1, l1, c1, rfl⟩ := ownr_form ho1
    replace hS := keep2 hS hb1
    refine hK _ _ trivial hS ?_
    clear hK K
    (try simp only [Act.put, List.setIfInBounds_toArray, List.set_cons_zero, List.set_cons_succ])
    refine wpLinG_do (o := { dst := some 13, op := Go.Op.call { callee := Go.Callee.value (Go.Operand.func 25), args := #[Go.Operand.tmp 12, Go.Operand.const (Go.Value.string { data := #[76] })], argTypes := #[22, 9] }, type := 48, pos := "text.go:87", after := #[{ on := 4, ground := Go.Ground.data }, { on := 2, ground := Go.Ground.chain }], guard := none }) (by rw [hops]; rfl) (by first | exact trivial | rfl) (fun K hK => ?_)
    go_simp
    refine (KN.out _ (hw.later hS.2)).mono ?_
    rintro e X2 ⟨v2, rfl, ho2, hb2⟩
    obtain ⟨b2, l2, c2, rfl⟩ := ownr_form ho2
    replace hS := keep2 hS hb2
    refine hK _ _ trivial hS ?_
    clear hK K
    (try simp only [Act.put, List.setIfInBounds_toArray, List.set_cons_zero, List.set_cons_succ])
    refine wpLinG_do (o := { dst := some 14, op := Go.Op.call { callee := Go.Callee.builtin Go.Builtin.append, args := #[Go.Operand.tmp 10, Go.Operand.tmp 13], argTypes := #[48, 48] }, type := 48, pos := "text.go:87", after := #[{ on := 2, ground := Go.Ground.data }, { on := 5, ground := Go.Ground.data }, { on := 5, ground := Go.Ground.chain }], guard := none }) (by rw [hops]; rfl) (by first | exact trivial | rfl) (fun K hK => ?_)
    refine wp_append_strs (.tmp 10) (.tmp 13) rfl W0.heap.size _ _ _ (Crn.its x.wd ⟨#[]⟩) (Crn.its x.lo ⟨#[76]⟩) rfl (by rw [its_length]; exact (own_later ho1 hb2).mono0 (Nat.le_refl _)) rfl (by rw [its_length]; exact ho2) (by rw [its_length, its_length]; omega) hS.2.size ?_
    intro v3 X3 ho3 hb3 _
    obtain ⟨b3, l3, c3, rfl⟩ := ownr_form ho3
    replace hS := keep2b hS hb3 hw.bx.lt hw.bx.lt
    refine hK _ _ trivial hS ?_
    clear hK K
    (try simp only [Act.put, List.setIfInBounds_toArray, List.set_cons_zero, List.set_cons_succ])
    refine wpLinG_pure (o := { dst := some 3, op := Go.Op.assign (Go.Operand.tmp 14), type := 48, pos := "text.go:87", after := #[{ on := 6, ground := Go.Ground.data }, { on := 6, ground := Go.Ground.chain }, { on := 0, ground := Go.Ground.phase }, { on := 1, ground := Go.Ground.phase }, { on := 2, ground := Go.Ground.phase }, { on := 3, ground := Go.Ground.phase }, { on := 4, ground := Go.Ground.phase }, { on := 5, ground := Go.Ground.phase }, { on := 6, ground := Go.Ground.phase }], guard := none }) (v := ?vx7) (by rw [hops]; rfl) (by first | exact trivial | rfl) ?ex7 ?hx7
    case ex7 => intro w'; go_simp; (try rfl)
    (try simp only [Act.put, List.setIfInBounds_toArray, List.set_cons_zero, List.set_cons_succ])
    subst hQ'
    refine NoPanic.normal ?_
    clear hops
    have hw3 := hw.later hS.2
    obtain ⟨x0, x1, x2, x3, x4, x5, x6, x7, x8, x9, x10⟩ := hw3.bx.cells
    have hsz : w.heap.size < W0.heap.size := hw.bx.lt
    have hsz3 := hS.2.size
    have HB := hide hS.2
    have HWW := hide hw
    have hlen : (Crn.its x.wd ⟨#[]⟩ ++ Crn.its x.lo ⟨#[76]⟩).length ≤ 200 := by rw [List.length_append, its_length, its_length]; omega
    generalize (Crn.its x.wd ⟨#[]⟩ ++ Crn.its x.lo ⟨#[76]⟩) = LL at *
    clear x0 x1 x2 x3 x4 x5 x6 x7 x8 x9 hw hw3 KI KN hb1 hb2 hb3 ho1 ho2 hS
    have HO3 := hide ho3
    clear ho3
    go_wp2_with fail
    go_loopw [3, 18] (fun v i wr => ∃ k : Nat, k ≤ x.nth.length ∧ i = .int .i64 k ∧ wr.ownsRow W0.heap.size 9 1 v (LL ++ (Crn.nts x.nth).take k).length (strs (LL ++ (Crn.nts x.nth).take k)) ∧ Below W0.heap.size W0 wr) (fun _ i _ => x.nth.length - (intOf i).toNat)
    case atStart => exact ⟨0, by omega, rfl, by simpa using HO3.out, HB.out⟩
    case round =>
      clear HO3 HB x10
      obtain ⟨k, hk, rfl, hown, hB⟩ := hrel
      have hn := H3.out.1
      by_cases hlt : k < x.nth.length
      · have hki : (k : Int) < x.nth.length := by omega
        obtain ⟨ad, had, hc, hc2⟩ := (HWW.out.later hB).cl.nth k hlt
        obtain ⟨hx1, hx2⟩ := H3.out.2 k hlt
        have HT := hide (nts_take x.nth k hlt)
        have d1 := Crn.dec_size _ hx1.1 hx1.2
        have d2 := Crn.dec_size _ hx2.1 hx2.2
        have K1 := hide (fun W => itoa_lit _ W hx1.1 hx1.2)
        have K2 := hide (fun W => itoa_lit _ W hx2.1 hx2.2)
        have hlk : (LL ++ (Crn.nts x.nth).take k).length ≤ 300 := by rw [List.length_append, List.length_take, nts_length]; omega
        have HLT : Hid (LL ++ (Crn.nts x.nth).take (k + 1) = (LL ++ (Crn.nts x.nth).take k) ++ [Crn.dec (x.nth.getD k (0, 0)).2 ++ ⟨#[35]⟩ ++ Crn.dec (x.nth.getD k (0, 0)).1]) := by
          show _ = _
          rw [HT.out, List.append_assoc]
        clear HT
        generalize x.nth.getD k (0, 0) = n at *
        obtain ⟨n1, n2⟩ := n
        dsimp only at hc hc2 d1 d2 K1 K2 HLT hx1 hx2
        generalize Crn.dec n1 = D1 at *
        generalize Crn.dec n2 = D2 at *
        generalize (LL ++ (Crn.nts x.nth).take k) = Lk at *
        rw [had]
        have q1 : (⟨#[35]⟩ : ByteArray).size = 1 := rfl
        have s1 : ¬ (9223372036854775807 < D2.size + (⟨#[35]⟩ : ByteArray).size) := by rw [q1]; omega
        have s1b : ¬ (9223372036854775807 < D2.size + 1) := by omega
        have s2 : ¬ (9223372036854775807 < D2.size + 1 + D1.size) := by omega
        have s3 : ¬ (9223372036854775807 < D2.size + (⟨#[35]⟩ : ByteArray).size + D1.size) := by rw [q1]; omega
        obtain ⟨y0, y1⟩ := (NBox.new wr (n1, n2)).cells
        have hBA : Below W0.heap.size W0 (wr.alloc (.cells #[.int .i64 n1, .int .i64 n2] 42)) := hB.alloc hB.size _
        have hne := fun j hj => (hown.lt j hj).2
        have hoA := own_later hown ((Below.refl _ wr).alloc (Nat.le_refl _) (.cells #[.int .i64 n1, .int .i64 n2] 42))
        have HA := hide (And.intro y0 (And.intro y1 (And.intro hBA hoA)))
        clear y0 y1 hBA hoA hown hB
        go_upto_region 7 with fail
        obtain ⟨y0, y1, hBA, hoA⟩ := HA.out
        obtain ⟨W1, hW1⟩ : ∃ W1, wr.alloc (.cells #[.int .i64 n1, .int .i64 n2] 42) = W1 := ⟨_, rfl⟩
        rw [hW1] at y0 y1 hBA hoA ⊢
        clear hW1 HA hc hc2
        have hS : W1.drew.cell? ⟨wr.heap.size, 0, none⟩ = some (.int .i64 n1) ∧ W1.drew.cell? ⟨wr.heap.size, 1, none⟩ = some (.int .i64 n2) := ⟨y0, y1⟩
        refine wp_region_noPanic ?_
        refine wp_region_linGM (S := fun X => X.cell? ⟨wr.heap.size, 0, none⟩ = some (.int .i64 n1) ∧ X.cell? ⟨wr.heap.size, 1, none⟩ = some (.int .i64 n2)) (R := fun _ => True) [] (by kernel_rfl) (by kernel_rfl) [(0, none, 1), (1, none, 1), (2, none, 0), (5, none, 1), (6, none, 0), (3, none, 2), (4, none, 1), (7, none, 2), (8, none, 1), (9, none, 2), (10, none, 2), (11, none, 1)] (by kernel_rfl) (by kernel_rfl) (fun _ _ _ _ _ h => h) (by exact trivial) (by exact hS) (fun ops' Q' hops hQ' => ?_)
        refine wpLinG_pure (o := { dst := some 22, op := Go.Op.move (Go.Operand.tmp 3), type := 48, pos := "text.go:89", after := #[], guard := none }) (v := ?vy0) (by rw [hops]; rfl) (by first | exact trivial | rfl) ?ey0 ?hy0
        case ey0 => intro w'; go_simp; (try rfl)
        (try simp only [Act.put, List.setIfInBounds_toArray, List.set_cons_zero, List.set_cons_succ])
        refine wpLinG_pure (o := { dst := some 23, op := Go.Op.fieldAddr 42 (Go.Operand.tmp 5) 1, type := 0, pos := "text.go:89", after := #[], guard := none }) (v := ?vy1) (by rw [hops]; rfl) (by first | exact trivial | rfl) ?ey1 ?hy1
        case ey1 => intro w'; go_simp; (try rfl)
        (try simp only [Act.put, List.setIfInBounds_toArray, List.set_cons_zero, List.set_cons_succ])
        refine wpLinG_read (o := { dst := some 24, op := Go.Op.load 3 (Go.Operand.tmp 23), type := 3, pos := "text.go:89", after := #[{ on := 1, ground := Go.Ground.data }], guard := none }) (v := ?vy2) (by rw [hops]; rfl) (by first | exact trivial | rfl) hS ?ey2 ?hy2
        case ey2 => intro w' hw'; obtain ⟨e1, e2⟩ := hw'; go_simp; (try rfl)
        (try simp only [Act.put, List.setIfInBounds_toArray, List.set_cons_zero, List.set_cons_succ])
        refine wpLinG_pure (o := { dst := some 27, op := Go.Op.fieldAddr 42 (Go.Operand.tmp 5) 0, type := 0, pos := "text.go:89", after := #[], guard := none }) (v := ?vy3) (by rw [hops]; rfl) (by first | exact trivial | rfl) ?ey3 ?hy3
        case ey3 => intro w'; go_simp; (try rfl)
        (try simp only [Act.put, List.setIfInBounds_toArray, List.set_cons_zero, List.set_cons_succ])
        refine wpLinG_read (o := { dst := some 28, op := Go.Op.load 3 (Go.Operand.tmp 27), type := 3, pos := "text.go:89", after := #[{ on := 5, ground := Go.Ground.data }], guard := none }) (v := ?vy4) (by rw [hops]; rfl) (by first | exact trivial | rfl) hS ?ey4 ?hy4
        case ey4 => intro w' hw'; obtain ⟨e1, e2⟩ := hw'; go_simp; (try rfl)
        (try simp only [Act.put, List.setIfInBounds_toArray, List.set_cons_zero, List.set_cons_succ])
        refine wpLinG_do (o := { dst := some 25, op := Go.Op.call { callee := Go.Callee.value (Go.Operand.func 13), args := #[Go.Operand.tmp 24], argTypes := #[3] }, type := 9, pos := "text.go:89", after := #[{ on := 2, ground := Go.Ground.data }], guard := none }) (by rw [hops]; rfl) (by first | exact trivial | rfl) (fun K hK => ?_)
        go_simp
        refine (K2.out _).mono ?_
        rintro e X1 ⟨rfl, rfl⟩
        refine hK _ _ trivial hS ?_
        clear hK K
        (try simp only [Act.put, List.setIfInBounds_toArray, List.set_cons_zero, List.set_cons_succ])
        refine wpLinG_pure (o := { dst := some 26, op := Go.Op.binOp Go.BinOp.add 9 (Go.Operand.tmp 25) (Go.Operand.const (Go.Value.string { data := #[35] })) 9, type := 9, pos := "text.go:89", after := #[{ on := 3, ground := Go.Ground.data }], guard := none }) (v := ?vy6) (by rw [hops]; rfl) (by first | exact trivial | rfl) ?ey6 ?hy6
        case ey6 => intro w'; go_simp; (try rfl)
        (try simp only [Act.put, List.setIfInBounds_toArray, List.set_cons_zero, List.set_cons_succ])
        refine wpLinG_do (o := { dst := some 29, op := Go.Op.call { callee := Go.Callee.value (Go.Operand.func 13), args := #[Go.Operand.tmp 28], argTypes := #[3] }, type := 9, pos := "text.go:89", after := #[{ on := 6, ground := Go.Ground.data }, { on := 3, ground := Go.Ground.chain }], guard := none }) (by rw [hops]; rfl) (by first | exact trivial | rfl) (fun K hK => ?_)
        go_simp
        refine (K1.out _).mono ?_
        rintro e X1 ⟨rfl, rfl⟩
        refine hK _ _ trivial hS ?_
        clear hK K
        (try simp only [Act.put, List.setIfInBounds_toArray, List.set_cons_zero, List.set_cons_succ])
        refine wpLinG_pure (o := { dst := some 30, op := Go.Op.binOp Go.BinOp.add 9 (Go.Operand.tmp 26) (Go.Operand.tmp 29) 9, type := 9, pos := "text.go:89", after := #[{ on := 4, ground := Go.Ground.data }, { on := 7, ground := Go.Ground.data }], guard := none }) (v := ?vy8) (by rw [hops]; rfl) (by first | exact trivial | rfl) ?ey8 ?hy8
        case ey8 => intro w'; go_simp; (try rfl)
        (try simp only [Act.put, List.setIfInBounds_toArray, List.set_cons_zero, List.set_cons_succ])
        refine wpLinG_do (o := { dst := some 31, op := Go.Op.buildSlice 48 1 #[(0, Go.Operand.tmp 30)], type := 48, pos := "text.go:89", after := #[{ on := 8, ground := Go.Ground.data }], guard := none }) (by rw [hops]; rfl) (by first | exact trivial | rfl) (fun K hK => ?_)
        go_simp
        have hS2 := hS
        replace hS : (W1.alloc (.cells #[.string (D2 ++ ⟨#[35]⟩ ++ D1)] 9)).drew.cell? ⟨wr.heap.size, 0, none⟩ = some (.int .i64 n1) ∧ (W1.alloc (.cells #[.string (D2 ++ ⟨#[35]⟩ ++ D1)] 9)).drew.cell? ⟨wr.heap.size, 1, none⟩ = some (.int .i64 n2) := ⟨(((Below.refl _ W1).alloc (Nat.le_refl _) _).cell (World.block_lt_of_cell? _ _ y0)).trans y0, (((Below.refl _ W1).alloc (Nat.le_refl _) _).cell (World.block_lt_of_cell? _ _ y1)).trans y1⟩
        refine hK _ _ trivial hS ?_
        clear hK K
        (try simp only [Act.put, List.setIfInBounds_toArray, List.set_cons_zero, List.set_cons_succ])
        refine wpLinG_do (o := { dst := some 32, op := Go.Op.call { callee := Go.Callee.builtin Go.Builtin.append, args := #[Go.Operand.tmp 22, Go.Operand.tmp 31], argTypes := #[48, 48] }, type := 48, pos := "text.go:89", after := #[{ on := 0, ground := Go.Ground.data }, { on := 9, ground := Go.Ground.data }, { on := 7, ground := Go.Ground.chain }], guard := none }) (by rw [hops]; rfl) (by first | exact trivial | rfl) (fun K hK => ?_)
        have hsW : W0.heap.size ≤ W1.heap.size := hBA.size
        refine wp_append_strs (.tmp 22) (.tmp 31) rfl W0.heap.size W1.heap.size _ _ Lk [D2 ++ ⟨#[35]⟩ ++ D1] rfl (own_later hoA ((Below.refl _ W1).alloc (Nat.le_refl _) _).drew) rfl (own_one_d W1 (D2 ++ ⟨#[35]⟩ ++ D1)) (by show Lk.length + 1 ≤ 1000; omega) (by show W0.heap.size ≤ (W1.alloc _).heap.size; rw [World.size_alloc]; omega) ?_
        intro v4 X4 ho4 hb4 hk4
        have hB4 : Below W0.heap.size W0 X4 := ((hBA).alloc hsW (.cells #[.string (D2 ++ ⟨#[35]⟩ ++ D1)] 9)).drew.trans hb4
        have hS2 := hS
        have hblk := hk4 wr.heap.size (World.block_lt_of_cell? _ _ hS2.1) (fun e => absurd (hne _ e) (Nat.lt_irrefl _))
        obtain ⟨b4, l4, c4, rfl⟩ := ownr_form ho4
        replace hS : X4.cell? ⟨wr.heap.size, 0, none⟩ = some (.int .i64 n1) ∧ X4.cell? ⟨wr.heap.size, 1, none⟩ = some (.int .i64 n2) := ⟨(World.cell?_of_block hblk).trans hS2.1, (World.cell?_of_block hblk).trans hS2.2⟩
        refine hK _ _ trivial hS ?_
        clear hK K
        (try simp only [Act.put, List.setIfInBounds_toArray, List.set_cons_zero, List.set_cons_succ])
        refine wpLinG_pure (o := { dst := some 3, op := Go.Op.assign (Go.Operand.tmp 32), type := 48, pos := "text.go:89", after := #[{ on := 10, ground := Go.Ground.data }, { on := 10, ground := Go.Ground.chain }, { on := 0, ground := Go.Ground.phase }, { on := 1, ground := Go.Ground.phase }, { on := 2, ground := Go.Ground.phase }, { on := 3, ground := Go.Ground.phase }, { on := 4, ground := Go.Ground.phase }, { on := 5, ground := Go.Ground.phase }, { on := 6, ground := Go.Ground.phase }, { on := 7, ground := Go.Ground.phase }, { on := 8, ground := Go.Ground.phase }, { on := 9, ground := Go.Ground.phase }, { on := 10, ground := Go.Ground.phase }], guard := none }) (v := ?vy11) (by rw [hops]; rfl) (by first | exact trivial | rfl) ?ey11 ?hy11
        case ey11 => intro w'; go_simp; (try rfl)
        (try simp only [Act.put, List.setIfInBounds_toArray, List.set_cons_zero, List.set_cons_succ])
        subst hQ'
        refine NoPanic.normal ?_
        clear hops hS hk4 hb4 hblk hS2
        rw [← HLT.out] at ho4
        replace ho4 : X4.ownsRow W0.heap.size 9 1 (.slice b4 l4 c4) (LL ++ (Crn.nts x.nth).take (k + 1)).length (strs (LL ++ (Crn.nts x.nth).take (k + 1))) := by rw [HLT.out] at ho4 ⊢; exact ho4
        go_wp2
        go_roundw
        case rel => exact ⟨k + 1, by omega, by go_num, ho4, hB4⟩
        case measure => simp [intOf]; omega
      · have hkn : k = x.nth.length := by omega
        have hki : (x.nth.length : Int) ≤ k := by omega
        subst hkn
        rw [← HD.out] at hown
        have hbe := HWW.out.be.trans (hB.mono (by omega))
        obtain ⟨b4, l4, c4, rfl⟩ := ownr_form hown
        go_wp2_with fail
        refine (KJ.out _ _ _ hown).mono ?_
        rintro e W3 ⟨rfl, b4⟩
        have hB3 := hbe.trans (b4.mono hbe.size)
        go_wp2
        go_ret
        exact ⟨rfl, hB3⟩
  · rw [hany] at HO x7
    clear hany
    obtain rfl : T = Crn.star := HO.out
    clear HO KJ
    go_wp2
    go_ret
    exact ⟨rfl, hw.be⟩
end Go.Proofs.YtmecghnemocdpaaDoor
