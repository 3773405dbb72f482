/- The reference of package cron: CronText. -/
import Derived.Test.YtmecghnemocdpaaDoorCrnK
import Derived.Test.YtmecghnemocdpaaDoorCrnJ
namespace Go.Proofs.YtmecghnemocdpaaDoor
open Go.RowKit Go.Shelf
set_option linter.unusedVariables false
set_option linter.unusedSimpArgs false

/-- what the walk keeps: the Cron's box, the two texts -/
structure RT (w : World) (A : CAd) (x : Crn.C) (B1 B2 : Nat) (D V : ByteArray) (W : World) : Prop where
  bx : CBox W w.heap.size A x
  d : Boxed W B1 9 (.string D)
  v : Boxed W B2 9 (.string V)
  be : Below w.heap.size w W
  l1 : w.heap.size < B1
  l2 : w.heap.size < B2
  ne : B1 ≠ B2
theorem RT.later {w : World} {A : CAd} {x : Crn.C} {B1 B2 : Nat} {D V : ByteArray} {W W' : World} (h : RT w A x B1 B2 D V W) (hb : Below W.heap.size W W') : RT w A x B1 B2 D V W' :=
  ⟨h.bx.later hb, (hb.block B1 h.d.lt).trans h.d, (hb.block B2 h.v.lt).trans h.v, h.be.trans (hb.mono h.be.size), h.l1, h.l2, h.ne⟩
theorem RT.add1 {w : World} {A : CAd} {x : Crn.C} {B1 B2 : Nat} {D V D' : ByteArray} {W W' : World} (h : RT w A x B1 B2 D V W) (hd : Boxed W' B1 9 (.string D')) (hu : Upd B1 W W') : RT w A x B1 B2 D' V W' :=
  ⟨(hu.block _ (Nat.ne_of_lt h.l1)).trans h.bx, hd, (hu.block _ (Ne.symm h.ne)).trans h.v, hu.below h.be (Nat.le_of_lt h.l1), h.l1, h.l2, h.ne⟩
theorem RT.add2 {w : World} {A : CAd} {x : Crn.C} {B1 B2 : Nat} {D V V' : ByteArray} {W W' : World} (h : RT w A x B1 B2 D V W) (hv : Boxed W' B2 9 (.string V')) (hu : Upd B2 W W') : RT w A x B1 B2 D V' W' :=
  ⟨(hu.block _ (Nat.ne_of_lt h.l2)).trans h.bx, (hu.block _ h.ne).trans h.d, hv, hu.below h.be (Nat.le_of_lt h.l2), h.l1, h.l2, h.ne⟩
/-- texts that are not long -/
def TxL (L : List ByteArray) : Prop := L.length ≤ 400 ∧ ∀ y ∈ L, y.size ≤ 12 ∧ 0 < y.size
theorem TxL.take {P Q : List ByteArray} (h : TxL (P ++ Q)) (k : Nat) : TxL (P ++ Q.take k) := by
  refine ⟨by have := h.1; rw [List.length_append] at this ⊢; rw [List.length_take]; omega, fun y hy => h.2 y ?_⟩
  rcases List.mem_append.1 hy with hy | hy
  · exact List.mem_append_left _ hy
  · exact List.mem_append_right _ (List.mem_of_mem_take hy)
theorem TxL.left {P Q : List ByteArray} (h : TxL (P ++ Q)) : TxL P :=
  ⟨by have := h.1; rw [List.length_append] at this; omega, fun y hy => h.2 y (List.mem_append_left _ hy)⟩
theorem TxL.size {L : List ByteArray} (h : TxL L) : (Crn.joinB L).size ≤ 5200 := by
  have h1 := Crn.joinB_size L 12 (fun y hy => (h.2 y hy).1)
  have := h.1
  omega
/-- one more -/
theorem radd_join (B : Nat) (L : List ByteArray) (t : ByteArray) (w : World) (h : Boxed w B 9 (.string (Crn.joinB L))) (hL : TxL L) (ht : t.size ≤ 12) :
    Calls Tryd.prog 12 #[.pointer (some ⟨B, 0, none⟩), .string t] w fun e w' => e = .returned (.tuple #[]) ∧ Boxed w' B 9 (.string (Crn.joinB (L ++ [t]))) ∧ Upd B w w' := by
  rw [← addB_join L t (fun y hy => (hL.2 y hy).2)]
  exact radd_text B _ t w h (by have := hL.size; omega)
theorem its_take (l : List Int) (b : ByteArray) (k : Nat) (h : k < l.length) : (Crn.its l b).take (k + 1) = (Crn.its l b).take k ++ [Crn.dec (l.getD k 0) ++ b] := by
  rw [getD_take_succ _ k ⟨#[]⟩ (by rw [its_length]; exact h), its_get l b k h ⟨#[]⟩]
theorem app_none (t : ByteArray) : t ++ ⟨#[]⟩ = t := by
  obtain ⟨d⟩ := t
  rw [Crn.mk_app]; simp
set_option maxRecDepth 100000 in
set_option maxHeartbeats 4000000 in
theorem rtext_no (A : CAd) (x : Crn.C) (w : World) (hk : KT w) (hl : CL A x w) (hok : Crn.ok x = false)
    (kc : ∀ W, CW w A x W → Calls Tryd.prog 7 #[crV A x] W fun e w' => e = .returned (.int .i64 (argN (Crn.ok x))) ∧ Below W.heap.size W w') :
    Calls Tryd.prog 5 #[crV A x] w fun e w' => e = .returned (.tuple #[.string ⟨#[]⟩, .int .i64 1]) ∧ Below w.heap.size w w' := by
  have HW := hide (CW.new hk hl)
  have KC := hide kc
  clear kc
  rw [hok, show argN false = 1 from rfl] at KC
  clear hk hl hok
  go_enter Tryd.func5, Tryd.ntmps5
  go_upto_region 1 with fail
  obtain ⟨W0, hW0⟩ : ∃ W0, (w.alloc (.cells #[.slice A.m x.mi.length A.cm, .slice A.h x.ho.length A.ch, .slice A.o x.mo.length A.co, .bool x.any, .slice A.d x.da.length A.cd, .bool x.last, .slice A.n x.near.length A.cn, .bool x.anyW, .slice A.w x.wd.length A.cw, .slice A.l x.lo.length A.cl, .slice A.t x.nth.length A.ct] 25)) = W0 := ⟨_, rfl⟩
  rw [hW0] at HW ⊢
  clear hW0
  have hw := HW.out
  clear HW
  obtain ⟨x0, x1, x2, x3, x4, x5, x6, x7, x8, x9, x10⟩ := hw.bx.cells
  go_wp2_with fail
  refine (KC.out _ hw).mono ?_
  rintro e W1 ⟨rfl, b1⟩
  have hB := hw.be.trans (b1.mono hw.be.size)
  go_wp2
  go_ret2
  exact ⟨rfl, hB⟩
theorem keep5 {w X X' : World} {a b c d e : Addr} {u1 u2 u3 u4 u5 : Value} (h : (X.cell? a = some u1 ∧ X.cell? b = some u2 ∧ X.cell? c = some u3 ∧ X.cell? d = some u4 ∧ X.cell? e = some u5) ∧ Below w.heap.size w X) (hb : Below X.heap.size X X') :
    (X'.cell? a = some u1 ∧ X'.cell? b = some u2 ∧ X'.cell? c = some u3 ∧ X'.cell? d = some u4 ∧ X'.cell? e = some u5) ∧ Below w.heap.size w X' := by
  obtain ⟨⟨h1, h2, h3, h4, h5⟩, h6⟩ := h
  exact ⟨⟨(hb.cell (World.block_lt_of_cell? _ _ h1)).trans h1, (hb.cell (World.block_lt_of_cell? _ _ h2)).trans h2, (hb.cell (World.block_lt_of_cell? _ _ h3)).trans h3, (hb.cell (World.block_lt_of_cell? _ _ h4)).trans h4, (hb.cell (World.block_lt_of_cell? _ _ h5)).trans h5⟩, h6.trans (hb.mono h6.size)⟩
set_option maxRecDepth 100000 in
set_option maxHeartbeats 16000000 in
theorem rtext_ok (A : CAd) (x : Crn.C) (w : World) (hk : KT w) (hl : CL A x w) (hok : Crn.ok x = true)
    (kc : ∀ W, CW w A x W → Calls Tryd.prog 7 #[crV A x] W fun e w' => e = .returned (.int .i64 (argN (Crn.ok x))) ∧ Below W.heap.size W w') :
    Calls Tryd.prog 5 #[crV A x] w fun e w' => e = .returned (.tuple #[.string (Crn.text x), .int .i64 0]) ∧ Below w.heap.size w w' := by
  have HW := hide (CW.new hk hl)
  have KC := hide kc
  clear kc
  have hs := ok_sm hok
  rw [hok, show argN true = 0 from rfl] at KC
  have HL := hide hl
  have HS := hide hs
  have KM := hide (fun W (hb : Below w.heap.size w W) => ralls_any A.m A.cm 60 x.mi W (hl.mi.later hb) hs.mi)
  have KH := hide (fun W (hb : Below w.heap.size w W) => ralls_any A.h A.ch 24 x.ho W (hl.ho.later hb) hs.ho)
  have KO := hide (fun W (hb : Below w.heap.size w W) => ralls_any A.o A.co 12 x.mo W (hl.mo.later hb) hs.mo)
  have HT : Hid (Crn.text x = Crn.word 60 x.mi ++ Crn.sp ++ Crn.word 24 x.ho ++ Crn.sp ++ Crn.dWord x ++ Crn.sp ++ Crn.word 12 x.mo ++ Crn.sp ++ Crn.wWord x) := rfl
  have HDW : Hid (Crn.dWord x = if x.any then Crn.star else Crn.joinB (Crn.dItems x)) := rfl
  have HWW : Hid (Crn.wWord x = if x.anyW then Crn.star else Crn.joinB (Crn.wItems x)) := rfl
  have td : TxL (Crn.dItems x) := ⟨by have := (dItems_bd x hs.da hs.near).1; omega, (dItems_bd x hs.da hs.near).2⟩
  have tw : TxL (Crn.wItems x) := ⟨by have := (wItems_bd x hs.wd hs.lo hs.nth).1; omega, (wItems_bd x hs.wd hs.lo hs.nth).2⟩
  have td2 : TxL (Crn.its x.da ⟨#[]⟩ ++ Crn.its x.near ⟨#[87]⟩) := td.left
  have td1 : TxL ([] ++ Crn.its x.da ⟨#[]⟩) := td2.left
  have tw2 : TxL (Crn.its x.wd ⟨#[]⟩ ++ Crn.its x.lo ⟨#[76]⟩) := tw.left
  have tw1 : TxL ([] ++ Crn.its x.wd ⟨#[]⟩) := tw2.left
  have HTX := hide (And.intro td (And.intro td2 (And.intro td1 (And.intro tw (And.intro tw2 tw1)))))
  have z0 := word_size 60 x.mi hs.mi
  have z1 := word_size 24 x.ho hs.ho
  have z2 := dWord_size hs
  have z3 := word_size 12 x.mo hs.mo
  have z4 := wWord_size hs
  generalize Crn.text x = T at *
  clear td tw td2 td1 tw2 tw1 hk hl hok hs
  go_enter Tryd.func5, Tryd.ntmps5
  go_upto_region 1 with fail
  obtain ⟨W0, hW0⟩ : ∃ W0, (w.alloc (.cells #[.slice A.m x.mi.length A.cm, .slice A.h x.ho.length A.ch, .slice A.o x.mo.length A.co, .bool x.any, .slice A.d x.da.length A.cd, .bool x.last, .slice A.n x.near.length A.cn, .bool x.anyW, .slice A.w x.wd.length A.cw, .slice A.l x.lo.length A.cl, .slice A.t x.nth.length A.ct] 25)) = W0 := ⟨_, rfl⟩
  rw [hW0] at HW ⊢
  clear hW0
  have hw := HW.out
  clear HW
  obtain ⟨x0, x1, x2, x3, x4, x5, x6, x7, x8, x9, x10⟩ := hw.bx.cells
  go_wp2_with fail
  refine (KC.out _ hw).mono ?_
  rintro e W1 ⟨rfl, b1⟩
  replace hw := hw.later b1
  clear x0 x1 x2 x3 x4 x5 x6 x7 x8 x9 x10
  clear b1 KC
  have hr0 : RT w A x W1.heap.size (W1.heap.size + 1) ⟨#[]⟩ ⟨#[]⟩ ((W1.alloc (.cells #[.string ⟨#[]⟩] 9)).alloc (.cells #[.string ⟨#[]⟩] 9)) := by
    have hlt := hw.bx.lt
    have y1 := (Boxed.new W1 9 (.string ⟨#[]⟩)).alloc (.cells #[.string ⟨#[]⟩] 9)
    have y2 := Boxed.new (W1.alloc (.cells #[.string ⟨#[]⟩] 9)) 9 (.string ⟨#[]⟩)
    rw [World.size_alloc] at y2
    have hbb : Below W1.heap.size W1 ((W1.alloc (.cells #[.string ⟨#[]⟩] 9)).alloc (.cells #[.string ⟨#[]⟩] 9)) := ((Below.refl _ W1).alloc (Nat.le_refl _) _).alloc (by simp) _
    exact ⟨hw.bx.later hbb, y1, y2, hw.be.trans (hbb.mono hw.be.size), hlt, by omega, by omega⟩
  have HR := hide hr0
  clear hr0 hw
  go_upto_region 7 with fail
  obtain ⟨W2, hW2⟩ : ∃ W2, ((W1.alloc (.cells #[.string ⟨#[]⟩] 9)).alloc (.cells #[.string ⟨#[]⟩] 9)) = W2 := ⟨_, rfl⟩
  rw [hW2] at HR ⊢
  clear hW2
  obtain ⟨B, hB⟩ : ∃ B, W1.heap.size = B := ⟨_, rfl⟩
  rw [hB] at HR ⊢
  clear hB
  have hr : RT w A x B (B + 1) (Crn.joinB ([] ++ (Crn.its x.da ⟨#[]⟩).take 0)) ⟨#[]⟩ W2 := HR.out
  clear HR
  have xc := hr.bx.cells
  obtain ⟨x0, x1, x2, x3, x4, x5, x6, x7, x8, x9, x10⟩ := xc
  go_wp2_with fail
  clear x0 x1 x2 x3 x4 x5 x6 x7 x8 x9 x10
  go_loopw [27] (fun i wr => ∃ k : Nat, k ≤ x.da.length ∧ i = .int .i64 k ∧ RT w A x B (B + 1) (Crn.joinB ([] ++ (Crn.its x.da ⟨#[]⟩).take k)) ⟨#[]⟩ wr) (fun i _ => x.da.length - (intOf i).toNat)
  case atStart => exact ⟨0, by omega, rfl, hr⟩
  case round =>
    clear hr
    obtain ⟨k, hk, rfl, hr⟩ := hrel
    have hn := HS.out.da.1
    by_cases hlt : k < x.da.length
    · have hki : (k : Int) < x.da.length := by omega
      obtain ⟨ad, had, hc⟩ := (HL.out.da.later hr.be) k hlt
      have hx := HS.out.da.2 k hlt
      have hd := Crn.dec_size _ hx.1 hx.2
      have K := hide (fun W => itoa_lit _ W hx.1 hx.2)
      have hT : [] ++ (Crn.its x.da ⟨#[]⟩).take (k + 1) = ([] ++ (Crn.its x.da ⟨#[]⟩).take k) ++ [Crn.dec (x.da.getD k 0) ++ ⟨#[]⟩] := by rw [its_take _ _ _ hlt, List.append_assoc]
      have tx : TxL ([] ++ (Crn.its x.da ⟨#[]⟩).take k) := (HTX.out.2.2.1).take k
      rw [had]
      rw [app_none] at hT
      have HTT := hide hT
      clear hT
      generalize Crn.dec (x.da.getD k 0) = Q at *
      generalize x.da.getD k 0 = n at *
      generalize ([] ++ (Crn.its x.da ⟨#[]⟩).take k) = Lk at *
      go_wp2_with fail
      refine (K.out _).mono ?_
      rintro e X1 ⟨rfl, rfl⟩
      go_wp2_with fail
      have s2 : Q.size ≤ 12 := by omega
      have hX := radd_join B Lk Q _ hr.d tx s2
      with_reducible refine hX.mono ?_
      rintro e X2 ⟨rfl, hbx, hu⟩
      clear hX
      rw [← HTT.out] at hbx
      have hr2 := hr.add1 hbx hu
      clear hr hbx hu
      go_wp2
      go_roundw
      case rel => exact ⟨k + 1, by omega, by go_num, hr2⟩
      case measure => simp [intOf]; omega
    · have hkn : k = x.da.length := by omega
      have hki : (x.da.length : Int) ≤ k := by omega
      subst hkn
      rw [List.take_of_length_le (by rw [its_length]; omega)] at hr
      replace hr : RT w A x B (B + 1) (Crn.joinB (Crn.its x.da ⟨#[]⟩ ++ (Crn.its x.near ⟨#[87]⟩).take 0)) ⟨#[]⟩ wr := by simpa using hr
      clear hk hki hlt hn
      have xc := hr.bx.cells
      obtain ⟨x0, x1, x2, x3, x4, x5, x6, x7, x8, x9, x10⟩ := xc
      go_wp2_with fail
      clear x0 x1 x2 x3 x4 x5 x6 x7 x8 x9 x10
      go_loopw [39] (fun i wr => ∃ k : Nat, k ≤ x.near.length ∧ i = .int .i64 k ∧ RT w A x B (B + 1) (Crn.joinB (Crn.its x.da ⟨#[]⟩ ++ (Crn.its x.near ⟨#[87]⟩).take k)) ⟨#[]⟩ wr) (fun i _ => x.near.length - (intOf i).toNat)
      case atStart => exact ⟨0, by omega, rfl, hr⟩
      case round =>
        clear hr
        obtain ⟨k, hk, rfl, hr⟩ := hrel
        have hn := HS.out.near.1
        by_cases hlt : k < x.near.length
        · have hki : (k : Int) < x.near.length := by omega
          obtain ⟨ad, had, hc⟩ := (HL.out.near.later hr.be) k hlt
          have hx := HS.out.near.2 k hlt
          have hd := Crn.dec_size _ hx.1 hx.2
          have K := hide (fun W => itoa_lit _ W hx.1 hx.2)
          have hT : Crn.its x.da ⟨#[]⟩ ++ (Crn.its x.near ⟨#[87]⟩).take (k + 1) = (Crn.its x.da ⟨#[]⟩ ++ (Crn.its x.near ⟨#[87]⟩).take k) ++ [Crn.dec (x.near.getD k 0) ++ ⟨#[87]⟩] := by rw [its_take _ _ _ hlt, List.append_assoc]
          have tx : TxL (Crn.its x.da ⟨#[]⟩ ++ (Crn.its x.near ⟨#[87]⟩).take k) := (HTX.out.2.1).take k
          rw [had]
          have HTT := hide hT
          clear hT
          generalize Crn.dec (x.near.getD k 0) = Q at *
          generalize x.near.getD k 0 = n at *
          generalize (Crn.its x.da ⟨#[]⟩ ++ (Crn.its x.near ⟨#[87]⟩).take k) = Lk at *
          have q1 : (⟨#[87]⟩ : ByteArray).size = 1 := rfl
          have s1 : Q.size + (⟨#[87]⟩ : ByteArray).size ≤ 1000 := by rw [q1]; omega
          have s2 : (Q ++ ⟨#[87]⟩).size ≤ 12 := by rw [ByteArray.size_append, q1]; omega
          have s1b : ¬ (9223372036854775807 < Q.size + 1) := by omega
          have s1c : ¬ (9223372036854775807 ≤ Q.size) := by omega
          have s1d : ¬ (9223372036854775807 < Q.size + (⟨#[87]⟩ : ByteArray).size) := by rw [q1]; omega
          go_wp2_with fail
          refine (K.out _).mono ?_
          rintro e X1 ⟨rfl, rfl⟩
          go_wp2_with fail
          have hX := radd_join B Lk (Q ++ ⟨#[87]⟩) _ hr.d tx s2
          with_reducible refine hX.mono ?_
          rintro e X2 ⟨rfl, hbx, hu⟩
          clear hX
          rw [← HTT.out] at hbx
          have hr2 := hr.add1 hbx hu
          clear hr hbx hu
          go_wp2
          go_roundw
          case rel => exact ⟨k + 1, by omega, by go_num, hr2⟩
          case measure => simp [intOf]; omega
        · have hkn : k = x.near.length := by omega
          have hki : (x.near.length : Int) ≤ k := by omega
          subst hkn
          rw [List.take_of_length_le (by rw [its_length]; omega)] at hr
          clear hk hki hlt hn
          have HDI := hide (dItems_eq x)
          cases hlast : x.last
          · rw [hlast] at HDI
            have xc := hr.bx.cells
            obtain ⟨x0, x1, x2, x3, x4, x5, x6, x7, x8, x9, x10⟩ := xc
            rw [hlast] at x5
            clear hlast
            have hDI : Crn.dItems x = (Crn.its x.da ⟨#[]⟩ ++ Crn.its x.near ⟨#[87]⟩) := by rw [HDI.out]; simp
            rw [← hDI] at hr
            clear hDI HDI
            go_upto_region 19 with fail
            clear x0 x1 x2 x3 x4 x5 x6 x7 x8 x9 x10
            replace hr : RT w A x B (B + 1) (Crn.joinB (Crn.dItems x)) (Crn.joinB ([] ++ (Crn.its x.wd ⟨#[]⟩).take 0)) wr := hr
            have xc := hr.bx.cells
            obtain ⟨x0, x1, x2, x3, x4, x5, x6, x7, x8, x9, x10⟩ := xc
            go_wp2_with fail
            clear x0 x1 x2 x3 x4 x5 x6 x7 x8 x9 x10
            go_loopw [56] (fun i wr => ∃ k : Nat, k ≤ x.wd.length ∧ i = .int .i64 k ∧ RT w A x B (B + 1) (Crn.joinB (Crn.dItems x)) (Crn.joinB ([] ++ (Crn.its x.wd ⟨#[]⟩).take k)) wr) (fun i _ => x.wd.length - (intOf i).toNat)
            case atStart => exact ⟨0, by omega, rfl, hr⟩
            case round =>
              clear hr
              obtain ⟨k, hk, rfl, hr⟩ := hrel
              have hn := HS.out.wd.1
              by_cases hlt : k < x.wd.length
              · have hki : (k : Int) < x.wd.length := by omega
                obtain ⟨ad, had, hc⟩ := (HL.out.wd.later hr.be) k hlt
                have hx := HS.out.wd.2 k hlt
                have hd := Crn.dec_size _ hx.1 hx.2
                have K := hide (fun W => itoa_lit _ W hx.1 hx.2)
                have hT : [] ++ (Crn.its x.wd ⟨#[]⟩).take (k + 1) = ([] ++ (Crn.its x.wd ⟨#[]⟩).take k) ++ [Crn.dec (x.wd.getD k 0) ++ ⟨#[]⟩] := by rw [its_take _ _ _ hlt, List.append_assoc]
                have tx : TxL ([] ++ (Crn.its x.wd ⟨#[]⟩).take k) := (HTX.out.2.2.2.2.2).take k
                rw [had]
                rw [app_none] at hT
                have HTT := hide hT
                clear hT
                generalize Crn.dec (x.wd.getD k 0) = Q at *
                generalize x.wd.getD k 0 = n at *
                generalize ([] ++ (Crn.its x.wd ⟨#[]⟩).take k) = Lk at *
                go_wp2_with fail
                refine (K.out _).mono ?_
                rintro e X1 ⟨rfl, rfl⟩
                go_wp2_with fail
                have s2 : Q.size ≤ 12 := by omega
                have hX := radd_join (B + 1) Lk Q _ hr.v tx s2
                with_reducible refine hX.mono ?_
                rintro e X2 ⟨rfl, hbx, hu⟩
                clear hX
                rw [← HTT.out] at hbx
                have hr2 := hr.add2 hbx hu
                clear hr hbx hu
                go_wp2
                go_roundw
                case rel => exact ⟨k + 1, by omega, by go_num, hr2⟩
                case measure => simp [intOf]; omega
              · have hkn : k = x.wd.length := by omega
                have hki : (x.wd.length : Int) ≤ k := by omega
                subst hkn
                rw [List.take_of_length_le (by rw [its_length]; omega)] at hr
                replace hr : RT w A x B (B + 1) (Crn.joinB (Crn.dItems x)) (Crn.joinB (Crn.its x.wd ⟨#[]⟩ ++ (Crn.its x.lo ⟨#[76]⟩).take 0)) wr := by simpa using hr
                clear hk hki hlt hn
                have xc := hr.bx.cells
                obtain ⟨x0, x1, x2, x3, x4, x5, x6, x7, x8, x9, x10⟩ := xc
                go_wp2_with fail
                clear x0 x1 x2 x3 x4 x5 x6 x7 x8 x9 x10
                go_loopw [68] (fun i wr => ∃ k : Nat, k ≤ x.lo.length ∧ i = .int .i64 k ∧ RT w A x B (B + 1) (Crn.joinB (Crn.dItems x)) (Crn.joinB (Crn.its x.wd ⟨#[]⟩ ++ (Crn.its x.lo ⟨#[76]⟩).take k)) wr) (fun i _ => x.lo.length - (intOf i).toNat)
                case atStart => exact ⟨0, by omega, rfl, hr⟩
                case round =>
                  clear hr
                  obtain ⟨k, hk, rfl, hr⟩ := hrel
                  have hn := HS.out.lo.1
                  by_cases hlt : k < x.lo.length
                  · have hki : (k : Int) < x.lo.length := by omega
                    obtain ⟨ad, had, hc⟩ := (HL.out.lo.later hr.be) k hlt
                    have hx := HS.out.lo.2 k hlt
                    have hd := Crn.dec_size _ hx.1 hx.2
                    have K := hide (fun W => itoa_lit _ W hx.1 hx.2)
                    have hT : Crn.its x.wd ⟨#[]⟩ ++ (Crn.its x.lo ⟨#[76]⟩).take (k + 1) = (Crn.its x.wd ⟨#[]⟩ ++ (Crn.its x.lo ⟨#[76]⟩).take k) ++ [Crn.dec (x.lo.getD k 0) ++ ⟨#[76]⟩] := by rw [its_take _ _ _ hlt, List.append_assoc]
                    have tx : TxL (Crn.its x.wd ⟨#[]⟩ ++ (Crn.its x.lo ⟨#[76]⟩).take k) := (HTX.out.2.2.2.2.1).take k
                    rw [had]
                    have HTT := hide hT
                    clear hT
                    generalize Crn.dec (x.lo.getD k 0) = Q at *
                    generalize x.lo.getD k 0 = n at *
                    generalize (Crn.its x.wd ⟨#[]⟩ ++ (Crn.its x.lo ⟨#[76]⟩).take k) = Lk at *
                    have q1 : (⟨#[76]⟩ : ByteArray).size = 1 := rfl
                    have s1 : Q.size + (⟨#[76]⟩ : ByteArray).size ≤ 1000 := by rw [q1]; omega
                    have s2 : (Q ++ ⟨#[76]⟩).size ≤ 12 := by rw [ByteArray.size_append, q1]; omega
                    have s1b : ¬ (9223372036854775807 < Q.size + 1) := by omega
                    have s1c : ¬ (9223372036854775807 ≤ Q.size) := by omega
                    have s1d : ¬ (9223372036854775807 < Q.size + (⟨#[76]⟩ : ByteArray).size) := by rw [q1]; omega
                    go_wp2_with fail
                    refine (K.out _).mono ?_
                    rintro e X1 ⟨rfl, rfl⟩
                    go_wp2_with fail
                    have hX := radd_join (B + 1) Lk (Q ++ ⟨#[76]⟩) _ hr.v tx s2
                    with_reducible refine hX.mono ?_
                    rintro e X2 ⟨rfl, hbx, hu⟩
                    clear hX
                    rw [← HTT.out] at hbx
                    have hr2 := hr.add2 hbx hu
                    clear hr hbx hu
                    go_wp2
                    go_roundw
                    case rel => exact ⟨k + 1, by omega, by go_num, hr2⟩
                    case measure => simp [intOf]; omega
                  · have hkn : k = x.lo.length := by omega
                    have hki : (x.lo.length : Int) ≤ k := by omega
                    subst hkn
                    rw [List.take_of_length_le (by rw [its_length]; omega)] at hr
                    clear hk hki hlt hn
                    replace hr : RT w A x B (B + 1) (Crn.joinB (Crn.dItems x)) (Crn.joinB ((Crn.its x.wd ⟨#[]⟩ ++ Crn.its x.lo ⟨#[76]⟩) ++ (Crn.nts x.nth).take 0)) wr := by simpa using hr
                    have xc := hr.bx.cells
                    obtain ⟨x0, x1, x2, x3, x4, x5, x6, x7, x8, x9, x10⟩ := xc
                    go_wp2_with fail
                    clear x0 x1 x2 x3 x4 x5 x6 x7 x8 x9 x10
                    go_loopw [81] (fun i wr => ∃ k : Nat, k ≤ x.nth.length ∧ i = .int .i64 k ∧ RT w A x B (B + 1) (Crn.joinB (Crn.dItems x)) (Crn.joinB ((Crn.its x.wd ⟨#[]⟩ ++ Crn.its x.lo ⟨#[76]⟩) ++ (Crn.nts x.nth).take k)) wr) (fun i _ => x.nth.length - (intOf i).toNat)
                    case atStart => exact ⟨0, by omega, rfl, hr⟩
                    case round =>
                      clear hr
                      obtain ⟨k, hk, rfl, hr⟩ := hrel
                      have hn := HS.out.nth.1
                      by_cases hlt : k < x.nth.length
                      · have hki : (k : Int) < x.nth.length := by omega
                        obtain ⟨ad, had, hc, hc2⟩ := (HL.out.nth.later hr.be) k hlt
                        obtain ⟨hx1, hx2⟩ := HS.out.nth.2 k hlt
                        have hT : (Crn.its x.wd ⟨#[]⟩ ++ Crn.its x.lo ⟨#[76]⟩) ++ (Crn.nts x.nth).take (k + 1) = ((Crn.its x.wd ⟨#[]⟩ ++ Crn.its x.lo ⟨#[76]⟩) ++ (Crn.nts x.nth).take k) ++ [Crn.dec (x.nth.getD k (0, 0)).2 ++ ⟨#[35]⟩ ++ Crn.dec (x.nth.getD k (0, 0)).1] := by rw [nts_take _ _ hlt]; simp only [List.append_assoc]
                        have d1 := Crn.dec_size _ hx1.1 hx1.2
                        have d2 := Crn.dec_size _ hx2.1 hx2.2
                        have K1 := hide (fun W => itoa_lit _ W hx1.1 hx1.2)
                        have K2 := hide (fun W => itoa_lit _ W hx2.1 hx2.2)
                        have tx : TxL ((Crn.its x.wd ⟨#[]⟩ ++ Crn.its x.lo ⟨#[76]⟩) ++ (Crn.nts x.nth).take k) := (show TxL ((Crn.its x.wd ⟨#[]⟩ ++ Crn.its x.lo ⟨#[76]⟩) ++ Crn.nts x.nth) from HTX.out.2.2.2.1).take k
                        have HTT := hide hT
                        clear hT
                        rw [had]
                        generalize x.nth.getD k (0, 0) = n at *
                        obtain ⟨n1, n2⟩ := n
                        dsimp only at hc hc2 d1 d2 K1 K2 HTT hx1 hx2
                        generalize Crn.dec n1 = D1 at *
                        generalize Crn.dec n2 = D2 at *
                        generalize ((Crn.its x.wd ⟨#[]⟩ ++ Crn.its x.lo ⟨#[76]⟩) ++ (Crn.nts x.nth).take k) = Lk at *
                        have q1 : (⟨#[35]⟩ : ByteArray).size = 1 := rfl
                        have s1 : ¬ (9223372036854775807 < D2.size + (⟨#[35]⟩ : ByteArray).size) := by rw [q1]; omega
                        have s1b : ¬ (9223372036854775807 < D2.size + 1) := by omega
                        have s2 : ¬ (9223372036854775807 < D2.size + 1 + D1.size) := by omega
                        have s3 : ¬ (9223372036854775807 < D2.size + (⟨#[35]⟩ : ByteArray).size + D1.size) := by rw [q1]; omega
                        have s4 : (D2 ++ ⟨#[35]⟩ ++ D1).size ≤ 12 := by rw [ByteArray.size_append, ByteArray.size_append, q1]; omega
                        obtain ⟨y0, y1⟩ := (NBox.new wr (n1, n2)).cells
                        have hrA := hr.later ((Below.refl _ wr).alloc (Nat.le_refl _) (.cells #[.int .i64 n1, .int .i64 n2] 42))
                        have HA := hide (And.intro y0 (And.intro y1 hrA))
                        have hwr1 := hr.d.lt
                        have hwr2 := hr.v.lt
                        clear y0 y1 hrA hr
                        go_upto_region 32 with fail
                        obtain ⟨y0, y1, hrA⟩ := HA.out
                        obtain ⟨W3, hW3⟩ : ∃ W3, wr.alloc (.cells #[.int .i64 n1, .int .i64 n2] 42) = W3 := ⟨_, rfl⟩
                        rw [hW3] at y0 y1 hrA ⊢
                        clear hW3 HA hc hc2
                        have hS : W3.drew.cell? ⟨wr.heap.size, 0, none⟩ = some (.int .i64 n1) ∧ W3.drew.cell? ⟨wr.heap.size, 1, none⟩ = some (.int .i64 n2) := ⟨y0, y1⟩
                        have hrB := hrA.later (Below.refl _ W3).drew
                        clear hrA
                        refine wp_region_noPanic ?_
                        refine wp_region_linGM (S := fun X => X.cell? ⟨wr.heap.size, 0, none⟩ = some (.int .i64 n1) ∧ X.cell? ⟨wr.heap.size, 1, none⟩ = some (.int .i64 n2)) (R := fun _ => True) [] (by kernel_rfl) (by kernel_rfl) [(0, none, 1), (1, none, 1), (2, none, 0), (5, none, 1), (6, none, 0), (3, none, 2), (4, none, 1), (7, none, 2), (8, none, 1), (9, none, 2)] (by kernel_rfl) (by kernel_rfl) (fun _ _ _ _ _ h => h) (by exact trivial) (by exact hS) (fun ops' Q' hops hQ' => ?_)
                        refine wpLinG_pure (o := { dst := some 85, op := Go.Op.move (Go.Operand.tmp 8), type := 39, pos := "work.go:249", after := #[], guard := none }) (v := ?vn00) (by rw [hops]; rfl) (by first | exact trivial | rfl) ?en00 ?hn00
                        case en00 => intro w'; go_simp; (try rfl)
                        (try simp only [Act.put, List.setIfInBounds_toArray, List.set_cons_zero, List.set_cons_succ])
                        refine wpLinG_pure (o := { dst := some 86, op := Go.Op.fieldAddr 42 (Go.Operand.tmp 18) 1, type := 0, pos := "work.go:249", after := #[], guard := none }) (v := ?vn01) (by rw [hops]; rfl) (by first | exact trivial | rfl) ?en01 ?hn01
                        case en01 => intro w'; go_simp; (try rfl)
                        (try simp only [Act.put, List.setIfInBounds_toArray, List.set_cons_zero, List.set_cons_succ])
                        refine wpLinG_read (o := { dst := some 87, op := Go.Op.load 3 (Go.Operand.tmp 86), type := 3, pos := "work.go:249", after := #[{ on := 1, ground := Go.Ground.data }], guard := none }) (v := ?vn02) (by rw [hops]; rfl) (by first | exact trivial | rfl) hS ?en02 ?hn02
                        case en02 => intro w' hw'; obtain ⟨e1, e2⟩ := hw'; go_simp; (try rfl)
                        (try simp only [Act.put, List.setIfInBounds_toArray, List.set_cons_zero, List.set_cons_succ])
                        refine wpLinG_pure (o := { dst := some 90, op := Go.Op.fieldAddr 42 (Go.Operand.tmp 18) 0, type := 0, pos := "work.go:249", after := #[], guard := none }) (v := ?vn03) (by rw [hops]; rfl) (by first | exact trivial | rfl) ?en03 ?hn03
                        case en03 => intro w'; go_simp; (try rfl)
                        (try simp only [Act.put, List.setIfInBounds_toArray, List.set_cons_zero, List.set_cons_succ])
                        refine wpLinG_read (o := { dst := some 91, op := Go.Op.load 3 (Go.Operand.tmp 90), type := 3, pos := "work.go:249", after := #[{ on := 5, ground := Go.Ground.data }], guard := none }) (v := ?vn04) (by rw [hops]; rfl) (by first | exact trivial | rfl) hS ?en04 ?hn04
                        case en04 => intro w' hw'; obtain ⟨e1, e2⟩ := hw'; go_simp; (try rfl)
                        (try simp only [Act.put, List.setIfInBounds_toArray, List.set_cons_zero, List.set_cons_succ])
                        refine wpLinG_do (o := { dst := some 88, op := Go.Op.call { callee := Go.Callee.value (Go.Operand.func 13), args := #[Go.Operand.tmp 87], argTypes := #[3] }, type := 9, pos := "work.go:249", after := #[{ on := 2, ground := Go.Ground.data }], guard := none }) (by rw [hops]; rfl) (by first | exact trivial | rfl) (fun K hK => ?_)
                        go_simp
                        refine (K2.out _).mono ?_
                        rintro e X3 ⟨rfl, rfl⟩
                        refine hK _ _ trivial hS ?_
                        clear hK K
                        (try simp only [Act.put, List.setIfInBounds_toArray, List.set_cons_zero, List.set_cons_succ])
                        refine wpLinG_pure (o := { dst := some 89, op := Go.Op.binOp Go.BinOp.add 9 (Go.Operand.tmp 88) (Go.Operand.const (Go.Value.string { data := #[35] })) 9, type := 9, pos := "work.go:249", after := #[{ on := 3, ground := Go.Ground.data }], guard := none }) (v := ?vn06) (by rw [hops]; rfl) (by first | exact trivial | rfl) ?en06 ?hn06
                        case en06 => intro w'; go_simp; (try rfl)
                        (try simp only [Act.put, List.setIfInBounds_toArray, List.set_cons_zero, List.set_cons_succ])
                        refine wpLinG_do (o := { dst := some 92, op := Go.Op.call { callee := Go.Callee.value (Go.Operand.func 13), args := #[Go.Operand.tmp 91], argTypes := #[3] }, type := 9, pos := "work.go:249", after := #[{ on := 6, ground := Go.Ground.data }, { on := 3, ground := Go.Ground.chain }], guard := none }) (by rw [hops]; rfl) (by first | exact trivial | rfl) (fun K hK => ?_)
                        go_simp
                        refine (K1.out _).mono ?_
                        rintro e X3 ⟨rfl, rfl⟩
                        refine hK _ _ trivial hS ?_
                        clear hK K
                        (try simp only [Act.put, List.setIfInBounds_toArray, List.set_cons_zero, List.set_cons_succ])
                        refine wpLinG_pure (o := { dst := some 93, op := Go.Op.binOp Go.BinOp.add 9 (Go.Operand.tmp 89) (Go.Operand.tmp 92) 9, type := 9, pos := "work.go:249", after := #[{ on := 4, ground := Go.Ground.data }, { on := 7, ground := Go.Ground.data }], guard := none }) (v := ?vn08) (by rw [hops]; rfl) (by first | exact trivial | rfl) ?en08 ?hn08
                        case en08 => intro w'; go_simp; (try rfl)
                        (try simp only [Act.put, List.setIfInBounds_toArray, List.set_cons_zero, List.set_cons_succ])
                        refine wpLinG_do (o := { dst := some 94, op := Go.Op.call { callee := Go.Callee.value (Go.Operand.tmp 85), args := #[Go.Operand.tmp 7, Go.Operand.tmp 93], argTypes := #[38, 9] }, type := 0, pos := "work.go:249", after := #[{ on := 0, ground := Go.Ground.data }, { on := 8, ground := Go.Ground.data }, { on := 7, ground := Go.Ground.chain }], guard := none }) (by rw [hops]; rfl) (by first | exact trivial | rfl) (fun K hK => ?_)
                        go_simp
                        have hX := radd_join (B + 1) Lk (D2 ++ ⟨#[35]⟩ ++ D1) _ hrB.v tx s4
                        with_reducible refine hX.mono ?_
                        rintro e X3 ⟨rfl, hbx, hu⟩
                        have hS2 := hS
                        have hblk := hu.block wr.heap.size (by omega)
                        replace hS : X3.cell? ⟨wr.heap.size, 0, none⟩ = some (.int .i64 n1) ∧ X3.cell? ⟨wr.heap.size, 1, none⟩ = some (.int .i64 n2) := ⟨(World.cell?_of_block hblk).trans hS2.1, (World.cell?_of_block hblk).trans hS2.2⟩
                        refine hK _ _ trivial hS ?_
                        clear hK K
                        (try simp only [Act.put, List.setIfInBounds_toArray, List.set_cons_zero, List.set_cons_succ])
                        subst hQ'
                        refine NoPanic.normal ?_
                        clear hops hS hblk hS2 y0 y1
                        rw [← HTT.out] at hbx
                        have hr2 := hrB.add2 hbx hu
                        clear hrB hbx hu
                        go_wp2
                        go_roundw
                        case rel => exact ⟨k + 1, by omega, by go_num, hr2⟩
                        case measure => simp [intOf]; omega
                      · have hkn : k = x.nth.length := by omega
                        have hki : (x.nth.length : Int) ≤ k := by omega
                        subst hkn
                        rw [← wItems_eq] at hr
                        clear hk hlt hn
                        have xc := hr.bx.cells
                        obtain ⟨x0, x1, x2, x3, x4, x5, x6, x7, x8, x9, x10⟩ := xc
                        cases hany : x.any
                        · have hD : Crn.dWord x = (Crn.joinB (Crn.dItems x)) := by rw [HDW.out, hany]; rfl
                          rw [hany] at x3
                          clear hany
                          rw [← hD] at hr
                          clear hD
                          cases hanyw : x.anyW
                          · have hV : Crn.wWord x = Crn.joinB (Crn.wItems x) := by rw [HWW.out, hanyw]; rfl
                            rw [hanyw] at x7
                            clear hanyw
                            rw [← hV] at hr
                            clear hV
                            go_upto_region 38 with fail
                            clear x0 x1 x2 x3 x4 x5 x6 x7 x8 x9 x10
                            have hrD := hr.later (Below.refl _ wr).drew
                            clear hr
                            obtain ⟨x0, x1, x2, x3, x4, x5, x6, x7, x8, x9, x10⟩ := hrD.bx.cells
                            have c1 := hrD.d.cell
                            have c2 := hrD.v.cell
                            have hS : (wr.drew.cell? ⟨w.heap.size, 0, none⟩ = some (.slice A.m x.mi.length A.cm) ∧ wr.drew.cell? ⟨w.heap.size, 1, none⟩ = some (.slice A.h x.ho.length A.ch) ∧ wr.drew.cell? ⟨w.heap.size, 2, none⟩ = some (.slice A.o x.mo.length A.co) ∧ wr.drew.cell? ⟨B, 0, none⟩ = some (.string (Crn.dWord x)) ∧ wr.drew.cell? ⟨B + 1, 0, none⟩ = some (.string (Crn.wWord x))) ∧ Below w.heap.size w wr.drew := ⟨⟨x0, x1, x2, c1, c2⟩, hrD.be⟩
                            clear x0 x1 x2 x3 x4 x5 x6 x7 x8 x9 x10 c1 c2 hrD
                            have g1 : ¬ (9223372036854775807 < (Crn.word 60 x.mi).size + 1) := by omega
                            have g2 : ¬ (9223372036854775807 < (Crn.word 60 x.mi).size + 1 + (Crn.word 24 x.ho).size) := by omega
                            have g3 : ¬ (9223372036854775807 < (Crn.word 60 x.mi).size + 1 + (Crn.word 24 x.ho).size + 1) := by omega
                            have g4 : ¬ (9223372036854775807 < (Crn.word 60 x.mi).size + 1 + (Crn.word 24 x.ho).size + 1 + (Crn.dWord x).size) := by omega
                            have g5 : ¬ (9223372036854775807 < (Crn.word 60 x.mi).size + 1 + (Crn.word 24 x.ho).size + 1 + (Crn.dWord x).size + 1) := by omega
                            have g6 : ¬ (9223372036854775807 < (Crn.word 60 x.mi).size + 1 + (Crn.word 24 x.ho).size + 1 + (Crn.dWord x).size + 1 + (Crn.word 12 x.mo).size) := by omega
                            have g7 : ¬ (9223372036854775807 < (Crn.word 60 x.mi).size + 1 + (Crn.word 24 x.ho).size + 1 + (Crn.dWord x).size + 1 + (Crn.word 12 x.mo).size + 1) := by omega
                            have g8 : ¬ (9223372036854775807 < (Crn.word 60 x.mi).size + 1 + (Crn.word 24 x.ho).size + 1 + (Crn.dWord x).size + 1 + (Crn.word 12 x.mo).size + 1 + (Crn.wWord x).size) := by omega
                            skip
                            refine wp_region_noPanic ?_
                            refine wp_region_linGM (S := fun X => (X.cell? ⟨w.heap.size, 0, none⟩ = some (.slice A.m x.mi.length A.cm) ∧ X.cell? ⟨w.heap.size, 1, none⟩ = some (.slice A.h x.ho.length A.ch) ∧ X.cell? ⟨w.heap.size, 2, none⟩ = some (.slice A.o x.mo.length A.co) ∧ X.cell? ⟨B, 0, none⟩ = some (.string (Crn.dWord x)) ∧ X.cell? ⟨B + 1, 0, none⟩ = some (.string (Crn.wWord x))) ∧ Below w.heap.size w X) (R := fun _ => True) [] (by kernel_rfl) (by kernel_rfl) [(0, none, 1), (1, none, 1), (2, none, 0), (5, none, 1), (6, none, 1), (7, none, 0), (11, none, 0), (14, none, 1), (15, none, 1), (16, none, 0), (20, none, 0), (3, none, 2), (4, none, 1), (8, none, 2), (9, none, 1), (10, none, 1), (12, none, 1), (13, none, 1), (17, none, 2), (18, none, 1), (19, none, 1), (21, none, 1), (22, none, 1), (23, none, 1)] (by kernel_rfl) (by kernel_rfl) (fun _ _ _ _ _ h => h) (by exact trivial) (by exact hS) (fun ops' Q' hops hQ' => ?_)
                            refine wpLinG_pure (o := { dst := some 100, op := Go.Op.move (Go.Operand.tmp 5), type := 37, pos := "work.go:257", after := #[], guard := none }) (v := ?vq0000) (by rw [hops]; rfl) (by first | exact trivial | rfl) ?eq0000 ?hq0000
                            case eq0000 => intro w'; go_simp; (try rfl)
                            (try simp only [Act.put, List.setIfInBounds_toArray, List.set_cons_zero, List.set_cons_succ])
                            refine wpLinG_pure (o := { dst := some 101, op := Go.Op.fieldAddr 25 (Go.Operand.tmp 1) 0, type := 0, pos := "work.go:257", after := #[], guard := none }) (v := ?vq0001) (by rw [hops]; rfl) (by first | exact trivial | rfl) ?eq0001 ?hq0001
                            case eq0001 => intro w'; go_simp; (try rfl)
                            (try simp only [Act.put, List.setIfInBounds_toArray, List.set_cons_zero, List.set_cons_succ])
                            refine wpLinG_read (o := { dst := some 102, op := Go.Op.load 22 (Go.Operand.tmp 101), type := 22, pos := "work.go:257", after := #[{ on := 1, ground := Go.Ground.data }], guard := none }) (v := ?vq0002) (by rw [hops]; rfl) (by first | exact trivial | rfl) hS ?eq0002 ?hq0002
                            case eq0002 => intro w' hw'; obtain ⟨⟨e1, e2, e3, e4, e5⟩, _⟩ := hw'; go_simp; (try rfl)
                            (try simp only [Act.put, List.setIfInBounds_toArray, List.set_cons_zero, List.set_cons_succ])
                            refine wpLinG_pure (o := { dst := some 105, op := Go.Op.move (Go.Operand.tmp 5), type := 37, pos := "work.go:257", after := #[], guard := none }) (v := ?vq0003) (by rw [hops]; rfl) (by first | exact trivial | rfl) ?eq0003 ?hq0003
                            case eq0003 => intro w'; go_simp; (try rfl)
                            (try simp only [Act.put, List.setIfInBounds_toArray, List.set_cons_zero, List.set_cons_succ])
                            refine wpLinG_pure (o := { dst := some 106, op := Go.Op.fieldAddr 25 (Go.Operand.tmp 1) 1, type := 0, pos := "work.go:257", after := #[], guard := none }) (v := ?vq0004) (by rw [hops]; rfl) (by first | exact trivial | rfl) ?eq0004 ?hq0004
                            case eq0004 => intro w'; go_simp; (try rfl)
                            (try simp only [Act.put, List.setIfInBounds_toArray, List.set_cons_zero, List.set_cons_succ])
                            refine wpLinG_read (o := { dst := some 107, op := Go.Op.load 22 (Go.Operand.tmp 106), type := 22, pos := "work.go:257", after := #[{ on := 6, ground := Go.Ground.data }], guard := none }) (v := ?vq0005) (by rw [hops]; rfl) (by first | exact trivial | rfl) hS ?eq0005 ?hq0005
                            case eq0005 => intro w' hw'; obtain ⟨⟨e1, e2, e3, e4, e5⟩, _⟩ := hw'; go_simp; (try rfl)
                            (try simp only [Act.put, List.setIfInBounds_toArray, List.set_cons_zero, List.set_cons_succ])
                            refine wpLinG_read (o := { dst := some 111, op := Go.Op.load 9 (Go.Operand.tmp 6), type := 9, pos := "work.go:257", after := #[], guard := none }) (v := ?vq0006) (by rw [hops]; rfl) (by first | exact trivial | rfl) hS ?eq0006 ?hq0006
                            case eq0006 => intro w' hw'; obtain ⟨⟨e1, e2, e3, e4, e5⟩, _⟩ := hw'; go_simp; (try rfl)
                            (try simp only [Act.put, List.setIfInBounds_toArray, List.set_cons_zero, List.set_cons_succ])
                            refine wpLinG_pure (o := { dst := some 114, op := Go.Op.move (Go.Operand.tmp 5), type := 37, pos := "work.go:257", after := #[], guard := none }) (v := ?vq0007) (by rw [hops]; rfl) (by first | exact trivial | rfl) ?eq0007 ?hq0007
                            case eq0007 => intro w'; go_simp; (try rfl)
                            (try simp only [Act.put, List.setIfInBounds_toArray, List.set_cons_zero, List.set_cons_succ])
                            refine wpLinG_pure (o := { dst := some 115, op := Go.Op.fieldAddr 25 (Go.Operand.tmp 1) 2, type := 0, pos := "work.go:257", after := #[], guard := none }) (v := ?vq0008) (by rw [hops]; rfl) (by first | exact trivial | rfl) ?eq0008 ?hq0008
                            case eq0008 => intro w'; go_simp; (try rfl)
                            (try simp only [Act.put, List.setIfInBounds_toArray, List.set_cons_zero, List.set_cons_succ])
                            refine wpLinG_read (o := { dst := some 116, op := Go.Op.load 22 (Go.Operand.tmp 115), type := 22, pos := "work.go:257", after := #[{ on := 15, ground := Go.Ground.data }], guard := none }) (v := ?vq0009) (by rw [hops]; rfl) (by first | exact trivial | rfl) hS ?eq0009 ?hq0009
                            case eq0009 => intro w' hw'; obtain ⟨⟨e1, e2, e3, e4, e5⟩, _⟩ := hw'; go_simp; (try rfl)
                            (try simp only [Act.put, List.setIfInBounds_toArray, List.set_cons_zero, List.set_cons_succ])
                            refine wpLinG_read (o := { dst := some 120, op := Go.Op.load 9 (Go.Operand.tmp 7), type := 9, pos := "work.go:257", after := #[], guard := none }) (v := ?vq00010) (by rw [hops]; rfl) (by first | exact trivial | rfl) hS ?eq00010 ?hq00010
                            case eq00010 => intro w' hw'; obtain ⟨⟨e1, e2, e3, e4, e5⟩, _⟩ := hw'; go_simp; (try rfl)
                            (try simp only [Act.put, List.setIfInBounds_toArray, List.set_cons_zero, List.set_cons_succ])
                            refine wpLinG_do (o := { dst := some 103, op := Go.Op.call { callee := Go.Callee.value (Go.Operand.tmp 100), args := #[Go.Operand.tmp 102, Go.Operand.const (Go.Value.int Go.IntKind.i64 60)], argTypes := #[22, 3] }, type := 9, pos := "work.go:257", after := #[{ on := 0, ground := Go.Ground.data }, { on := 2, ground := Go.Ground.data }], guard := none }) (by rw [hops]; rfl) (by first | exact trivial | rfl) (fun K hK => ?_)
                            go_simp
                            refine (KM.out _ hS.2).mono ?_
                            rintro e Y1 ⟨rfl, hb⟩
                            replace hS := keep5 hS hb
                            clear hb
                            refine hK _ _ trivial hS ?_
                            clear hK K
                            (try simp only [Act.put, List.setIfInBounds_toArray, List.set_cons_zero, List.set_cons_succ])
                            refine wpLinG_pure (o := { dst := some 104, op := Go.Op.binOp Go.BinOp.add 9 (Go.Operand.tmp 103) (Go.Operand.const (Go.Value.string { data := #[32] })) 9, type := 9, pos := "work.go:257", after := #[{ on := 3, ground := Go.Ground.data }], guard := none }) (v := ?vq00012) (by rw [hops]; rfl) (by first | exact trivial | rfl) ?eq00012 ?hq00012
                            case eq00012 => intro w'; go_simp; (try rfl)
                            (try simp only [Act.put, List.setIfInBounds_toArray, List.set_cons_zero, List.set_cons_succ])
                            refine wpLinG_do (o := { dst := some 108, op := Go.Op.call { callee := Go.Callee.value (Go.Operand.tmp 105), args := #[Go.Operand.tmp 107, Go.Operand.const (Go.Value.int Go.IntKind.i64 24)], argTypes := #[22, 3] }, type := 9, pos := "work.go:257", after := #[{ on := 5, ground := Go.Ground.data }, { on := 7, ground := Go.Ground.data }, { on := 3, ground := Go.Ground.chain }], guard := none }) (by rw [hops]; rfl) (by first | exact trivial | rfl) (fun K hK => ?_)
                            go_simp
                            refine (KH.out _ hS.2).mono ?_
                            rintro e Y2 ⟨rfl, hb⟩
                            replace hS := keep5 hS hb
                            clear hb
                            refine hK _ _ trivial hS ?_
                            clear hK K
                            (try simp only [Act.put, List.setIfInBounds_toArray, List.set_cons_zero, List.set_cons_succ])
                            refine wpLinG_pure (o := { dst := some 109, op := Go.Op.binOp Go.BinOp.add 9 (Go.Operand.tmp 104) (Go.Operand.tmp 108) 9, type := 9, pos := "work.go:257", after := #[{ on := 4, ground := Go.Ground.data }, { on := 8, ground := Go.Ground.data }], guard := none }) (v := ?vq00014) (by rw [hops]; rfl) (by first | exact trivial | rfl) ?eq00014 ?hq00014
                            case eq00014 => intro w'; go_simp; (try rfl)
                            (try simp only [Act.put, List.setIfInBounds_toArray, List.set_cons_zero, List.set_cons_succ])
                            refine wpLinG_pure (o := { dst := some 110, op := Go.Op.binOp Go.BinOp.add 9 (Go.Operand.tmp 109) (Go.Operand.const (Go.Value.string { data := #[32] })) 9, type := 9, pos := "work.go:257", after := #[{ on := 9, ground := Go.Ground.data }], guard := none }) (v := ?vq00015) (by rw [hops]; rfl) (by first | exact trivial | rfl) ?eq00015 ?hq00015
                            case eq00015 => intro w'; go_simp; (try rfl)
                            (try simp only [Act.put, List.setIfInBounds_toArray, List.set_cons_zero, List.set_cons_succ])
                            refine wpLinG_pure (o := { dst := some 112, op := Go.Op.binOp Go.BinOp.add 9 (Go.Operand.tmp 110) (Go.Operand.tmp 111) 9, type := 9, pos := "work.go:257", after := #[{ on := 10, ground := Go.Ground.data }, { on := 11, ground := Go.Ground.data }], guard := none }) (v := ?vq00016) (by rw [hops]; rfl) (by first | exact trivial | rfl) ?eq00016 ?hq00016
                            case eq00016 => intro w'; go_simp; (try rfl)
                            (try simp only [Act.put, List.setIfInBounds_toArray, List.set_cons_zero, List.set_cons_succ])
                            refine wpLinG_pure (o := { dst := some 113, op := Go.Op.binOp Go.BinOp.add 9 (Go.Operand.tmp 112) (Go.Operand.const (Go.Value.string { data := #[32] })) 9, type := 9, pos := "work.go:257", after := #[{ on := 12, ground := Go.Ground.data }], guard := none }) (v := ?vq00017) (by rw [hops]; rfl) (by first | exact trivial | rfl) ?eq00017 ?hq00017
                            case eq00017 => intro w'; go_simp; (try rfl)
                            (try simp only [Act.put, List.setIfInBounds_toArray, List.set_cons_zero, List.set_cons_succ])
                            refine wpLinG_do (o := { dst := some 117, op := Go.Op.call { callee := Go.Callee.value (Go.Operand.tmp 114), args := #[Go.Operand.tmp 116, Go.Operand.const (Go.Value.int Go.IntKind.i64 12)], argTypes := #[22, 3] }, type := 9, pos := "work.go:257", after := #[{ on := 14, ground := Go.Ground.data }, { on := 16, ground := Go.Ground.data }, { on := 8, ground := Go.Ground.chain }], guard := none }) (by rw [hops]; rfl) (by first | exact trivial | rfl) (fun K hK => ?_)
                            go_simp
                            refine (KO.out _ hS.2).mono ?_
                            rintro e Y3 ⟨rfl, hb⟩
                            replace hS := keep5 hS hb
                            clear hb
                            refine hK _ _ trivial hS ?_
                            clear hK K
                            (try simp only [Act.put, List.setIfInBounds_toArray, List.set_cons_zero, List.set_cons_succ])
                            refine wpLinG_pure (o := { dst := some 118, op := Go.Op.binOp Go.BinOp.add 9 (Go.Operand.tmp 113) (Go.Operand.tmp 117) 9, type := 9, pos := "work.go:257", after := #[{ on := 13, ground := Go.Ground.data }, { on := 17, ground := Go.Ground.data }], guard := none }) (v := ?vq00019) (by rw [hops]; rfl) (by first | exact trivial | rfl) ?eq00019 ?hq00019
                            case eq00019 => intro w'; go_simp; (try rfl)
                            (try simp only [Act.put, List.setIfInBounds_toArray, List.set_cons_zero, List.set_cons_succ])
                            refine wpLinG_pure (o := { dst := some 119, op := Go.Op.binOp Go.BinOp.add 9 (Go.Operand.tmp 118) (Go.Operand.const (Go.Value.string { data := #[32] })) 9, type := 9, pos := "work.go:257", after := #[{ on := 18, ground := Go.Ground.data }], guard := none }) (v := ?vq00020) (by rw [hops]; rfl) (by first | exact trivial | rfl) ?eq00020 ?hq00020
                            case eq00020 => intro w'; go_simp; (try rfl)
                            (try simp only [Act.put, List.setIfInBounds_toArray, List.set_cons_zero, List.set_cons_succ])
                            refine wpLinG_pure (o := { dst := some 121, op := Go.Op.binOp Go.BinOp.add 9 (Go.Operand.tmp 119) (Go.Operand.tmp 120) 9, type := 9, pos := "work.go:257", after := #[{ on := 19, ground := Go.Ground.data }, { on := 20, ground := Go.Ground.data }], guard := none }) (v := ?vq00021) (by rw [hops]; rfl) (by first | exact trivial | rfl) ?eq00021 ?hq00021
                            case eq00021 => intro w'; go_simp; (try rfl)
                            (try simp only [Act.put, List.setIfInBounds_toArray, List.set_cons_zero, List.set_cons_succ])
                            refine wpLinG_pure (o := { dst := some 2, op := Go.Op.assign (Go.Operand.tmp 121), type := 9, pos := "work.go:257", after := #[{ on := 21, ground := Go.Ground.data }, { on := 17, ground := Go.Ground.chain }, { on := 0, ground := Go.Ground.phase }, { on := 1, ground := Go.Ground.phase }, { on := 2, ground := Go.Ground.phase }, { on := 3, ground := Go.Ground.phase }, { on := 4, ground := Go.Ground.phase }, { on := 5, ground := Go.Ground.phase }, { on := 6, ground := Go.Ground.phase }, { on := 7, ground := Go.Ground.phase }, { on := 8, ground := Go.Ground.phase }, { on := 9, ground := Go.Ground.phase }, { on := 10, ground := Go.Ground.phase }, { on := 11, ground := Go.Ground.phase }, { on := 12, ground := Go.Ground.phase }, { on := 13, ground := Go.Ground.phase }, { on := 14, ground := Go.Ground.phase }, { on := 15, ground := Go.Ground.phase }, { on := 16, ground := Go.Ground.phase }, { on := 17, ground := Go.Ground.phase }, { on := 18, ground := Go.Ground.phase }, { on := 19, ground := Go.Ground.phase }, { on := 20, ground := Go.Ground.phase }, { on := 21, ground := Go.Ground.phase }], guard := none }) (v := ?vq00022) (by rw [hops]; rfl) (by first | exact trivial | rfl) ?eq00022 ?hq00022
                            case eq00022 => intro w'; go_simp; (try rfl)
                            (try simp only [Act.put, List.setIfInBounds_toArray, List.set_cons_zero, List.set_cons_succ])
                            refine wpLinG_pure (o := { dst := some 3, op := Go.Op.assign (Go.Operand.const (Go.Value.int Go.IntKind.i64 0)), type := 26, pos := "work.go:257", after := #[{ on := 22, ground := Go.Ground.chain }, { on := 0, ground := Go.Ground.phase }, { on := 1, ground := Go.Ground.phase }, { on := 2, ground := Go.Ground.phase }, { on := 3, ground := Go.Ground.phase }, { on := 4, ground := Go.Ground.phase }, { on := 5, ground := Go.Ground.phase }, { on := 6, ground := Go.Ground.phase }, { on := 7, ground := Go.Ground.phase }, { on := 8, ground := Go.Ground.phase }, { on := 9, ground := Go.Ground.phase }, { on := 10, ground := Go.Ground.phase }, { on := 11, ground := Go.Ground.phase }, { on := 12, ground := Go.Ground.phase }, { on := 13, ground := Go.Ground.phase }, { on := 14, ground := Go.Ground.phase }, { on := 15, ground := Go.Ground.phase }, { on := 16, ground := Go.Ground.phase }, { on := 17, ground := Go.Ground.phase }, { on := 18, ground := Go.Ground.phase }, { on := 19, ground := Go.Ground.phase }, { on := 20, ground := Go.Ground.phase }, { on := 21, ground := Go.Ground.phase }, { on := 22, ground := Go.Ground.phase }], guard := none }) (v := ?vq00023) (by rw [hops]; rfl) (by first | exact trivial | rfl) ?eq00023 ?hq00023
                            case eq00023 => intro w'; go_simp; (try rfl)
                            (try simp only [Act.put, List.setIfInBounds_toArray, List.set_cons_zero, List.set_cons_succ])
                            subst hQ'
                            refine NoPanic.normal ?_
                            clear hops
                            go_wp2
                            go_ret2
                            exact ⟨by rw [HT.out]; rfl, hS.2⟩
                          · have hV : Crn.wWord x = Crn.star := by rw [HWW.out, hanyw]; rfl
                            rw [hanyw] at x7
                            clear hanyw
                            have hf1 := hr.v.frozen
                            have hr2 := hr.add2 (hr.v.set (.string ⟨#[42]⟩)) ((Upd.refl (B + 1) wr).setCell (.string ⟨#[42]⟩))
                            have hr3 : RT w A x B (B + 1) (Crn.dWord x) (Crn.wWord x) (wr.setCell ⟨B + 1, 0, none⟩ (.string ⟨#[42]⟩)) := by rw [hV]; exact hr2
                            clear hr2 hV
                            have hcb := hr.v.cell
                            have HR3 := hide hr3
                            clear hr3 hr
                            go_upto_region 38 with fail
                            obtain ⟨W6, hW6⟩ : ∃ W6, wr.setCell ⟨B + 1, 0, none⟩ (.string ⟨#[42]⟩) = W6 := ⟨_, rfl⟩
                            rw [hW6] at HR3 ⊢
                            clear hW6 hcb hf1
                            clear x0 x1 x2 x3 x4 x5 x6 x7 x8 x9 x10
                            have hr := HR3.out
                            clear HR3
                            have hrD := hr.later (Below.refl _ W6).drew
                            clear hr
                            obtain ⟨x0, x1, x2, x3, x4, x5, x6, x7, x8, x9, x10⟩ := hrD.bx.cells
                            have c1 := hrD.d.cell
                            have c2 := hrD.v.cell
                            have hS : (W6.drew.cell? ⟨w.heap.size, 0, none⟩ = some (.slice A.m x.mi.length A.cm) ∧ W6.drew.cell? ⟨w.heap.size, 1, none⟩ = some (.slice A.h x.ho.length A.ch) ∧ W6.drew.cell? ⟨w.heap.size, 2, none⟩ = some (.slice A.o x.mo.length A.co) ∧ W6.drew.cell? ⟨B, 0, none⟩ = some (.string (Crn.dWord x)) ∧ W6.drew.cell? ⟨B + 1, 0, none⟩ = some (.string (Crn.wWord x))) ∧ Below w.heap.size w W6.drew := ⟨⟨x0, x1, x2, c1, c2⟩, hrD.be⟩
                            clear x0 x1 x2 x3 x4 x5 x6 x7 x8 x9 x10 c1 c2 hrD
                            have g1 : ¬ (9223372036854775807 < (Crn.word 60 x.mi).size + 1) := by omega
                            have g2 : ¬ (9223372036854775807 < (Crn.word 60 x.mi).size + 1 + (Crn.word 24 x.ho).size) := by omega
                            have g3 : ¬ (9223372036854775807 < (Crn.word 60 x.mi).size + 1 + (Crn.word 24 x.ho).size + 1) := by omega
                            have g4 : ¬ (9223372036854775807 < (Crn.word 60 x.mi).size + 1 + (Crn.word 24 x.ho).size + 1 + (Crn.dWord x).size) := by omega
                            have g5 : ¬ (9223372036854775807 < (Crn.word 60 x.mi).size + 1 + (Crn.word 24 x.ho).size + 1 + (Crn.dWord x).size + 1) := by omega
                            have g6 : ¬ (9223372036854775807 < (Crn.word 60 x.mi).size + 1 + (Crn.word 24 x.ho).size + 1 + (Crn.dWord x).size + 1 + (Crn.word 12 x.mo).size) := by omega
                            have g7 : ¬ (9223372036854775807 < (Crn.word 60 x.mi).size + 1 + (Crn.word 24 x.ho).size + 1 + (Crn.dWord x).size + 1 + (Crn.word 12 x.mo).size + 1) := by omega
                            have g8 : ¬ (9223372036854775807 < (Crn.word 60 x.mi).size + 1 + (Crn.word 24 x.ho).size + 1 + (Crn.dWord x).size + 1 + (Crn.word 12 x.mo).size + 1 + (Crn.wWord x).size) := by omega
                            skip
                            refine wp_region_noPanic ?_
                            refine wp_region_linGM (S := fun X => (X.cell? ⟨w.heap.size, 0, none⟩ = some (.slice A.m x.mi.length A.cm) ∧ X.cell? ⟨w.heap.size, 1, none⟩ = some (.slice A.h x.ho.length A.ch) ∧ X.cell? ⟨w.heap.size, 2, none⟩ = some (.slice A.o x.mo.length A.co) ∧ X.cell? ⟨B, 0, none⟩ = some (.string (Crn.dWord x)) ∧ X.cell? ⟨B + 1, 0, none⟩ = some (.string (Crn.wWord x))) ∧ Below w.heap.size w X) (R := fun _ => True) [] (by kernel_rfl) (by kernel_rfl) [(0, none, 1), (1, none, 1), (2, none, 0), (5, none, 1), (6, none, 1), (7, none, 0), (11, none, 0), (14, none, 1), (15, none, 1), (16, none, 0), (20, none, 0), (3, none, 2), (4, none, 1), (8, none, 2), (9, none, 1), (10, none, 1), (12, none, 1), (13, none, 1), (17, none, 2), (18, none, 1), (19, none, 1), (21, none, 1), (22, none, 1), (23, none, 1)] (by kernel_rfl) (by kernel_rfl) (fun _ _ _ _ _ h => h) (by exact trivial) (by exact hS) (fun ops' Q' hops hQ' => ?_)
                            refine wpLinG_pure (o := { dst := some 100, op := Go.Op.move (Go.Operand.tmp 5), type := 37, pos := "work.go:257", after := #[], guard := none }) (v := ?vq0010) (by rw [hops]; rfl) (by first | exact trivial | rfl) ?eq0010 ?hq0010
                            case eq0010 => intro w'; go_simp; (try rfl)
                            (try simp only [Act.put, List.setIfInBounds_toArray, List.set_cons_zero, List.set_cons_succ])
                            refine wpLinG_pure (o := { dst := some 101, op := Go.Op.fieldAddr 25 (Go.Operand.tmp 1) 0, type := 0, pos := "work.go:257", after := #[], guard := none }) (v := ?vq0011) (by rw [hops]; rfl) (by first | exact trivial | rfl) ?eq0011 ?hq0011
                            case eq0011 => intro w'; go_simp; (try rfl)
                            (try simp only [Act.put, List.setIfInBounds_toArray, List.set_cons_zero, List.set_cons_succ])
                            refine wpLinG_read (o := { dst := some 102, op := Go.Op.load 22 (Go.Operand.tmp 101), type := 22, pos := "work.go:257", after := #[{ on := 1, ground := Go.Ground.data }], guard := none }) (v := ?vq0012) (by rw [hops]; rfl) (by first | exact trivial | rfl) hS ?eq0012 ?hq0012
                            case eq0012 => intro w' hw'; obtain ⟨⟨e1, e2, e3, e4, e5⟩, _⟩ := hw'; go_simp; (try rfl)
                            (try simp only [Act.put, List.setIfInBounds_toArray, List.set_cons_zero, List.set_cons_succ])
                            refine wpLinG_pure (o := { dst := some 105, op := Go.Op.move (Go.Operand.tmp 5), type := 37, pos := "work.go:257", after := #[], guard := none }) (v := ?vq0013) (by rw [hops]; rfl) (by first | exact trivial | rfl) ?eq0013 ?hq0013
                            case eq0013 => intro w'; go_simp; (try rfl)
                            (try simp only [Act.put, List.setIfInBounds_toArray, List.set_cons_zero, List.set_cons_succ])
                            refine wpLinG_pure (o := { dst := some 106, op := Go.Op.fieldAddr 25 (Go.Operand.tmp 1) 1, type := 0, pos := "work.go:257", after := #[], guard := none }) (v := ?vq0014) (by rw [hops]; rfl) (by first | exact trivial | rfl) ?eq0014 ?hq0014
                            case eq0014 => intro w'; go_simp; (try rfl)
                            (try simp only [Act.put, List.setIfInBounds_toArray, List.set_cons_zero, List.set_cons_succ])
                            refine wpLinG_read (o := { dst := some 107, op := Go.Op.load 22 (Go.Operand.tmp 106), type := 22, pos := "work.go:257", after := #[{ on := 6, ground := Go.Ground.data }], guard := none }) (v := ?vq0015) (by rw [hops]; rfl) (by first | exact trivial | rfl) hS ?eq0015 ?hq0015
                            case eq0015 => intro w' hw'; obtain ⟨⟨e1, e2, e3, e4, e5⟩, _⟩ := hw'; go_simp; (try rfl)
                            (try simp only [Act.put, List.setIfInBounds_toArray, List.set_cons_zero, List.set_cons_succ])
                            refine wpLinG_read (o := { dst := some 111, op := Go.Op.load 9 (Go.Operand.tmp 6), type := 9, pos := "work.go:257", after := #[], guard := none }) (v := ?vq0016) (by rw [hops]; rfl) (by first | exact trivial | rfl) hS ?eq0016 ?hq0016
                            case eq0016 => intro w' hw'; obtain ⟨⟨e1, e2, e3, e4, e5⟩, _⟩ := hw'; go_simp; (try rfl)
                            (try simp only [Act.put, List.setIfInBounds_toArray, List.set_cons_zero, List.set_cons_succ])
                            refine wpLinG_pure (o := { dst := some 114, op := Go.Op.move (Go.Operand.tmp 5), type := 37, pos := "work.go:257", after := #[], guard := none }) (v := ?vq0017) (by rw [hops]; rfl) (by first | exact trivial | rfl) ?eq0017 ?hq0017
                            case eq0017 => intro w'; go_simp; (try rfl)
                            (try simp only [Act.put, List.setIfInBounds_toArray, List.set_cons_zero, List.set_cons_succ])
                            refine wpLinG_pure (o := { dst := some 115, op := Go.Op.fieldAddr 25 (Go.Operand.tmp 1) 2, type := 0, pos := "work.go:257", after := #[], guard := none }) (v := ?vq0018) (by rw [hops]; rfl) (by first | exact trivial | rfl) ?eq0018 ?hq0018
                            case eq0018 => intro w'; go_simp; (try rfl)
                            (try simp only [Act.put, List.setIfInBounds_toArray, List.set_cons_zero, List.set_cons_succ])
                            refine wpLinG_read (o := { dst := some 116, op := Go.Op.load 22 (Go.Operand.tmp 115), type := 22, pos := "work.go:257", after := #[{ on := 15, ground := Go.Ground.data }], guard := none }) (v := ?vq0019) (by rw [hops]; rfl) (by first | exact trivial | rfl) hS ?eq0019 ?hq0019
                            case eq0019 => intro w' hw'; obtain ⟨⟨e1, e2, e3, e4, e5⟩, _⟩ := hw'; go_simp; (try rfl)
                            (try simp only [Act.put, List.setIfInBounds_toArray, List.set_cons_zero, List.set_cons_succ])
                            refine wpLinG_read (o := { dst := some 120, op := Go.Op.load 9 (Go.Operand.tmp 7), type := 9, pos := "work.go:257", after := #[], guard := none }) (v := ?vq00110) (by rw [hops]; rfl) (by first | exact trivial | rfl) hS ?eq00110 ?hq00110
                            case eq00110 => intro w' hw'; obtain ⟨⟨e1, e2, e3, e4, e5⟩, _⟩ := hw'; go_simp; (try rfl)
                            (try simp only [Act.put, List.setIfInBounds_toArray, List.set_cons_zero, List.set_cons_succ])
                            refine wpLinG_do (o := { dst := some 103, op := Go.Op.call { callee := Go.Callee.value (Go.Operand.tmp 100), args := #[Go.Operand.tmp 102, Go.Operand.const (Go.Value.int Go.IntKind.i64 60)], argTypes := #[22, 3] }, type := 9, pos := "work.go:257", after := #[{ on := 0, ground := Go.Ground.data }, { on := 2, ground := Go.Ground.data }], guard := none }) (by rw [hops]; rfl) (by first | exact trivial | rfl) (fun K hK => ?_)
                            go_simp
                            refine (KM.out _ hS.2).mono ?_
                            rintro e Y1 ⟨rfl, hb⟩
                            replace hS := keep5 hS hb
                            clear hb
                            refine hK _ _ trivial hS ?_
                            clear hK K
                            (try simp only [Act.put, List.setIfInBounds_toArray, List.set_cons_zero, List.set_cons_succ])
                            refine wpLinG_pure (o := { dst := some 104, op := Go.Op.binOp Go.BinOp.add 9 (Go.Operand.tmp 103) (Go.Operand.const (Go.Value.string { data := #[32] })) 9, type := 9, pos := "work.go:257", after := #[{ on := 3, ground := Go.Ground.data }], guard := none }) (v := ?vq00112) (by rw [hops]; rfl) (by first | exact trivial | rfl) ?eq00112 ?hq00112
                            case eq00112 => intro w'; go_simp; (try rfl)
                            (try simp only [Act.put, List.setIfInBounds_toArray, List.set_cons_zero, List.set_cons_succ])
                            refine wpLinG_do (o := { dst := some 108, op := Go.Op.call { callee := Go.Callee.value (Go.Operand.tmp 105), args := #[Go.Operand.tmp 107, Go.Operand.const (Go.Value.int Go.IntKind.i64 24)], argTypes := #[22, 3] }, type := 9, pos := "work.go:257", after := #[{ on := 5, ground := Go.Ground.data }, { on := 7, ground := Go.Ground.data }, { on := 3, ground := Go.Ground.chain }], guard := none }) (by rw [hops]; rfl) (by first | exact trivial | rfl) (fun K hK => ?_)
                            go_simp
                            refine (KH.out _ hS.2).mono ?_
                            rintro e Y2 ⟨rfl, hb⟩
                            replace hS := keep5 hS hb
                            clear hb
                            refine hK _ _ trivial hS ?_
                            clear hK K
                            (try simp only [Act.put, List.setIfInBounds_toArray, List.set_cons_zero, List.set_cons_succ])
                            refine wpLinG_pure (o := { dst := some 109, op := Go.Op.binOp Go.BinOp.add 9 (Go.Operand.tmp 104) (Go.Operand.tmp 108) 9, type := 9, pos := "work.go:257", after := #[{ on := 4, ground := Go.Ground.data }, { on := 8, ground := Go.Ground.data }], guard := none }) (v := ?vq00114) (by rw [hops]; rfl) (by first | exact trivial | rfl) ?eq00114 ?hq00114
                            case eq00114 => intro w'; go_simp; (try rfl)
                            (try simp only [Act.put, List.setIfInBounds_toArray, List.set_cons_zero, List.set_cons_succ])
                            refine wpLinG_pure (o := { dst := some 110, op := Go.Op.binOp Go.BinOp.add 9 (Go.Operand.tmp 109) (Go.Operand.const (Go.Value.string { data := #[32] })) 9, type := 9, pos := "work.go:257", after := #[{ on := 9, ground := Go.Ground.data }], guard := none }) (v := ?vq00115) (by rw [hops]; rfl) (by first | exact trivial | rfl) ?eq00115 ?hq00115
                            case eq00115 => intro w'; go_simp; (try rfl)
                            (try simp only [Act.put, List.setIfInBounds_toArray, List.set_cons_zero, List.set_cons_succ])
                            refine wpLinG_pure (o := { dst := some 112, op := Go.Op.binOp Go.BinOp.add 9 (Go.Operand.tmp 110) (Go.Operand.tmp 111) 9, type := 9, pos := "work.go:257", after := #[{ on := 10, ground := Go.Ground.data }, { on := 11, ground := Go.Ground.data }], guard := none }) (v := ?vq00116) (by rw [hops]; rfl) (by first | exact trivial | rfl) ?eq00116 ?hq00116
                            case eq00116 => intro w'; go_simp; (try rfl)
                            (try simp only [Act.put, List.setIfInBounds_toArray, List.set_cons_zero, List.set_cons_succ])
                            refine wpLinG_pure (o := { dst := some 113, op := Go.Op.binOp Go.BinOp.add 9 (Go.Operand.tmp 112) (Go.Operand.const (Go.Value.string { data := #[32] })) 9, type := 9, pos := "work.go:257", after := #[{ on := 12, ground := Go.Ground.data }], guard := none }) (v := ?vq00117) (by rw [hops]; rfl) (by first | exact trivial | rfl) ?eq00117 ?hq00117
                            case eq00117 => intro w'; go_simp; (try rfl)
                            (try simp only [Act.put, List.setIfInBounds_toArray, List.set_cons_zero, List.set_cons_succ])
                            refine wpLinG_do (o := { dst := some 117, op := Go.Op.call { callee := Go.Callee.value (Go.Operand.tmp 114), args := #[Go.Operand.tmp 116, Go.Operand.const (Go.Value.int Go.IntKind.i64 12)], argTypes := #[22, 3] }, type := 9, pos := "work.go:257", after := #[{ on := 14, ground := Go.Ground.data }, { on := 16, ground := Go.Ground.data }, { on := 8, ground := Go.Ground.chain }], guard := none }) (by rw [hops]; rfl) (by first | exact trivial | rfl) (fun K hK => ?_)
                            go_simp
                            refine (KO.out _ hS.2).mono ?_
                            rintro e Y3 ⟨rfl, hb⟩
                            replace hS := keep5 hS hb
                            clear hb
                            refine hK _ _ trivial hS ?_
                            clear hK K
                            (try simp only [Act.put, List.setIfInBounds_toArray, List.set_cons_zero, List.set_cons_succ])
                            refine wpLinG_pure (o := { dst := some 118, op := Go.Op.binOp Go.BinOp.add 9 (Go.Operand.tmp 113) (Go.Operand.tmp 117) 9, type := 9, pos := "work.go:257", after := #[{ on := 13, ground := Go.Ground.data }, { on := 17, ground := Go.Ground.data }], guard := none }) (v := ?vq00119) (by rw [hops]; rfl) (by first | exact trivial | rfl) ?eq00119 ?hq00119
                            case eq00119 => intro w'; go_simp; (try rfl)
                            (try simp only [Act.put, List.setIfInBounds_toArray, List.set_cons_zero, List.set_cons_succ])
                            refine wpLinG_pure (o := { dst := some 119, op := Go.Op.binOp Go.BinOp.add 9 (Go.Operand.tmp 118) (Go.Operand.const (Go.Value.string { data := #[32] })) 9, type := 9, pos := "work.go:257", after := #[{ on := 18, ground := Go.Ground.data }], guard := none }) (v := ?vq00120) (by rw [hops]; rfl) (by first | exact trivial | rfl) ?eq00120 ?hq00120
                            case eq00120 => intro w'; go_simp; (try rfl)
                            (try simp only [Act.put, List.setIfInBounds_toArray, List.set_cons_zero, List.set_cons_succ])
                            refine wpLinG_pure (o := { dst := some 121, op := Go.Op.binOp Go.BinOp.add 9 (Go.Operand.tmp 119) (Go.Operand.tmp 120) 9, type := 9, pos := "work.go:257", after := #[{ on := 19, ground := Go.Ground.data }, { on := 20, ground := Go.Ground.data }], guard := none }) (v := ?vq00121) (by rw [hops]; rfl) (by first | exact trivial | rfl) ?eq00121 ?hq00121
                            case eq00121 => intro w'; go_simp; (try rfl)
                            (try simp only [Act.put, List.setIfInBounds_toArray, List.set_cons_zero, List.set_cons_succ])
                            refine wpLinG_pure (o := { dst := some 2, op := Go.Op.assign (Go.Operand.tmp 121), type := 9, pos := "work.go:257", after := #[{ on := 21, ground := Go.Ground.data }, { on := 17, ground := Go.Ground.chain }, { on := 0, ground := Go.Ground.phase }, { on := 1, ground := Go.Ground.phase }, { on := 2, ground := Go.Ground.phase }, { on := 3, ground := Go.Ground.phase }, { on := 4, ground := Go.Ground.phase }, { on := 5, ground := Go.Ground.phase }, { on := 6, ground := Go.Ground.phase }, { on := 7, ground := Go.Ground.phase }, { on := 8, ground := Go.Ground.phase }, { on := 9, ground := Go.Ground.phase }, { on := 10, ground := Go.Ground.phase }, { on := 11, ground := Go.Ground.phase }, { on := 12, ground := Go.Ground.phase }, { on := 13, ground := Go.Ground.phase }, { on := 14, ground := Go.Ground.phase }, { on := 15, ground := Go.Ground.phase }, { on := 16, ground := Go.Ground.phase }, { on := 17, ground := Go.Ground.phase }, { on := 18, ground := Go.Ground.phase }, { on := 19, ground := Go.Ground.phase }, { on := 20, ground := Go.Ground.phase }, { on := 21, ground := Go.Ground.phase }], guard := none }) (v := ?vq00122) (by rw [hops]; rfl) (by first | exact trivial | rfl) ?eq00122 ?hq00122
                            case eq00122 => intro w'; go_simp; (try rfl)
                            (try simp only [Act.put, List.setIfInBounds_toArray, List.set_cons_zero, List.set_cons_succ])
                            refine wpLinG_pure (o := { dst := some 3, op := Go.Op.assign (Go.Operand.const (Go.Value.int Go.IntKind.i64 0)), type := 26, pos := "work.go:257", after := #[{ on := 22, ground := Go.Ground.chain }, { on := 0, ground := Go.Ground.phase }, { on := 1, ground := Go.Ground.phase }, { on := 2, ground := Go.Ground.phase }, { on := 3, ground := Go.Ground.phase }, { on := 4, ground := Go.Ground.phase }, { on := 5, ground := Go.Ground.phase }, { on := 6, ground := Go.Ground.phase }, { on := 7, ground := Go.Ground.phase }, { on := 8, ground := Go.Ground.phase }, { on := 9, ground := Go.Ground.phase }, { on := 10, ground := Go.Ground.phase }, { on := 11, ground := Go.Ground.phase }, { on := 12, ground := Go.Ground.phase }, { on := 13, ground := Go.Ground.phase }, { on := 14, ground := Go.Ground.phase }, { on := 15, ground := Go.Ground.phase }, { on := 16, ground := Go.Ground.phase }, { on := 17, ground := Go.Ground.phase }, { on := 18, ground := Go.Ground.phase }, { on := 19, ground := Go.Ground.phase }, { on := 20, ground := Go.Ground.phase }, { on := 21, ground := Go.Ground.phase }, { on := 22, ground := Go.Ground.phase }], guard := none }) (v := ?vq00123) (by rw [hops]; rfl) (by first | exact trivial | rfl) ?eq00123 ?hq00123
                            case eq00123 => intro w'; go_simp; (try rfl)
                            (try simp only [Act.put, List.setIfInBounds_toArray, List.set_cons_zero, List.set_cons_succ])
                            subst hQ'
                            refine NoPanic.normal ?_
                            clear hops
                            go_wp2
                            go_ret2
                            exact ⟨by rw [HT.out]; rfl, hS.2⟩
                        · have hD : Crn.dWord x = Crn.star := by rw [HDW.out, hany]; rfl
                          rw [hany] at x3
                          clear hany
                          have hf1 := hr.d.frozen
                          have hr2 := hr.add1 (hr.d.set (.string ⟨#[42]⟩)) ((Upd.refl B wr).setCell (.string ⟨#[42]⟩))
                          have hr3 : RT w A x B (B + 1) (Crn.dWord x) (Crn.joinB (Crn.wItems x)) (wr.setCell ⟨B, 0, none⟩ (.string ⟨#[42]⟩)) := by rw [hD]; exact hr2
                          clear hr2 hD
                          have hcb := hr.d.cell
                          have HR3 := hide hr3
                          clear hr3 hr
                          go_upto_region 36 with fail
                          obtain ⟨W5, hW5⟩ : ∃ W5, wr.setCell ⟨B, 0, none⟩ (.string ⟨#[42]⟩) = W5 := ⟨_, rfl⟩
                          rw [hW5] at HR3 ⊢
                          clear hW5 hcb hf1
                          clear x0 x1 x2 x3 x4 x5 x6 x7 x8 x9 x10
                          have hr := HR3.out
                          clear HR3
                          have xc := hr.bx.cells
                          obtain ⟨x0, x1, x2, x3, x4, x5, x6, x7, x8, x9, x10⟩ := xc
                          cases hanyw : x.anyW
                          · have hV : Crn.wWord x = Crn.joinB (Crn.wItems x) := by rw [HWW.out, hanyw]; rfl
                            rw [hanyw] at x7
                            clear hanyw
                            rw [← hV] at hr
                            clear hV
                            go_upto_region 38 with fail
                            clear x0 x1 x2 x3 x4 x5 x6 x7 x8 x9 x10
                            have hrD := hr.later (Below.refl _ W5).drew
                            clear hr
                            obtain ⟨x0, x1, x2, x3, x4, x5, x6, x7, x8, x9, x10⟩ := hrD.bx.cells
                            have c1 := hrD.d.cell
                            have c2 := hrD.v.cell
                            have hS : (W5.drew.cell? ⟨w.heap.size, 0, none⟩ = some (.slice A.m x.mi.length A.cm) ∧ W5.drew.cell? ⟨w.heap.size, 1, none⟩ = some (.slice A.h x.ho.length A.ch) ∧ W5.drew.cell? ⟨w.heap.size, 2, none⟩ = some (.slice A.o x.mo.length A.co) ∧ W5.drew.cell? ⟨B, 0, none⟩ = some (.string (Crn.dWord x)) ∧ W5.drew.cell? ⟨B + 1, 0, none⟩ = some (.string (Crn.wWord x))) ∧ Below w.heap.size w W5.drew := ⟨⟨x0, x1, x2, c1, c2⟩, hrD.be⟩
                            clear x0 x1 x2 x3 x4 x5 x6 x7 x8 x9 x10 c1 c2 hrD
                            have g1 : ¬ (9223372036854775807 < (Crn.word 60 x.mi).size + 1) := by omega
                            have g2 : ¬ (9223372036854775807 < (Crn.word 60 x.mi).size + 1 + (Crn.word 24 x.ho).size) := by omega
                            have g3 : ¬ (9223372036854775807 < (Crn.word 60 x.mi).size + 1 + (Crn.word 24 x.ho).size + 1) := by omega
                            have g4 : ¬ (9223372036854775807 < (Crn.word 60 x.mi).size + 1 + (Crn.word 24 x.ho).size + 1 + (Crn.dWord x).size) := by omega
                            have g5 : ¬ (9223372036854775807 < (Crn.word 60 x.mi).size + 1 + (Crn.word 24 x.ho).size + 1 + (Crn.dWord x).size + 1) := by omega
                            have g6 : ¬ (9223372036854775807 < (Crn.word 60 x.mi).size + 1 + (Crn.word 24 x.ho).size + 1 + (Crn.dWord x).size + 1 + (Crn.word 12 x.mo).size) := by omega
                            have g7 : ¬ (9223372036854775807 < (Crn.word 60 x.mi).size + 1 + (Crn.word 24 x.ho).size + 1 + (Crn.dWord x).size + 1 + (Crn.word 12 x.mo).size + 1) := by omega
                            have g8 : ¬ (9223372036854775807 < (Crn.word 60 x.mi).size + 1 + (Crn.word 24 x.ho).size + 1 + (Crn.dWord x).size + 1 + (Crn.word 12 x.mo).size + 1 + (Crn.wWord x).size) := by omega
                            skip
                            refine wp_region_noPanic ?_
                            refine wp_region_linGM (S := fun X => (X.cell? ⟨w.heap.size, 0, none⟩ = some (.slice A.m x.mi.length A.cm) ∧ X.cell? ⟨w.heap.size, 1, none⟩ = some (.slice A.h x.ho.length A.ch) ∧ X.cell? ⟨w.heap.size, 2, none⟩ = some (.slice A.o x.mo.length A.co) ∧ X.cell? ⟨B, 0, none⟩ = some (.string (Crn.dWord x)) ∧ X.cell? ⟨B + 1, 0, none⟩ = some (.string (Crn.wWord x))) ∧ Below w.heap.size w X) (R := fun _ => True) [] (by kernel_rfl) (by kernel_rfl) [(0, none, 1), (1, none, 1), (2, none, 0), (5, none, 1), (6, none, 1), (7, none, 0), (11, none, 0), (14, none, 1), (15, none, 1), (16, none, 0), (20, none, 0), (3, none, 2), (4, none, 1), (8, none, 2), (9, none, 1), (10, none, 1), (12, none, 1), (13, none, 1), (17, none, 2), (18, none, 1), (19, none, 1), (21, none, 1), (22, none, 1), (23, none, 1)] (by kernel_rfl) (by kernel_rfl) (fun _ _ _ _ _ h => h) (by exact trivial) (by exact hS) (fun ops' Q' hops hQ' => ?_)
                            refine wpLinG_pure (o := { dst := some 100, op := Go.Op.move (Go.Operand.tmp 5), type := 37, pos := "work.go:257", after := #[], guard := none }) (v := ?vq0100) (by rw [hops]; rfl) (by first | exact trivial | rfl) ?eq0100 ?hq0100
                            case eq0100 => intro w'; go_simp; (try rfl)
                            (try simp only [Act.put, List.setIfInBounds_toArray, List.set_cons_zero, List.set_cons_succ])
                            refine wpLinG_pure (o := { dst := some 101, op := Go.Op.fieldAddr 25 (Go.Operand.tmp 1) 0, type := 0, pos := "work.go:257", after := #[], guard := none }) (v := ?vq0101) (by rw [hops]; rfl) (by first | exact trivial | rfl) ?eq0101 ?hq0101
                            case eq0101 => intro w'; go_simp; (try rfl)
                            (try simp only [Act.put, List.setIfInBounds_toArray, List.set_cons_zero, List.set_cons_succ])
                            refine wpLinG_read (o := { dst := some 102, op := Go.Op.load 22 (Go.Operand.tmp 101), type := 22, pos := "work.go:257", after := #[{ on := 1, ground := Go.Ground.data }], guard := none }) (v := ?vq0102) (by rw [hops]; rfl) (by first | exact trivial | rfl) hS ?eq0102 ?hq0102
                            case eq0102 => intro w' hw'; obtain ⟨⟨e1, e2, e3, e4, e5⟩, _⟩ := hw'; go_simp; (try rfl)
                            (try simp only [Act.put, List.setIfInBounds_toArray, List.set_cons_zero, List.set_cons_succ])
                            refine wpLinG_pure (o := { dst := some 105, op := Go.Op.move (Go.Operand.tmp 5), type := 37, pos := "work.go:257", after := #[], guard := none }) (v := ?vq0103) (by rw [hops]; rfl) (by first | exact trivial | rfl) ?eq0103 ?hq0103
                            case eq0103 => intro w'; go_simp; (try rfl)
                            (try simp only [Act.put, List.setIfInBounds_toArray, List.set_cons_zero, List.set_cons_succ])
                            refine wpLinG_pure (o := { dst := some 106, op := Go.Op.fieldAddr 25 (Go.Operand.tmp 1) 1, type := 0, pos := "work.go:257", after := #[], guard := none }) (v := ?vq0104) (by rw [hops]; rfl) (by first | exact trivial | rfl) ?eq0104 ?hq0104
                            case eq0104 => intro w'; go_simp; (try rfl)
                            (try simp only [Act.put, List.setIfInBounds_toArray, List.set_cons_zero, List.set_cons_succ])
                            refine wpLinG_read (o := { dst := some 107, op := Go.Op.load 22 (Go.Operand.tmp 106), type := 22, pos := "work.go:257", after := #[{ on := 6, ground := Go.Ground.data }], guard := none }) (v := ?vq0105) (by rw [hops]; rfl) (by first | exact trivial | rfl) hS ?eq0105 ?hq0105
                            case eq0105 => intro w' hw'; obtain ⟨⟨e1, e2, e3, e4, e5⟩, _⟩ := hw'; go_simp; (try rfl)
                            (try simp only [Act.put, List.setIfInBounds_toArray, List.set_cons_zero, List.set_cons_succ])
                            refine wpLinG_read (o := { dst := some 111, op := Go.Op.load 9 (Go.Operand.tmp 6), type := 9, pos := "work.go:257", after := #[], guard := none }) (v := ?vq0106) (by rw [hops]; rfl) (by first | exact trivial | rfl) hS ?eq0106 ?hq0106
                            case eq0106 => intro w' hw'; obtain ⟨⟨e1, e2, e3, e4, e5⟩, _⟩ := hw'; go_simp; (try rfl)
                            (try simp only [Act.put, List.setIfInBounds_toArray, List.set_cons_zero, List.set_cons_succ])
                            refine wpLinG_pure (o := { dst := some 114, op := Go.Op.move (Go.Operand.tmp 5), type := 37, pos := "work.go:257", after := #[], guard := none }) (v := ?vq0107) (by rw [hops]; rfl) (by first | exact trivial | rfl) ?eq0107 ?hq0107
                            case eq0107 => intro w'; go_simp; (try rfl)
                            (try simp only [Act.put, List.setIfInBounds_toArray, List.set_cons_zero, List.set_cons_succ])
                            refine wpLinG_pure (o := { dst := some 115, op := Go.Op.fieldAddr 25 (Go.Operand.tmp 1) 2, type := 0, pos := "work.go:257", after := #[], guard := none }) (v := ?vq0108) (by rw [hops]; rfl) (by first | exact trivial | rfl) ?eq0108 ?hq0108
                            case eq0108 => intro w'; go_simp; (try rfl)
                            (try simp only [Act.put, List.setIfInBounds_toArray, List.set_cons_zero, List.set_cons_succ])
                            refine wpLinG_read (o := { dst := some 116, op := Go.Op.load 22 (Go.Operand.tmp 115), type := 22, pos := "work.go:257", after := #[{ on := 15, ground := Go.Ground.data }], guard := none }) (v := ?vq0109) (by rw [hops]; rfl) (by first | exact trivial | rfl) hS ?eq0109 ?hq0109
                            case eq0109 => intro w' hw'; obtain ⟨⟨e1, e2, e3, e4, e5⟩, _⟩ := hw'; go_simp; (try rfl)
                            (try simp only [Act.put, List.setIfInBounds_toArray, List.set_cons_zero, List.set_cons_succ])
                            refine wpLinG_read (o := { dst := some 120, op := Go.Op.load 9 (Go.Operand.tmp 7), type := 9, pos := "work.go:257", after := #[], guard := none }) (v := ?vq01010) (by rw [hops]; rfl) (by first | exact trivial | rfl) hS ?eq01010 ?hq01010
                            case eq01010 => intro w' hw'; obtain ⟨⟨e1, e2, e3, e4, e5⟩, _⟩ := hw'; go_simp; (try rfl)
                            (try simp only [Act.put, List.setIfInBounds_toArray, List.set_cons_zero, List.set_cons_succ])
                            refine wpLinG_do (o := { dst := some 103, op := Go.Op.call { callee := Go.Callee.value (Go.Operand.tmp 100), args := #[Go.Operand.tmp 102, Go.Operand.const (Go.Value.int Go.IntKind.i64 60)], argTypes := #[22, 3] }, type := 9, pos := "work.go:257", after := #[{ on := 0, ground := Go.Ground.data }, { on := 2, ground := Go.Ground.data }], guard := none }) (by rw [hops]; rfl) (by first | exact trivial | rfl) (fun K hK => ?_)
                            go_simp
                            refine (KM.out _ hS.2).mono ?_
                            rintro e Y1 ⟨rfl, hb⟩
                            replace hS := keep5 hS hb
                            clear hb
                            refine hK _ _ trivial hS ?_
                            clear hK K
                            (try simp only [Act.put, List.setIfInBounds_toArray, List.set_cons_zero, List.set_cons_succ])
                            refine wpLinG_pure (o := { dst := some 104, op := Go.Op.binOp Go.BinOp.add 9 (Go.Operand.tmp 103) (Go.Operand.const (Go.Value.string { data := #[32] })) 9, type := 9, pos := "work.go:257", after := #[{ on := 3, ground := Go.Ground.data }], guard := none }) (v := ?vq01012) (by rw [hops]; rfl) (by first | exact trivial | rfl) ?eq01012 ?hq01012
                            case eq01012 => intro w'; go_simp; (try rfl)
                            (try simp only [Act.put, List.setIfInBounds_toArray, List.set_cons_zero, List.set_cons_succ])
                            refine wpLinG_do (o := { dst := some 108, op := Go.Op.call { callee := Go.Callee.value (Go.Operand.tmp 105), args := #[Go.Operand.tmp 107, Go.Operand.const (Go.Value.int Go.IntKind.i64 24)], argTypes := #[22, 3] }, type := 9, pos := "work.go:257", after := #[{ on := 5, ground := Go.Ground.data }, { on := 7, ground := Go.Ground.data }, { on := 3, ground := Go.Ground.chain }], guard := none }) (by rw [hops]; rfl) (by first | exact trivial | rfl) (fun K hK => ?_)
                            go_simp
                            refine (KH.out _ hS.2).mono ?_
                            rintro e Y2 ⟨rfl, hb⟩
                            replace hS := keep5 hS hb
                            clear hb
                            refine hK _ _ trivial hS ?_
                            clear hK K
                            (try simp only [Act.put, List.setIfInBounds_toArray, List.set_cons_zero, List.set_cons_succ])
                            refine wpLinG_pure (o := { dst := some 109, op := Go.Op.binOp Go.BinOp.add 9 (Go.Operand.tmp 104) (Go.Operand.tmp 108) 9, type := 9, pos := "work.go:257", after := #[{ on := 4, ground := Go.Ground.data }, { on := 8, ground := Go.Ground.data }], guard := none }) (v := ?vq01014) (by rw [hops]; rfl) (by first | exact trivial | rfl) ?eq01014 ?hq01014
                            case eq01014 => intro w'; go_simp; (try rfl)
                            (try simp only [Act.put, List.setIfInBounds_toArray, List.set_cons_zero, List.set_cons_succ])
                            refine wpLinG_pure (o := { dst := some 110, op := Go.Op.binOp Go.BinOp.add 9 (Go.Operand.tmp 109) (Go.Operand.const (Go.Value.string { data := #[32] })) 9, type := 9, pos := "work.go:257", after := #[{ on := 9, ground := Go.Ground.data }], guard := none }) (v := ?vq01015) (by rw [hops]; rfl) (by first | exact trivial | rfl) ?eq01015 ?hq01015
                            case eq01015 => intro w'; go_simp; (try rfl)
                            (try simp only [Act.put, List.setIfInBounds_toArray, List.set_cons_zero, List.set_cons_succ])
                            refine wpLinG_pure (o := { dst := some 112, op := Go.Op.binOp Go.BinOp.add 9 (Go.Operand.tmp 110) (Go.Operand.tmp 111) 9, type := 9, pos := "work.go:257", after := #[{ on := 10, ground := Go.Ground.data }, { on := 11, ground := Go.Ground.data }], guard := none }) (v := ?vq01016) (by rw [hops]; rfl) (by first | exact trivial | rfl) ?eq01016 ?hq01016
                            case eq01016 => intro w'; go_simp; (try rfl)
                            (try simp only [Act.put, List.setIfInBounds_toArray, List.set_cons_zero, List.set_cons_succ])
                            refine wpLinG_pure (o := { dst := some 113, op := Go.Op.binOp Go.BinOp.add 9 (Go.Operand.tmp 112) (Go.Operand.const (Go.Value.string { data := #[32] })) 9, type := 9, pos := "work.go:257", after := #[{ on := 12, ground := Go.Ground.data }], guard := none }) (v := ?vq01017) (by rw [hops]; rfl) (by first | exact trivial | rfl) ?eq01017 ?hq01017
                            case eq01017 => intro w'; go_simp; (try rfl)
                            (try simp only [Act.put, List.setIfInBounds_toArray, List.set_cons_zero, List.set_cons_succ])
                            refine wpLinG_do (o := { dst := some 117, op := Go.Op.call { callee := Go.Callee.value (Go.Operand.tmp 114), args := #[Go.Operand.tmp 116, Go.Operand.const (Go.Value.int Go.IntKind.i64 12)], argTypes := #[22, 3] }, type := 9, pos := "work.go:257", after := #[{ on := 14, ground := Go.Ground.data }, { on := 16, ground := Go.Ground.data }, { on := 8, ground := Go.Ground.chain }], guard := none }) (by rw [hops]; rfl) (by first | exact trivial | rfl) (fun K hK => ?_)
                            go_simp
                            refine (KO.out _ hS.2).mono ?_
                            rintro e Y3 ⟨rfl, hb⟩
                            replace hS := keep5 hS hb
                            clear hb
                            refine hK _ _ trivial hS ?_
                            clear hK K
                            (try simp only [Act.put, List.setIfInBounds_toArray, List.set_cons_zero, List.set_cons_succ])
                            refine wpLinG_pure (o := { dst := some 118, op := Go.Op.binOp Go.BinOp.add 9 (Go.Operand.tmp 113) (Go.Operand.tmp 117) 9, type := 9, pos := "work.go:257", after := #[{ on := 13, ground := Go.Ground.data }, { on := 17, ground := Go.Ground.data }], guard := none }) (v := ?vq01019) (by rw [hops]; rfl) (by first | exact trivial | rfl) ?eq01019 ?hq01019
                            case eq01019 => intro w'; go_simp; (try rfl)
                            (try simp only [Act.put, List.setIfInBounds_toArray, List.set_cons_zero, List.set_cons_succ])
                            refine wpLinG_pure (o := { dst := some 119, op := Go.Op.binOp Go.BinOp.add 9 (Go.Operand.tmp 118) (Go.Operand.const (Go.Value.string { data := #[32] })) 9, type := 9, pos := "work.go:257", after := #[{ on := 18, ground := Go.Ground.data }], guard := none }) (v := ?vq01020) (by rw [hops]; rfl) (by first | exact trivial | rfl) ?eq01020 ?hq01020
                            case eq01020 => intro w'; go_simp; (try rfl)
                            (try simp only [Act.put, List.setIfInBounds_toArray, List.set_cons_zero, List.set_cons_succ])
                            refine wpLinG_pure (o := { dst := some 121, op := Go.Op.binOp Go.BinOp.add 9 (Go.Operand.tmp 119) (Go.Operand.tmp 120) 9, type := 9, pos := "work.go:257", after := #[{ on := 19, ground := Go.Ground.data }, { on := 20, ground := Go.Ground.data }], guard := none }) (v := ?vq01021) (by rw [hops]; rfl) (by first | exact trivial | rfl) ?eq01021 ?hq01021
                            case eq01021 => intro w'; go_simp; (try rfl)
                            (try simp only [Act.put, List.setIfInBounds_toArray, List.set_cons_zero, List.set_cons_succ])
                            refine wpLinG_pure (o := { dst := some 2, op := Go.Op.assign (Go.Operand.tmp 121), type := 9, pos := "work.go:257", after := #[{ on := 21, ground := Go.Ground.data }, { on := 17, ground := Go.Ground.chain }, { on := 0, ground := Go.Ground.phase }, { on := 1, ground := Go.Ground.phase }, { on := 2, ground := Go.Ground.phase }, { on := 3, ground := Go.Ground.phase }, { on := 4, ground := Go.Ground.phase }, { on := 5, ground := Go.Ground.phase }, { on := 6, ground := Go.Ground.phase }, { on := 7, ground := Go.Ground.phase }, { on := 8, ground := Go.Ground.phase }, { on := 9, ground := Go.Ground.phase }, { on := 10, ground := Go.Ground.phase }, { on := 11, ground := Go.Ground.phase }, { on := 12, ground := Go.Ground.phase }, { on := 13, ground := Go.Ground.phase }, { on := 14, ground := Go.Ground.phase }, { on := 15, ground := Go.Ground.phase }, { on := 16, ground := Go.Ground.phase }, { on := 17, ground := Go.Ground.phase }, { on := 18, ground := Go.Ground.phase }, { on := 19, ground := Go.Ground.phase }, { on := 20, ground := Go.Ground.phase }, { on := 21, ground := Go.Ground.phase }], guard := none }) (v := ?vq01022) (by rw [hops]; rfl) (by first | exact trivial | rfl) ?eq01022 ?hq01022
                            case eq01022 => intro w'; go_simp; (try rfl)
                            (try simp only [Act.put, List.setIfInBounds_toArray, List.set_cons_zero, List.set_cons_succ])
                            refine wpLinG_pure (o := { dst := some 3, op := Go.Op.assign (Go.Operand.const (Go.Value.int Go.IntKind.i64 0)), type := 26, pos := "work.go:257", after := #[{ on := 22, ground := Go.Ground.chain }, { on := 0, ground := Go.Ground.phase }, { on := 1, ground := Go.Ground.phase }, { on := 2, ground := Go.Ground.phase }, { on := 3, ground := Go.Ground.phase }, { on := 4, ground := Go.Ground.phase }, { on := 5, ground := Go.Ground.phase }, { on := 6, ground := Go.Ground.phase }, { on := 7, ground := Go.Ground.phase }, { on := 8, ground := Go.Ground.phase }, { on := 9, ground := Go.Ground.phase }, { on := 10, ground := Go.Ground.phase }, { on := 11, ground := Go.Ground.phase }, { on := 12, ground := Go.Ground.phase }, { on := 13, ground := Go.Ground.phase }, { on := 14, ground := Go.Ground.phase }, { on := 15, ground := Go.Ground.phase }, { on := 16, ground := Go.Ground.phase }, { on := 17, ground := Go.Ground.phase }, { on := 18, ground := Go.Ground.phase }, { on := 19, ground := Go.Ground.phase }, { on := 20, ground := Go.Ground.phase }, { on := 21, ground := Go.Ground.phase }, { on := 22, ground := Go.Ground.phase }], guard := none }) (v := ?vq01023) (by rw [hops]; rfl) (by first | exact trivial | rfl) ?eq01023 ?hq01023
                            case eq01023 => intro w'; go_simp; (try rfl)
                            (try simp only [Act.put, List.setIfInBounds_toArray, List.set_cons_zero, List.set_cons_succ])
                            subst hQ'
                            refine NoPanic.normal ?_
                            clear hops
                            go_wp2
                            go_ret2
                            exact ⟨by rw [HT.out]; rfl, hS.2⟩
                          · have hV : Crn.wWord x = Crn.star := by rw [HWW.out, hanyw]; rfl
                            rw [hanyw] at x7
                            clear hanyw
                            have hf1 := hr.v.frozen
                            have hr2 := hr.add2 (hr.v.set (.string ⟨#[42]⟩)) ((Upd.refl (B + 1) W5).setCell (.string ⟨#[42]⟩))
                            have hr3 : RT w A x B (B + 1) (Crn.dWord x) (Crn.wWord x) (W5.setCell ⟨B + 1, 0, none⟩ (.string ⟨#[42]⟩)) := by rw [hV]; exact hr2
                            clear hr2 hV
                            have hcb := hr.v.cell
                            have HR3 := hide hr3
                            clear hr3 hr
                            go_upto_region 38 with fail
                            obtain ⟨W6, hW6⟩ : ∃ W6, W5.setCell ⟨B + 1, 0, none⟩ (.string ⟨#[42]⟩) = W6 := ⟨_, rfl⟩
                            rw [hW6] at HR3 ⊢
                            clear hW6 hcb hf1
                            clear x0 x1 x2 x3 x4 x5 x6 x7 x8 x9 x10
                            have hr := HR3.out
                            clear HR3
                            have hrD := hr.later (Below.refl _ W6).drew
                            clear hr
                            obtain ⟨x0, x1, x2, x3, x4, x5, x6, x7, x8, x9, x10⟩ := hrD.bx.cells
                            have c1 := hrD.d.cell
                            have c2 := hrD.v.cell
                            have hS : (W6.drew.cell? ⟨w.heap.size, 0, none⟩ = some (.slice A.m x.mi.length A.cm) ∧ W6.drew.cell? ⟨w.heap.size, 1, none⟩ = some (.slice A.h x.ho.length A.ch) ∧ W6.drew.cell? ⟨w.heap.size, 2, none⟩ = some (.slice A.o x.mo.length A.co) ∧ W6.drew.cell? ⟨B, 0, none⟩ = some (.string (Crn.dWord x)) ∧ W6.drew.cell? ⟨B + 1, 0, none⟩ = some (.string (Crn.wWord x))) ∧ Below w.heap.size w W6.drew := ⟨⟨x0, x1, x2, c1, c2⟩, hrD.be⟩
                            clear x0 x1 x2 x3 x4 x5 x6 x7 x8 x9 x10 c1 c2 hrD
                            have g1 : ¬ (9223372036854775807 < (Crn.word 60 x.mi).size + 1) := by omega
                            have g2 : ¬ (9223372036854775807 < (Crn.word 60 x.mi).size + 1 + (Crn.word 24 x.ho).size) := by omega
                            have g3 : ¬ (9223372036854775807 < (Crn.word 60 x.mi).size + 1 + (Crn.word 24 x.ho).size + 1) := by omega
                            have g4 : ¬ (9223372036854775807 < (Crn.word 60 x.mi).size + 1 + (Crn.word 24 x.ho).size + 1 + (Crn.dWord x).size) := by omega
                            have g5 : ¬ (9223372036854775807 < (Crn.word 60 x.mi).size + 1 + (Crn.word 24 x.ho).size + 1 + (Crn.dWord x).size + 1) := by omega
                            have g6 : ¬ (9223372036854775807 < (Crn.word 60 x.mi).size + 1 + (Crn.word 24 x.ho).size + 1 + (Crn.dWord x).size + 1 + (Crn.word 12 x.mo).size) := by omega
                            have g7 : ¬ (9223372036854775807 < (Crn.word 60 x.mi).size + 1 + (Crn.word 24 x.ho).size + 1 + (Crn.dWord x).size + 1 + (Crn.word 12 x.mo).size + 1) := by omega
                            have g8 : ¬ (9223372036854775807 < (Crn.word 60 x.mi).size + 1 + (Crn.word 24 x.ho).size + 1 + (Crn.dWord x).size + 1 + (Crn.word 12 x.mo).size + 1 + (Crn.wWord x).size) := by omega
                            skip
                            refine wp_region_noPanic ?_
                            refine wp_region_linGM (S := fun X => (X.cell? ⟨w.heap.size, 0, none⟩ = some (.slice A.m x.mi.length A.cm) ∧ X.cell? ⟨w.heap.size, 1, none⟩ = some (.slice A.h x.ho.length A.ch) ∧ X.cell? ⟨w.heap.size, 2, none⟩ = some (.slice A.o x.mo.length A.co) ∧ X.cell? ⟨B, 0, none⟩ = some (.string (Crn.dWord x)) ∧ X.cell? ⟨B + 1, 0, none⟩ = some (.string (Crn.wWord x))) ∧ Below w.heap.size w X) (R := fun _ => True) [] (by kernel_rfl) (by kernel_rfl) [(0, none, 1), (1, none, 1), (2, none, 0), (5, none, 1), (6, none, 1), (7, none, 0), (11, none, 0), (14, none, 1), (15, none, 1), (16, none, 0), (20, none, 0), (3, none, 2), (4, none, 1), (8, none, 2), (9, none, 1), (10, none, 1), (12, none, 1), (13, none, 1), (17, none, 2), (18, none, 1), (19, none, 1), (21, none, 1), (22, none, 1), (23, none, 1)] (by kernel_rfl) (by kernel_rfl) (fun _ _ _ _ _ h => h) (by exact trivial) (by exact hS) (fun ops' Q' hops hQ' => ?_)
                            refine wpLinG_pure (o := { dst := some 100, op := Go.Op.move (Go.Operand.tmp 5), type := 37, pos := "work.go:257", after := #[], guard := none }) (v := ?vq0110) (by rw [hops]; rfl) (by first | exact trivial | rfl) ?eq0110 ?hq0110
                            case eq0110 => intro w'; go_simp; (try rfl)
                            (try simp only [Act.put, List.setIfInBounds_toArray, List.set_cons_zero, List.set_cons_succ])
                            refine wpLinG_pure (o := { dst := some 101, op := Go.Op.fieldAddr 25 (Go.Operand.tmp 1) 0, type := 0, pos := "work.go:257", after := #[], guard := none }) (v := ?vq0111) (by rw [hops]; rfl) (by first | exact trivial | rfl) ?eq0111 ?hq0111
                            case eq0111 => intro w'; go_simp; (try rfl)
                            (try simp only [Act.put, List.setIfInBounds_toArray, List.set_cons_zero, List.set_cons_succ])
                            refine wpLinG_read (o := { dst := some 102, op := Go.Op.load 22 (Go.Operand.tmp 101), type := 22, pos := "work.go:257", after := #[{ on := 1, ground := Go.Ground.data }], guard := none }) (v := ?vq0112) (by rw [hops]; rfl) (by first | exact trivial | rfl) hS ?eq0112 ?hq0112
                            case eq0112 => intro w' hw'; obtain ⟨⟨e1, e2, e3, e4, e5⟩, _⟩ := hw'; go_simp; (try rfl)
                            (try simp only [Act.put, List.setIfInBounds_toArray, List.set_cons_zero, List.set_cons_succ])
                            refine wpLinG_pure (o := { dst := some 105, op := Go.Op.move (Go.Operand.tmp 5), type := 37, pos := "work.go:257", after := #[], guard := none }) (v := ?vq0113) (by rw [hops]; rfl) (by first | exact trivial | rfl) ?eq0113 ?hq0113
                            case eq0113 => intro w'; go_simp; (try rfl)
                            (try simp only [Act.put, List.setIfInBounds_toArray, List.set_cons_zero, List.set_cons_succ])
                            refine wpLinG_pure (o := { dst := some 106, op := Go.Op.fieldAddr 25 (Go.Operand.tmp 1) 1, type := 0, pos := "work.go:257", after := #[], guard := none }) (v := ?vq0114) (by rw [hops]; rfl) (by first | exact trivial | rfl) ?eq0114 ?hq0114
                            case eq0114 => intro w'; go_simp; (try rfl)
                            (try simp only [Act.put, List.setIfInBounds_toArray, List.set_cons_zero, List.set_cons_succ])
                            refine wpLinG_read (o := { dst := some 107, op := Go.Op.load 22 (Go.Operand.tmp 106), type := 22, pos := "work.go:257", after := #[{ on := 6, ground := Go.Ground.data }], guard := none }) (v := ?vq0115) (by rw [hops]; rfl) (by first | exact trivial | rfl) hS ?eq0115 ?hq0115
                            case eq0115 => intro w' hw'; obtain ⟨⟨e1, e2, e3, e4, e5⟩, _⟩ := hw'; go_simp; (try rfl)
                            (try simp only [Act.put, List.setIfInBounds_toArray, List.set_cons_zero, List.set_cons_succ])
                            refine wpLinG_read (o := { dst := some 111, op := Go.Op.load 9 (Go.Operand.tmp 6), type := 9, pos := "work.go:257", after := #[], guard := none }) (v := ?vq0116) (by rw [hops]; rfl) (by first | exact trivial | rfl) hS ?eq0116 ?hq0116
                            case eq0116 => intro w' hw'; obtain ⟨⟨e1, e2, e3, e4, e5⟩, _⟩ := hw'; go_simp; (try rfl)
                            (try simp only [Act.put, List.setIfInBounds_toArray, List.set_cons_zero, List.set_cons_succ])
                            refine wpLinG_pure (o := { dst := some 114, op := Go.Op.move (Go.Operand.tmp 5), type := 37, pos := "work.go:257", after := #[], guard := none }) (v := ?vq0117) (by rw [hops]; rfl) (by first | exact trivial | rfl) ?eq0117 ?hq0117
                            case eq0117 => intro w'; go_simp; (try rfl)
                            (try simp only [Act.put, List.setIfInBounds_toArray, List.set_cons_zero, List.set_cons_succ])
                            refine wpLinG_pure (o := { dst := some 115, op := Go.Op.fieldAddr 25 (Go.Operand.tmp 1) 2, type := 0, pos := "work.go:257", after := #[], guard := none }) (v := ?vq0118) (by rw [hops]; rfl) (by first | exact trivial | rfl) ?eq0118 ?hq0118
                            case eq0118 => intro w'; go_simp; (try rfl)
                            (try simp only [Act.put, List.setIfInBounds_toArray, List.set_cons_zero, List.set_cons_succ])
                            refine wpLinG_read (o := { dst := some 116, op := Go.Op.load 22 (Go.Operand.tmp 115), type := 22, pos := "work.go:257", after := #[{ on := 15, ground := Go.Ground.data }], guard := none }) (v := ?vq0119) (by rw [hops]; rfl) (by first | exact trivial | rfl) hS ?eq0119 ?hq0119
                            case eq0119 => intro w' hw'; obtain ⟨⟨e1, e2, e3, e4, e5⟩, _⟩ := hw'; go_simp; (try rfl)
                            (try simp only [Act.put, List.setIfInBounds_toArray, List.set_cons_zero, List.set_cons_succ])
                            refine wpLinG_read (o := { dst := some 120, op := Go.Op.load 9 (Go.Operand.tmp 7), type := 9, pos := "work.go:257", after := #[], guard := none }) (v := ?vq01110) (by rw [hops]; rfl) (by first | exact trivial | rfl) hS ?eq01110 ?hq01110
                            case eq01110 => intro w' hw'; obtain ⟨⟨e1, e2, e3, e4, e5⟩, _⟩ := hw'; go_simp; (try rfl)
                            (try simp only [Act.put, List.setIfInBounds_toArray, List.set_cons_zero, List.set_cons_succ])
                            refine wpLinG_do (o := { dst := some 103, op := Go.Op.call { callee := Go.Callee.value (Go.Operand.tmp 100), args := #[Go.Operand.tmp 102, Go.Operand.const (Go.Value.int Go.IntKind.i64 60)], argTypes := #[22, 3] }, type := 9, pos := "work.go:257", after := #[{ on := 0, ground := Go.Ground.data }, { on := 2, ground := Go.Ground.data }], guard := none }) (by rw [hops]; rfl) (by first | exact trivial | rfl) (fun K hK => ?_)
                            go_simp
                            refine (KM.out _ hS.2).mono ?_
                            rintro e Y1 ⟨rfl, hb⟩
                            replace hS := keep5 hS hb
                            clear hb
                            refine hK _ _ trivial hS ?_
                            clear hK K
                            (try simp only [Act.put, List.setIfInBounds_toArray, List.set_cons_zero, List.set_cons_succ])
                            refine wpLinG_pure (o := { dst := some 104, op := Go.Op.binOp Go.BinOp.add 9 (Go.Operand.tmp 103) (Go.Operand.const (Go.Value.string { data := #[32] })) 9, type := 9, pos := "work.go:257", after := #[{ on := 3, ground := Go.Ground.data }], guard := none }) (v := ?vq01112) (by rw [hops]; rfl) (by first | exact trivial | rfl) ?eq01112 ?hq01112
                            case eq01112 => intro w'; go_simp; (try rfl)
                            (try simp only [Act.put, List.setIfInBounds_toArray, List.set_cons_zero, List.set_cons_succ])
                            refine wpLinG_do (o := { dst := some 108, op := Go.Op.call { callee := Go.Callee.value (Go.Operand.tmp 105), args := #[Go.Operand.tmp 107, Go.Operand.const (Go.Value.int Go.IntKind.i64 24)], argTypes := #[22, 3] }, type := 9, pos := "work.go:257", after := #[{ on := 5, ground := Go.Ground.data }, { on := 7, ground := Go.Ground.data }, { on := 3, ground := Go.Ground.chain }], guard := none }) (by rw [hops]; rfl) (by first | exact trivial | rfl) (fun K hK => ?_)
                            go_simp
                            refine (KH.out _ hS.2).mono ?_
                            rintro e Y2 ⟨rfl, hb⟩
                            replace hS := keep5 hS hb
                            clear hb
                            refine hK _ _ trivial hS ?_
                            clear hK K
                            (try simp only [Act.put, List.setIfInBounds_toArray, List.set_cons_zero, List.set_cons_succ])
                            refine wpLinG_pure (o := { dst := some 109, op := Go.Op.binOp Go.BinOp.add 9 (Go.Operand.tmp 104) (Go.Operand.tmp 108) 9, type := 9, pos := "work.go:257", after := #[{ on := 4, ground := Go.Ground.data }, { on := 8, ground := Go.Ground.data }], guard := none }) (v := ?vq01114) (by rw [hops]; rfl) (by first | exact trivial | rfl) ?eq01114 ?hq01114
                            case eq01114 => intro w'; go_simp; (try rfl)
                            (try simp only [Act.put, List.setIfInBounds_toArray, List.set_cons_zero, List.set_cons_succ])
                            refine wpLinG_pure (o := { dst := some 110, op := Go.Op.binOp Go.BinOp.add 9 (Go.Operand.tmp 109) (Go.Operand.const (Go.Value.string { data := #[32] })) 9, type := 9, pos := "work.go:257", after := #[{ on := 9, ground := Go.Ground.data }], guard := none }) (v := ?vq01115) (by rw [hops]; rfl) (by first | exact trivial | rfl) ?eq01115 ?hq01115
                            case eq01115 => intro w'; go_simp; (try rfl)
                            (try simp only [Act.put, List.setIfInBounds_toArray, List.set_cons_zero, List.set_cons_succ])
                            refine wpLinG_pure (o := { dst := some 112, op := Go.Op.binOp Go.BinOp.add 9 (Go.Operand.tmp 110) (Go.Operand.tmp 111) 9, type := 9, pos := "work.go:257", after := #[{ on := 10, ground := Go.Ground.data }, { on := 11, ground := Go.Ground.data }], guard := none }) (v := ?vq01116) (by rw [hops]; rfl) (by first | exact trivial | rfl) ?eq01116 ?hq01116
                            case eq01116 => intro w'; go_simp; (try rfl)
                            (try simp only [Act.put, List.setIfInBounds_toArray, List.set_cons_zero, List.set_cons_succ])
                            refine wpLinG_pure (o := { dst := some 113, op := Go.Op.binOp Go.BinOp.add 9 (Go.Operand.tmp 112) (Go.Operand.const (Go.Value.string { data := #[32] })) 9, type := 9, pos := "work.go:257", after := #[{ on := 12, ground := Go.Ground.data }], guard := none }) (v := ?vq01117) (by rw [hops]; rfl) (by first | exact trivial | rfl) ?eq01117 ?hq01117
                            case eq01117 => intro w'; go_simp; (try rfl)
                            (try simp only [Act.put, List.setIfInBounds_toArray, List.set_cons_zero, List.set_cons_succ])
                            refine wpLinG_do (o := { dst := some 117, op := Go.Op.call { callee := Go.Callee.value (Go.Operand.tmp 114), args := #[Go.Operand.tmp 116, Go.Operand.const (Go.Value.int Go.IntKind.i64 12)], argTypes := #[22, 3] }, type := 9, pos := "work.go:257", after := #[{ on := 14, ground := Go.Ground.data }, { on := 16, ground := Go.Ground.data }, { on := 8, ground := Go.Ground.chain }], guard := none }) (by rw [hops]; rfl) (by first | exact trivial | rfl) (fun K hK => ?_)
                            go_simp
                            refine (KO.out _ hS.2).mono ?_
                            rintro e Y3 ⟨rfl, hb⟩
                            replace hS := keep5 hS hb
                            clear hb
                            refine hK _ _ trivial hS ?_
                            clear hK K
                            (try simp only [Act.put, List.setIfInBounds_toArray, List.set_cons_zero, List.set_cons_succ])
                            refine wpLinG_pure (o := { dst := some 118, op := Go.Op.binOp Go.BinOp.add 9 (Go.Operand.tmp 113) (Go.Operand.tmp 117) 9, type := 9, pos := "work.go:257", after := #[{ on := 13, ground := Go.Ground.data }, { on := 17, ground := Go.Ground.data }], guard := none }) (v := ?vq01119) (by rw [hops]; rfl) (by first | exact trivial | rfl) ?eq01119 ?hq01119
                            case eq01119 => intro w'; go_simp; (try rfl)
                            (try simp only [Act.put, List.setIfInBounds_toArray, List.set_cons_zero, List.set_cons_succ])
                            refine wpLinG_pure (o := { dst := some 119, op := Go.Op.binOp Go.BinOp.add 9 (Go.Operand.tmp 118) (Go.Operand.const (Go.Value.string { data := #[32] })) 9, type := 9, pos := "work.go:257", after := #[{ on := 18, ground := Go.Ground.data }], guard := none }) (v := ?vq01120) (by rw [hops]; rfl) (by first | exact trivial | rfl) ?eq01120 ?hq01120
                            case eq01120 => intro w'; go_simp; (try rfl)
                            (try simp only [Act.put, List.setIfInBounds_toArray, List.set_cons_zero, List.set_cons_succ])
                            refine wpLinG_pure (o := { dst := some 121, op := Go.Op.binOp Go.BinOp.add 9 (Go.Operand.tmp 119) (Go.Operand.tmp 120) 9, type := 9, pos := "work.go:257", after := #[{ on := 19, ground := Go.Ground.data }, { on := 20, ground := Go.Ground.data }], guard := none }) (v := ?vq01121) (by rw [hops]; rfl) (by first | exact trivial | rfl) ?eq01121 ?hq01121
                            case eq01121 => intro w'; go_simp; (try rfl)
                            (try simp only [Act.put, List.setIfInBounds_toArray, List.set_cons_zero, List.set_cons_succ])
                            refine wpLinG_pure (o := { dst := some 2, op := Go.Op.assign (Go.Operand.tmp 121), type := 9, pos := "work.go:257", after := #[{ on := 21, ground := Go.Ground.data }, { on := 17, ground := Go.Ground.chain }, { on := 0, ground := Go.Ground.phase }, { on := 1, ground := Go.Ground.phase }, { on := 2, ground := Go.Ground.phase }, { on := 3, ground := Go.Ground.phase }, { on := 4, ground := Go.Ground.phase }, { on := 5, ground := Go.Ground.phase }, { on := 6, ground := Go.Ground.phase }, { on := 7, ground := Go.Ground.phase }, { on := 8, ground := Go.Ground.phase }, { on := 9, ground := Go.Ground.phase }, { on := 10, ground := Go.Ground.phase }, { on := 11, ground := Go.Ground.phase }, { on := 12, ground := Go.Ground.phase }, { on := 13, ground := Go.Ground.phase }, { on := 14, ground := Go.Ground.phase }, { on := 15, ground := Go.Ground.phase }, { on := 16, ground := Go.Ground.phase }, { on := 17, ground := Go.Ground.phase }, { on := 18, ground := Go.Ground.phase }, { on := 19, ground := Go.Ground.phase }, { on := 20, ground := Go.Ground.phase }, { on := 21, ground := Go.Ground.phase }], guard := none }) (v := ?vq01122) (by rw [hops]; rfl) (by first | exact trivial | rfl) ?eq01122 ?hq01122
                            case eq01122 => intro w'; go_simp; (try rfl)
                            (try simp only [Act.put, List.setIfInBounds_toArray, List.set_cons_zero, List.set_cons_succ])
                            refine wpLinG_pure (o := { dst := some 3, op := Go.Op.assign (Go.Operand.const (Go.Value.int Go.IntKind.i64 0)), type := 26, pos := "work.go:257", after := #[{ on := 22, ground := Go.Ground.chain }, { on := 0, ground := Go.Ground.phase }, { on := 1, ground := Go.Ground.phase }, { on := 2, ground := Go.Ground.phase }, { on := 3, ground := Go.Ground.phase }, { on := 4, ground := Go.Ground.phase }, { on := 5, ground := Go.Ground.phase }, { on := 6, ground := Go.Ground.phase }, { on := 7, ground := Go.Ground.phase }, { on := 8, ground := Go.Ground.phase }, { on := 9, ground := Go.Ground.phase }, { on := 10, ground := Go.Ground.phase }, { on := 11, ground := Go.Ground.phase }, { on := 12, ground := Go.Ground.phase }, { on := 13, ground := Go.Ground.phase }, { on := 14, ground := Go.Ground.phase }, { on := 15, ground := Go.Ground.phase }, { on := 16, ground := Go.Ground.phase }, { on := 17, ground := Go.Ground.phase }, { on := 18, ground := Go.Ground.phase }, { on := 19, ground := Go.Ground.phase }, { on := 20, ground := Go.Ground.phase }, { on := 21, ground := Go.Ground.phase }, { on := 22, ground := Go.Ground.phase }], guard := none }) (v := ?vq01123) (by rw [hops]; rfl) (by first | exact trivial | rfl) ?eq01123 ?hq01123
                            case eq01123 => intro w'; go_simp; (try rfl)
                            (try simp only [Act.put, List.setIfInBounds_toArray, List.set_cons_zero, List.set_cons_succ])
                            subst hQ'
                            refine NoPanic.normal ?_
                            clear hops
                            go_wp2
                            go_ret2
                            exact ⟨by rw [HT.out]; rfl, hS.2⟩
          · rw [hlast] at HDI
            have xc := hr.bx.cells
            obtain ⟨x0, x1, x2, x3, x4, x5, x6, x7, x8, x9, x10⟩ := xc
            rw [hlast] at x5
            clear hlast
            have hDI : Crn.dItems x = (Crn.its x.da ⟨#[]⟩ ++ Crn.its x.near ⟨#[87]⟩) ++ [⟨#[76]⟩] := by rw [HDI.out]; simp
            have t2 := HTX.out.2.1
            generalize (Crn.its x.da ⟨#[]⟩ ++ Crn.its x.near ⟨#[87]⟩) = Lk at *
            go_wp2_with fail
            have hX := radd_join B Lk ⟨#[76]⟩ _ hr.d t2 (by decide)
            with_reducible refine hX.mono ?_
            rintro e X2 ⟨rfl, hbx, hu⟩
            clear hX
            rw [← hDI] at hbx
            have hr2 := hr.add1 hbx hu
            clear hr hbx hu hDI t2 HDI
            clear x0 x1 x2 x3 x4 x5 x6 x7 x8 x9 x10
            have hr : RT w A x B (B + 1) (Crn.joinB (Crn.dItems x)) (Crn.joinB ([] ++ (Crn.its x.wd ⟨#[]⟩).take 0)) X2 := hr2
            clear hr2
            have xc := hr.bx.cells
            obtain ⟨x0, x1, x2, x3, x4, x5, x6, x7, x8, x9, x10⟩ := xc
            go_wp2_with fail
            clear x0 x1 x2 x3 x4 x5 x6 x7 x8 x9 x10
            go_loopw [56] (fun i wr => ∃ k : Nat, k ≤ x.wd.length ∧ i = .int .i64 k ∧ RT w A x B (B + 1) (Crn.joinB (Crn.dItems x)) (Crn.joinB ([] ++ (Crn.its x.wd ⟨#[]⟩).take k)) wr) (fun i _ => x.wd.length - (intOf i).toNat)
            case atStart => exact ⟨0, by omega, rfl, hr⟩
            case round =>
              clear hr
              obtain ⟨k, hk, rfl, hr⟩ := hrel
              have hn := HS.out.wd.1
              by_cases hlt : k < x.wd.length
              · have hki : (k : Int) < x.wd.length := by omega
                obtain ⟨ad, had, hc⟩ := (HL.out.wd.later hr.be) k hlt
                have hx := HS.out.wd.2 k hlt
                have hd := Crn.dec_size _ hx.1 hx.2
                have K := hide (fun W => itoa_lit _ W hx.1 hx.2)
                have hT : [] ++ (Crn.its x.wd ⟨#[]⟩).take (k + 1) = ([] ++ (Crn.its x.wd ⟨#[]⟩).take k) ++ [Crn.dec (x.wd.getD k 0) ++ ⟨#[]⟩] := by rw [its_take _ _ _ hlt, List.append_assoc]
                have tx : TxL ([] ++ (Crn.its x.wd ⟨#[]⟩).take k) := (HTX.out.2.2.2.2.2).take k
                rw [had]
                rw [app_none] at hT
                have HTT := hide hT
                clear hT
                generalize Crn.dec (x.wd.getD k 0) = Q at *
                generalize x.wd.getD k 0 = n at *
                generalize ([] ++ (Crn.its x.wd ⟨#[]⟩).take k) = Lk at *
                go_wp2_with fail
                refine (K.out _).mono ?_
                rintro e X1 ⟨rfl, rfl⟩
                go_wp2_with fail
                have s2 : Q.size ≤ 12 := by omega
                have hX := radd_join (B + 1) Lk Q _ hr.v tx s2
                with_reducible refine hX.mono ?_
                rintro e X2 ⟨rfl, hbx, hu⟩
                clear hX
                rw [← HTT.out] at hbx
                have hr2 := hr.add2 hbx hu
                clear hr hbx hu
                go_wp2
                go_roundw
                case rel => exact ⟨k + 1, by omega, by go_num, hr2⟩
                case measure => simp [intOf]; omega
              · have hkn : k = x.wd.length := by omega
                have hki : (x.wd.length : Int) ≤ k := by omega
                subst hkn
                rw [List.take_of_length_le (by rw [its_length]; omega)] at hr
                replace hr : RT w A x B (B + 1) (Crn.joinB (Crn.dItems x)) (Crn.joinB (Crn.its x.wd ⟨#[]⟩ ++ (Crn.its x.lo ⟨#[76]⟩).take 0)) wr := by simpa using hr
                clear hk hki hlt hn
                have xc := hr.bx.cells
                obtain ⟨x0, x1, x2, x3, x4, x5, x6, x7, x8, x9, x10⟩ := xc
                go_wp2_with fail
                clear x0 x1 x2 x3 x4 x5 x6 x7 x8 x9 x10
                go_loopw [68] (fun i wr => ∃ k : Nat, k ≤ x.lo.length ∧ i = .int .i64 k ∧ RT w A x B (B + 1) (Crn.joinB (Crn.dItems x)) (Crn.joinB (Crn.its x.wd ⟨#[]⟩ ++ (Crn.its x.lo ⟨#[76]⟩).take k)) wr) (fun i _ => x.lo.length - (intOf i).toNat)
                case atStart => exact ⟨0, by omega, rfl, hr⟩
                case round =>
                  clear hr
                  obtain ⟨k, hk, rfl, hr⟩ := hrel
                  have hn := HS.out.lo.1
                  by_cases hlt : k < x.lo.length
                  · have hki : (k : Int) < x.lo.length := by omega
                    obtain ⟨ad, had, hc⟩ := (HL.out.lo.later hr.be) k hlt
                    have hx := HS.out.lo.2 k hlt
                    have hd := Crn.dec_size _ hx.1 hx.2
                    have K := hide (fun W => itoa_lit _ W hx.1 hx.2)
                    have hT : Crn.its x.wd ⟨#[]⟩ ++ (Crn.its x.lo ⟨#[76]⟩).take (k + 1) = (Crn.its x.wd ⟨#[]⟩ ++ (Crn.its x.lo ⟨#[76]⟩).take k) ++ [Crn.dec (x.lo.getD k 0) ++ ⟨#[76]⟩] := by rw [its_take _ _ _ hlt, List.append_assoc]
                    have tx : TxL (Crn.its x.wd ⟨#[]⟩ ++ (Crn.its x.lo ⟨#[76]⟩).take k) := (HTX.out.2.2.2.2.1).take k
                    rw [had]
                    have HTT := hide hT
                    clear hT
                    generalize Crn.dec (x.lo.getD k 0) = Q at *
                    generalize x.lo.getD k 0 = n at *
                    generalize (Crn.its x.wd ⟨#[]⟩ ++ (Crn.its x.lo ⟨#[76]⟩).take k) = Lk at *
                    have q1 : (⟨#[76]⟩ : ByteArray).size = 1 := rfl
                    have s1 : Q.size + (⟨#[76]⟩ : ByteArray).size ≤ 1000 := by rw [q1]; omega
                    have s2 : (Q ++ ⟨#[76]⟩).size ≤ 12 := by rw [ByteArray.size_append, q1]; omega
                    have s1b : ¬ (9223372036854775807 < Q.size + 1) := by omega
                    have s1c : ¬ (9223372036854775807 ≤ Q.size) := by omega
                    have s1d : ¬ (9223372036854775807 < Q.size + (⟨#[76]⟩ : ByteArray).size) := by rw [q1]; omega
                    go_wp2_with fail
                    refine (K.out _).mono ?_
                    rintro e X1 ⟨rfl, rfl⟩
                    go_wp2_with fail
                    have hX := radd_join (B + 1) Lk (Q ++ ⟨#[76]⟩) _ hr.v tx s2
                    with_reducible refine hX.mono ?_
                    rintro e X2 ⟨rfl, hbx, hu⟩
                    clear hX
                    rw [← HTT.out] at hbx
                    have hr2 := hr.add2 hbx hu
                    clear hr hbx hu
                    go_wp2
                    go_roundw
                    case rel => exact ⟨k + 1, by omega, by go_num, hr2⟩
                    case measure => simp [intOf]; omega
                  · have hkn : k = x.lo.length := by omega
                    have hki : (x.lo.length : Int) ≤ k := by omega
                    subst hkn
                    rw [List.take_of_length_le (by rw [its_length]; omega)] at hr
                    clear hk hki hlt hn
                    replace hr : RT w A x B (B + 1) (Crn.joinB (Crn.dItems x)) (Crn.joinB ((Crn.its x.wd ⟨#[]⟩ ++ Crn.its x.lo ⟨#[76]⟩) ++ (Crn.nts x.nth).take 0)) wr := by simpa using hr
                    have xc := hr.bx.cells
                    obtain ⟨x0, x1, x2, x3, x4, x5, x6, x7, x8, x9, x10⟩ := xc
                    go_wp2_with fail
                    clear x0 x1 x2 x3 x4 x5 x6 x7 x8 x9 x10
                    go_loopw [81] (fun i wr => ∃ k : Nat, k ≤ x.nth.length ∧ i = .int .i64 k ∧ RT w A x B (B + 1) (Crn.joinB (Crn.dItems x)) (Crn.joinB ((Crn.its x.wd ⟨#[]⟩ ++ Crn.its x.lo ⟨#[76]⟩) ++ (Crn.nts x.nth).take k)) wr) (fun i _ => x.nth.length - (intOf i).toNat)
                    case atStart => exact ⟨0, by omega, rfl, hr⟩
                    case round =>
                      clear hr
                      obtain ⟨k, hk, rfl, hr⟩ := hrel
                      have hn := HS.out.nth.1
                      by_cases hlt : k < x.nth.length
                      · have hki : (k : Int) < x.nth.length := by omega
                        obtain ⟨ad, had, hc, hc2⟩ := (HL.out.nth.later hr.be) k hlt
                        obtain ⟨hx1, hx2⟩ := HS.out.nth.2 k hlt
                        have hT : (Crn.its x.wd ⟨#[]⟩ ++ Crn.its x.lo ⟨#[76]⟩) ++ (Crn.nts x.nth).take (k + 1) = ((Crn.its x.wd ⟨#[]⟩ ++ Crn.its x.lo ⟨#[76]⟩) ++ (Crn.nts x.nth).take k) ++ [Crn.dec (x.nth.getD k (0, 0)).2 ++ ⟨#[35]⟩ ++ Crn.dec (x.nth.getD k (0, 0)).1] := by rw [nts_take _ _ hlt]; simp only [List.append_assoc]
                        have d1 := Crn.dec_size _ hx1.1 hx1.2
                        have d2 := Crn.dec_size _ hx2.1 hx2.2
                        have K1 := hide (fun W => itoa_lit _ W hx1.1 hx1.2)
                        have K2 := hide (fun W => itoa_lit _ W hx2.1 hx2.2)
                        have tx : TxL ((Crn.its x.wd ⟨#[]⟩ ++ Crn.its x.lo ⟨#[76]⟩) ++ (Crn.nts x.nth).take k) := (show TxL ((Crn.its x.wd ⟨#[]⟩ ++ Crn.its x.lo ⟨#[76]⟩) ++ Crn.nts x.nth) from HTX.out.2.2.2.1).take k
                        have HTT := hide hT
                        clear hT
                        rw [had]
                        generalize x.nth.getD k (0, 0) = n at *
                        obtain ⟨n1, n2⟩ := n
                        dsimp only at hc hc2 d1 d2 K1 K2 HTT hx1 hx2
                        generalize Crn.dec n1 = D1 at *
                        generalize Crn.dec n2 = D2 at *
                        generalize ((Crn.its x.wd ⟨#[]⟩ ++ Crn.its x.lo ⟨#[76]⟩) ++ (Crn.nts x.nth).take k) = Lk at *
                        have q1 : (⟨#[35]⟩ : ByteArray).size = 1 := rfl
                        have s1 : ¬ (9223372036854775807 < D2.size + (⟨#[35]⟩ : ByteArray).size) := by rw [q1]; omega
                        have s1b : ¬ (9223372036854775807 < D2.size + 1) := by omega
                        have s2 : ¬ (9223372036854775807 < D2.size + 1 + D1.size) := by omega
                        have s3 : ¬ (9223372036854775807 < D2.size + (⟨#[35]⟩ : ByteArray).size + D1.size) := by rw [q1]; omega
                        have s4 : (D2 ++ ⟨#[35]⟩ ++ D1).size ≤ 12 := by rw [ByteArray.size_append, ByteArray.size_append, q1]; omega
                        obtain ⟨y0, y1⟩ := (NBox.new wr (n1, n2)).cells
                        have hrA := hr.later ((Below.refl _ wr).alloc (Nat.le_refl _) (.cells #[.int .i64 n1, .int .i64 n2] 42))
                        have HA := hide (And.intro y0 (And.intro y1 hrA))
                        have hwr1 := hr.d.lt
                        have hwr2 := hr.v.lt
                        clear y0 y1 hrA hr
                        go_upto_region 32 with fail
                        obtain ⟨y0, y1, hrA⟩ := HA.out
                        obtain ⟨W3, hW3⟩ : ∃ W3, wr.alloc (.cells #[.int .i64 n1, .int .i64 n2] 42) = W3 := ⟨_, rfl⟩
                        rw [hW3] at y0 y1 hrA ⊢
                        clear hW3 HA hc hc2
                        have hS : W3.drew.cell? ⟨wr.heap.size, 0, none⟩ = some (.int .i64 n1) ∧ W3.drew.cell? ⟨wr.heap.size, 1, none⟩ = some (.int .i64 n2) := ⟨y0, y1⟩
                        have hrB := hrA.later (Below.refl _ W3).drew
                        clear hrA
                        refine wp_region_noPanic ?_
                        refine wp_region_linGM (S := fun X => X.cell? ⟨wr.heap.size, 0, none⟩ = some (.int .i64 n1) ∧ X.cell? ⟨wr.heap.size, 1, none⟩ = some (.int .i64 n2)) (R := fun _ => True) [] (by kernel_rfl) (by kernel_rfl) [(0, none, 1), (1, none, 1), (2, none, 0), (5, none, 1), (6, none, 0), (3, none, 2), (4, none, 1), (7, none, 2), (8, none, 1), (9, none, 2)] (by kernel_rfl) (by kernel_rfl) (fun _ _ _ _ _ h => h) (by exact trivial) (by exact hS) (fun ops' Q' hops hQ' => ?_)
                        refine wpLinG_pure (o := { dst := some 85, op := Go.Op.move (Go.Operand.tmp 8), type := 39, pos := "work.go:249", after := #[], guard := none }) (v := ?vn10) (by rw [hops]; rfl) (by first | exact trivial | rfl) ?en10 ?hn10
                        case en10 => intro w'; go_simp; (try rfl)
                        (try simp only [Act.put, List.setIfInBounds_toArray, List.set_cons_zero, List.set_cons_succ])
                        refine wpLinG_pure (o := { dst := some 86, op := Go.Op.fieldAddr 42 (Go.Operand.tmp 18) 1, type := 0, pos := "work.go:249", after := #[], guard := none }) (v := ?vn11) (by rw [hops]; rfl) (by first | exact trivial | rfl) ?en11 ?hn11
                        case en11 => intro w'; go_simp; (try rfl)
                        (try simp only [Act.put, List.setIfInBounds_toArray, List.set_cons_zero, List.set_cons_succ])
                        refine wpLinG_read (o := { dst := some 87, op := Go.Op.load 3 (Go.Operand.tmp 86), type := 3, pos := "work.go:249", after := #[{ on := 1, ground := Go.Ground.data }], guard := none }) (v := ?vn12) (by rw [hops]; rfl) (by first | exact trivial | rfl) hS ?en12 ?hn12
                        case en12 => intro w' hw'; obtain ⟨e1, e2⟩ := hw'; go_simp; (try rfl)
                        (try simp only [Act.put, List.setIfInBounds_toArray, List.set_cons_zero, List.set_cons_succ])
                        refine wpLinG_pure (o := { dst := some 90, op := Go.Op.fieldAddr 42 (Go.Operand.tmp 18) 0, type := 0, pos := "work.go:249", after := #[], guard := none }) (v := ?vn13) (by rw [hops]; rfl) (by first | exact trivial | rfl) ?en13 ?hn13
                        case en13 => intro w'; go_simp; (try rfl)
                        (try simp only [Act.put, List.setIfInBounds_toArray, List.set_cons_zero, List.set_cons_succ])
                        refine wpLinG_read (o := { dst := some 91, op := Go.Op.load 3 (Go.Operand.tmp 90), type := 3, pos := "work.go:249", after := #[{ on := 5, ground := Go.Ground.data }], guard := none }) (v := ?vn14) (by rw [hops]; rfl) (by first | exact trivial | rfl) hS ?en14 ?hn14
                        case en14 => intro w' hw'; obtain ⟨e1, e2⟩ := hw'; go_simp; (try rfl)
                        (try simp only [Act.put, List.setIfInBounds_toArray, List.set_cons_zero, List.set_cons_succ])
                        refine wpLinG_do (o := { dst := some 88, op := Go.Op.call { callee := Go.Callee.value (Go.Operand.func 13), args := #[Go.Operand.tmp 87], argTypes := #[3] }, type := 9, pos := "work.go:249", after := #[{ on := 2, ground := Go.Ground.data }], guard := none }) (by rw [hops]; rfl) (by first | exact trivial | rfl) (fun K hK => ?_)
                        go_simp
                        refine (K2.out _).mono ?_
                        rintro e X3 ⟨rfl, rfl⟩
                        refine hK _ _ trivial hS ?_
                        clear hK K
                        (try simp only [Act.put, List.setIfInBounds_toArray, List.set_cons_zero, List.set_cons_succ])
                        refine wpLinG_pure (o := { dst := some 89, op := Go.Op.binOp Go.BinOp.add 9 (Go.Operand.tmp 88) (Go.Operand.const (Go.Value.string { data := #[35] })) 9, type := 9, pos := "work.go:249", after := #[{ on := 3, ground := Go.Ground.data }], guard := none }) (v := ?vn16) (by rw [hops]; rfl) (by first | exact trivial | rfl) ?en16 ?hn16
                        case en16 => intro w'; go_simp; (try rfl)
                        (try simp only [Act.put, List.setIfInBounds_toArray, List.set_cons_zero, List.set_cons_succ])
                        refine wpLinG_do (o := { dst := some 92, op := Go.Op.call { callee := Go.Callee.value (Go.Operand.func 13), args := #[Go.Operand.tmp 91], argTypes := #[3] }, type := 9, pos := "work.go:249", after := #[{ on := 6, ground := Go.Ground.data }, { on := 3, ground := Go.Ground.chain }], guard := none }) (by rw [hops]; rfl) (by first | exact trivial | rfl) (fun K hK => ?_)
                        go_simp
                        refine (K1.out _).mono ?_
                        rintro e X3 ⟨rfl, rfl⟩
                        refine hK _ _ trivial hS ?_
                        clear hK K
                        (try simp only [Act.put, List.setIfInBounds_toArray, List.set_cons_zero, List.set_cons_succ])
                        refine wpLinG_pure (o := { dst := some 93, op := Go.Op.binOp Go.BinOp.add 9 (Go.Operand.tmp 89) (Go.Operand.tmp 92) 9, type := 9, pos := "work.go:249", after := #[{ on := 4, ground := Go.Ground.data }, { on := 7, ground := Go.Ground.data }], guard := none }) (v := ?vn18) (by rw [hops]; rfl) (by first | exact trivial | rfl) ?en18 ?hn18
                        case en18 => intro w'; go_simp; (try rfl)
                        (try simp only [Act.put, List.setIfInBounds_toArray, List.set_cons_zero, List.set_cons_succ])
                        refine wpLinG_do (o := { dst := some 94, op := Go.Op.call { callee := Go.Callee.value (Go.Operand.tmp 85), args := #[Go.Operand.tmp 7, Go.Operand.tmp 93], argTypes := #[38, 9] }, type := 0, pos := "work.go:249", after := #[{ on := 0, ground := Go.Ground.data }, { on := 8, ground := Go.Ground.data }, { on := 7, ground := Go.Ground.chain }], guard := none }) (by rw [hops]; rfl) (by first | exact trivial | rfl) (fun K hK => ?_)
                        go_simp
                        have hX := radd_join (B + 1) Lk (D2 ++ ⟨#[35]⟩ ++ D1) _ hrB.v tx s4
                        with_reducible refine hX.mono ?_
                        rintro e X3 ⟨rfl, hbx, hu⟩
                        have hS2 := hS
                        have hblk := hu.block wr.heap.size (by omega)
                        replace hS : X3.cell? ⟨wr.heap.size, 0, none⟩ = some (.int .i64 n1) ∧ X3.cell? ⟨wr.heap.size, 1, none⟩ = some (.int .i64 n2) := ⟨(World.cell?_of_block hblk).trans hS2.1, (World.cell?_of_block hblk).trans hS2.2⟩
                        refine hK _ _ trivial hS ?_
                        clear hK K
                        (try simp only [Act.put, List.setIfInBounds_toArray, List.set_cons_zero, List.set_cons_succ])
                        subst hQ'
                        refine NoPanic.normal ?_
                        clear hops hS hblk hS2 y0 y1
                        rw [← HTT.out] at hbx
                        have hr2 := hrB.add2 hbx hu
                        clear hrB hbx hu
                        go_wp2
                        go_roundw
                        case rel => exact ⟨k + 1, by omega, by go_num, hr2⟩
                        case measure => simp [intOf]; omega
                      · have hkn : k = x.nth.length := by omega
                        have hki : (x.nth.length : Int) ≤ k := by omega
                        subst hkn
                        rw [← wItems_eq] at hr
                        clear hk hlt hn
                        have xc := hr.bx.cells
                        obtain ⟨x0, x1, x2, x3, x4, x5, x6, x7, x8, x9, x10⟩ := xc
                        cases hany : x.any
                        · have hD : Crn.dWord x = (Crn.joinB (Crn.dItems x)) := by rw [HDW.out, hany]; rfl
                          rw [hany] at x3
                          clear hany
                          rw [← hD] at hr
                          clear hD
                          cases hanyw : x.anyW
                          · have hV : Crn.wWord x = Crn.joinB (Crn.wItems x) := by rw [HWW.out, hanyw]; rfl
                            rw [hanyw] at x7
                            clear hanyw
                            rw [← hV] at hr
                            clear hV
                            go_upto_region 38 with fail
                            clear x0 x1 x2 x3 x4 x5 x6 x7 x8 x9 x10
                            have hrD := hr.later (Below.refl _ wr).drew
                            clear hr
                            obtain ⟨x0, x1, x2, x3, x4, x5, x6, x7, x8, x9, x10⟩ := hrD.bx.cells
                            have c1 := hrD.d.cell
                            have c2 := hrD.v.cell
                            have hS : (wr.drew.cell? ⟨w.heap.size, 0, none⟩ = some (.slice A.m x.mi.length A.cm) ∧ wr.drew.cell? ⟨w.heap.size, 1, none⟩ = some (.slice A.h x.ho.length A.ch) ∧ wr.drew.cell? ⟨w.heap.size, 2, none⟩ = some (.slice A.o x.mo.length A.co) ∧ wr.drew.cell? ⟨B, 0, none⟩ = some (.string (Crn.dWord x)) ∧ wr.drew.cell? ⟨B + 1, 0, none⟩ = some (.string (Crn.wWord x))) ∧ Below w.heap.size w wr.drew := ⟨⟨x0, x1, x2, c1, c2⟩, hrD.be⟩
                            clear x0 x1 x2 x3 x4 x5 x6 x7 x8 x9 x10 c1 c2 hrD
                            have g1 : ¬ (9223372036854775807 < (Crn.word 60 x.mi).size + 1) := by omega
                            have g2 : ¬ (9223372036854775807 < (Crn.word 60 x.mi).size + 1 + (Crn.word 24 x.ho).size) := by omega
                            have g3 : ¬ (9223372036854775807 < (Crn.word 60 x.mi).size + 1 + (Crn.word 24 x.ho).size + 1) := by omega
                            have g4 : ¬ (9223372036854775807 < (Crn.word 60 x.mi).size + 1 + (Crn.word 24 x.ho).size + 1 + (Crn.dWord x).size) := by omega
                            have g5 : ¬ (9223372036854775807 < (Crn.word 60 x.mi).size + 1 + (Crn.word 24 x.ho).size + 1 + (Crn.dWord x).size + 1) := by omega
                            have g6 : ¬ (9223372036854775807 < (Crn.word 60 x.mi).size + 1 + (Crn.word 24 x.ho).size + 1 + (Crn.dWord x).size + 1 + (Crn.word 12 x.mo).size) := by omega
                            have g7 : ¬ (9223372036854775807 < (Crn.word 60 x.mi).size + 1 + (Crn.word 24 x.ho).size + 1 + (Crn.dWord x).size + 1 + (Crn.word 12 x.mo).size + 1) := by omega
                            have g8 : ¬ (9223372036854775807 < (Crn.word 60 x.mi).size + 1 + (Crn.word 24 x.ho).size + 1 + (Crn.dWord x).size + 1 + (Crn.word 12 x.mo).size + 1 + (Crn.wWord x).size) := by omega
                            skip
                            refine wp_region_noPanic ?_
                            refine wp_region_linGM (S := fun X => (X.cell? ⟨w.heap.size, 0, none⟩ = some (.slice A.m x.mi.length A.cm) ∧ X.cell? ⟨w.heap.size, 1, none⟩ = some (.slice A.h x.ho.length A.ch) ∧ X.cell? ⟨w.heap.size, 2, none⟩ = some (.slice A.o x.mo.length A.co) ∧ X.cell? ⟨B, 0, none⟩ = some (.string (Crn.dWord x)) ∧ X.cell? ⟨B + 1, 0, none⟩ = some (.string (Crn.wWord x))) ∧ Below w.heap.size w X) (R := fun _ => True) [] (by kernel_rfl) (by kernel_rfl) [(0, none, 1), (1, none, 1), (2, none, 0), (5, none, 1), (6, none, 1), (7, none, 0), (11, none, 0), (14, none, 1), (15, none, 1), (16, none, 0), (20, none, 0), (3, none, 2), (4, none, 1), (8, none, 2), (9, none, 1), (10, none, 1), (12, none, 1), (13, none, 1), (17, none, 2), (18, none, 1), (19, none, 1), (21, none, 1), (22, none, 1), (23, none, 1)] (by kernel_rfl) (by kernel_rfl) (fun _ _ _ _ _ h => h) (by exact trivial) (by exact hS) (fun ops' Q' hops hQ' => ?_)
                            refine wpLinG_pure (o := { dst := some 100, op := Go.Op.move (Go.Operand.tmp 5), type := 37, pos := "work.go:257", after := #[], guard := none }) (v := ?vq1000) (by rw [hops]; rfl) (by first | exact trivial | rfl) ?eq1000 ?hq1000
                            case eq1000 => intro w'; go_simp; (try rfl)
                            (try simp only [Act.put, List.setIfInBounds_toArray, List.set_cons_zero, List.set_cons_succ])
                            refine wpLinG_pure (o := { dst := some 101, op := Go.Op.fieldAddr 25 (Go.Operand.tmp 1) 0, type := 0, pos := "work.go:257", after := #[], guard := none }) (v := ?vq1001) (by rw [hops]; rfl) (by first | exact trivial | rfl) ?eq1001 ?hq1001
                            case eq1001 => intro w'; go_simp; (try rfl)
                            (try simp only [Act.put, List.setIfInBounds_toArray, List.set_cons_zero, List.set_cons_succ])
                            refine wpLinG_read (o := { dst := some 102, op := Go.Op.load 22 (Go.Operand.tmp 101), type := 22, pos := "work.go:257", after := #[{ on := 1, ground := Go.Ground.data }], guard := none }) (v := ?vq1002) (by rw [hops]; rfl) (by first | exact trivial | rfl) hS ?eq1002 ?hq1002
                            case eq1002 => intro w' hw'; obtain ⟨⟨e1, e2, e3, e4, e5⟩, _⟩ := hw'; go_simp; (try rfl)
                            (try simp only [Act.put, List.setIfInBounds_toArray, List.set_cons_zero, List.set_cons_succ])
                            refine wpLinG_pure (o := { dst := some 105, op := Go.Op.move (Go.Operand.tmp 5), type := 37, pos := "work.go:257", after := #[], guard := none }) (v := ?vq1003) (by rw [hops]; rfl) (by first | exact trivial | rfl) ?eq1003 ?hq1003
                            case eq1003 => intro w'; go_simp; (try rfl)
                            (try simp only [Act.put, List.setIfInBounds_toArray, List.set_cons_zero, List.set_cons_succ])
                            refine wpLinG_pure (o := { dst := some 106, op := Go.Op.fieldAddr 25 (Go.Operand.tmp 1) 1, type := 0, pos := "work.go:257", after := #[], guard := none }) (v := ?vq1004) (by rw [hops]; rfl) (by first | exact trivial | rfl) ?eq1004 ?hq1004
                            case eq1004 => intro w'; go_simp; (try rfl)
                            (try simp only [Act.put, List.setIfInBounds_toArray, List.set_cons_zero, List.set_cons_succ])
                            refine wpLinG_read (o := { dst := some 107, op := Go.Op.load 22 (Go.Operand.tmp 106), type := 22, pos := "work.go:257", after := #[{ on := 6, ground := Go.Ground.data }], guard := none }) (v := ?vq1005) (by rw [hops]; rfl) (by first | exact trivial | rfl) hS ?eq1005 ?hq1005
                            case eq1005 => intro w' hw'; obtain ⟨⟨e1, e2, e3, e4, e5⟩, _⟩ := hw'; go_simp; (try rfl)
                            (try simp only [Act.put, List.setIfInBounds_toArray, List.set_cons_zero, List.set_cons_succ])
                            refine wpLinG_read (o := { dst := some 111, op := Go.Op.load 9 (Go.Operand.tmp 6), type := 9, pos := "work.go:257", after := #[], guard := none }) (v := ?vq1006) (by rw [hops]; rfl) (by first | exact trivial | rfl) hS ?eq1006 ?hq1006
                            case eq1006 => intro w' hw'; obtain ⟨⟨e1, e2, e3, e4, e5⟩, _⟩ := hw'; go_simp; (try rfl)
                            (try simp only [Act.put, List.setIfInBounds_toArray, List.set_cons_zero, List.set_cons_succ])
                            refine wpLinG_pure (o := { dst := some 114, op := Go.Op.move (Go.Operand.tmp 5), type := 37, pos := "work.go:257", after := #[], guard := none }) (v := ?vq1007) (by rw [hops]; rfl) (by first | exact trivial | rfl) ?eq1007 ?hq1007
                            case eq1007 => intro w'; go_simp; (try rfl)
                            (try simp only [Act.put, List.setIfInBounds_toArray, List.set_cons_zero, List.set_cons_succ])
                            refine wpLinG_pure (o := { dst := some 115, op := Go.Op.fieldAddr 25 (Go.Operand.tmp 1) 2, type := 0, pos := "work.go:257", after := #[], guard := none }) (v := ?vq1008) (by rw [hops]; rfl) (by first | exact trivial | rfl) ?eq1008 ?hq1008
                            case eq1008 => intro w'; go_simp; (try rfl)
                            (try simp only [Act.put, List.setIfInBounds_toArray, List.set_cons_zero, List.set_cons_succ])
                            refine wpLinG_read (o := { dst := some 116, op := Go.Op.load 22 (Go.Operand.tmp 115), type := 22, pos := "work.go:257", after := #[{ on := 15, ground := Go.Ground.data }], guard := none }) (v := ?vq1009) (by rw [hops]; rfl) (by first | exact trivial | rfl) hS ?eq1009 ?hq1009
                            case eq1009 => intro w' hw'; obtain ⟨⟨e1, e2, e3, e4, e5⟩, _⟩ := hw'; go_simp; (try rfl)
                            (try simp only [Act.put, List.setIfInBounds_toArray, List.set_cons_zero, List.set_cons_succ])
                            refine wpLinG_read (o := { dst := some 120, op := Go.Op.load 9 (Go.Operand.tmp 7), type := 9, pos := "work.go:257", after := #[], guard := none }) (v := ?vq10010) (by rw [hops]; rfl) (by first | exact trivial | rfl) hS ?eq10010 ?hq10010
                            case eq10010 => intro w' hw'; obtain ⟨⟨e1, e2, e3, e4, e5⟩, _⟩ := hw'; go_simp; (try rfl)
                            (try simp only [Act.put, List.setIfInBounds_toArray, List.set_cons_zero, List.set_cons_succ])
                            refine wpLinG_do (o := { dst := some 103, op := Go.Op.call { callee := Go.Callee.value (Go.Operand.tmp 100), args := #[Go.Operand.tmp 102, Go.Operand.const (Go.Value.int Go.IntKind.i64 60)], argTypes := #[22, 3] }, type := 9, pos := "work.go:257", after := #[{ on := 0, ground := Go.Ground.data }, { on := 2, ground := Go.Ground.data }], guard := none }) (by rw [hops]; rfl) (by first | exact trivial | rfl) (fun K hK => ?_)
                            go_simp
                            refine (KM.out _ hS.2).mono ?_
                            rintro e Y1 ⟨rfl, hb⟩
                            replace hS := keep5 hS hb
                            clear hb
                            refine hK _ _ trivial hS ?_
                            clear hK K
                            (try simp only [Act.put, List.setIfInBounds_toArray, List.set_cons_zero, List.set_cons_succ])
                            refine wpLinG_pure (o := { dst := some 104, op := Go.Op.binOp Go.BinOp.add 9 (Go.Operand.tmp 103) (Go.Operand.const (Go.Value.string { data := #[32] })) 9, type := 9, pos := "work.go:257", after := #[{ on := 3, ground := Go.Ground.data }], guard := none }) (v := ?vq10012) (by rw [hops]; rfl) (by first | exact trivial | rfl) ?eq10012 ?hq10012
                            case eq10012 => intro w'; go_simp; (try rfl)
                            (try simp only [Act.put, List.setIfInBounds_toArray, List.set_cons_zero, List.set_cons_succ])
                            refine wpLinG_do (o := { dst := some 108, op := Go.Op.call { callee := Go.Callee.value (Go.Operand.tmp 105), args := #[Go.Operand.tmp 107, Go.Operand.const (Go.Value.int Go.IntKind.i64 24)], argTypes := #[22, 3] }, type := 9, pos := "work.go:257", after := #[{ on := 5, ground := Go.Ground.data }, { on := 7, ground := Go.Ground.data }, { on := 3, ground := Go.Ground.chain }], guard := none }) (by rw [hops]; rfl) (by first | exact trivial | rfl) (fun K hK => ?_)
                            go_simp
                            refine (KH.out _ hS.2).mono ?_
                            rintro e Y2 ⟨rfl, hb⟩
                            replace hS := keep5 hS hb
                            clear hb
                            refine hK _ _ trivial hS ?_
                            clear hK K
                            (try simp only [Act.put, List.setIfInBounds_toArray, List.set_cons_zero, List.set_cons_succ])
                            refine wpLinG_pure (o := { dst := some 109, op := Go.Op.binOp Go.BinOp.add 9 (Go.Operand.tmp 104) (Go.Operand.tmp 108) 9, type := 9, pos := "work.go:257", after := #[{ on := 4, ground := Go.Ground.data }, { on := 8, ground := Go.Ground.data }], guard := none }) (v := ?vq10014) (by rw [hops]; rfl) (by first | exact trivial | rfl) ?eq10014 ?hq10014
                            case eq10014 => intro w'; go_simp; (try rfl)
                            (try simp only [Act.put, List.setIfInBounds_toArray, List.set_cons_zero, List.set_cons_succ])
                            refine wpLinG_pure (o := { dst := some 110, op := Go.Op.binOp Go.BinOp.add 9 (Go.Operand.tmp 109) (Go.Operand.const (Go.Value.string { data := #[32] })) 9, type := 9, pos := "work.go:257", after := #[{ on := 9, ground := Go.Ground.data }], guard := none }) (v := ?vq10015) (by rw [hops]; rfl) (by first | exact trivial | rfl) ?eq10015 ?hq10015
                            case eq10015 => intro w'; go_simp; (try rfl)
                            (try simp only [Act.put, List.setIfInBounds_toArray, List.set_cons_zero, List.set_cons_succ])
                            refine wpLinG_pure (o := { dst := some 112, op := Go.Op.binOp Go.BinOp.add 9 (Go.Operand.tmp 110) (Go.Operand.tmp 111) 9, type := 9, pos := "work.go:257", after := #[{ on := 10, ground := Go.Ground.data }, { on := 11, ground := Go.Ground.data }], guard := none }) (v := ?vq10016) (by rw [hops]; rfl) (by first | exact trivial | rfl) ?eq10016 ?hq10016
                            case eq10016 => intro w'; go_simp; (try rfl)
                            (try simp only [Act.put, List.setIfInBounds_toArray, List.set_cons_zero, List.set_cons_succ])
                            refine wpLinG_pure (o := { dst := some 113, op := Go.Op.binOp Go.BinOp.add 9 (Go.Operand.tmp 112) (Go.Operand.const (Go.Value.string { data := #[32] })) 9, type := 9, pos := "work.go:257", after := #[{ on := 12, ground := Go.Ground.data }], guard := none }) (v := ?vq10017) (by rw [hops]; rfl) (by first | exact trivial | rfl) ?eq10017 ?hq10017
                            case eq10017 => intro w'; go_simp; (try rfl)
                            (try simp only [Act.put, List.setIfInBounds_toArray, List.set_cons_zero, List.set_cons_succ])
                            refine wpLinG_do (o := { dst := some 117, op := Go.Op.call { callee := Go.Callee.value (Go.Operand.tmp 114), args := #[Go.Operand.tmp 116, Go.Operand.const (Go.Value.int Go.IntKind.i64 12)], argTypes := #[22, 3] }, type := 9, pos := "work.go:257", after := #[{ on := 14, ground := Go.Ground.data }, { on := 16, ground := Go.Ground.data }, { on := 8, ground := Go.Ground.chain }], guard := none }) (by rw [hops]; rfl) (by first | exact trivial | rfl) (fun K hK => ?_)
                            go_simp
                            refine (KO.out _ hS.2).mono ?_
                            rintro e Y3 ⟨rfl, hb⟩
                            replace hS := keep5 hS hb
                            clear hb
                            refine hK _ _ trivial hS ?_
                            clear hK K
                            (try simp only [Act.put, List.setIfInBounds_toArray, List.set_cons_zero, List.set_cons_succ])
                            refine wpLinG_pure (o := { dst := some 118, op := Go.Op.binOp Go.BinOp.add 9 (Go.Operand.tmp 113) (Go.Operand.tmp 117) 9, type := 9, pos := "work.go:257", after := #[{ on := 13, ground := Go.Ground.data }, { on := 17, ground := Go.Ground.data }], guard := none }) (v := ?vq10019) (by rw [hops]; rfl) (by first | exact trivial | rfl) ?eq10019 ?hq10019
                            case eq10019 => intro w'; go_simp; (try rfl)
                            (try simp only [Act.put, List.setIfInBounds_toArray, List.set_cons_zero, List.set_cons_succ])
                            refine wpLinG_pure (o := { dst := some 119, op := Go.Op.binOp Go.BinOp.add 9 (Go.Operand.tmp 118) (Go.Operand.const (Go.Value.string { data := #[32] })) 9, type := 9, pos := "work.go:257", after := #[{ on := 18, ground := Go.Ground.data }], guard := none }) (v := ?vq10020) (by rw [hops]; rfl) (by first | exact trivial | rfl) ?eq10020 ?hq10020
                            case eq10020 => intro w'; go_simp; (try rfl)
                            (try simp only [Act.put, List.setIfInBounds_toArray, List.set_cons_zero, List.set_cons_succ])
                            refine wpLinG_pure (o := { dst := some 121, op := Go.Op.binOp Go.BinOp.add 9 (Go.Operand.tmp 119) (Go.Operand.tmp 120) 9, type := 9, pos := "work.go:257", after := #[{ on := 19, ground := Go.Ground.data }, { on := 20, ground := Go.Ground.data }], guard := none }) (v := ?vq10021) (by rw [hops]; rfl) (by first | exact trivial | rfl) ?eq10021 ?hq10021
                            case eq10021 => intro w'; go_simp; (try rfl)
                            (try simp only [Act.put, List.setIfInBounds_toArray, List.set_cons_zero, List.set_cons_succ])
                            refine wpLinG_pure (o := { dst := some 2, op := Go.Op.assign (Go.Operand.tmp 121), type := 9, pos := "work.go:257", after := #[{ on := 21, ground := Go.Ground.data }, { on := 17, ground := Go.Ground.chain }, { on := 0, ground := Go.Ground.phase }, { on := 1, ground := Go.Ground.phase }, { on := 2, ground := Go.Ground.phase }, { on := 3, ground := Go.Ground.phase }, { on := 4, ground := Go.Ground.phase }, { on := 5, ground := Go.Ground.phase }, { on := 6, ground := Go.Ground.phase }, { on := 7, ground := Go.Ground.phase }, { on := 8, ground := Go.Ground.phase }, { on := 9, ground := Go.Ground.phase }, { on := 10, ground := Go.Ground.phase }, { on := 11, ground := Go.Ground.phase }, { on := 12, ground := Go.Ground.phase }, { on := 13, ground := Go.Ground.phase }, { on := 14, ground := Go.Ground.phase }, { on := 15, ground := Go.Ground.phase }, { on := 16, ground := Go.Ground.phase }, { on := 17, ground := Go.Ground.phase }, { on := 18, ground := Go.Ground.phase }, { on := 19, ground := Go.Ground.phase }, { on := 20, ground := Go.Ground.phase }, { on := 21, ground := Go.Ground.phase }], guard := none }) (v := ?vq10022) (by rw [hops]; rfl) (by first | exact trivial | rfl) ?eq10022 ?hq10022
                            case eq10022 => intro w'; go_simp; (try rfl)
                            (try simp only [Act.put, List.setIfInBounds_toArray, List.set_cons_zero, List.set_cons_succ])
                            refine wpLinG_pure (o := { dst := some 3, op := Go.Op.assign (Go.Operand.const (Go.Value.int Go.IntKind.i64 0)), type := 26, pos := "work.go:257", after := #[{ on := 22, ground := Go.Ground.chain }, { on := 0, ground := Go.Ground.phase }, { on := 1, ground := Go.Ground.phase }, { on := 2, ground := Go.Ground.phase }, { on := 3, ground := Go.Ground.phase }, { on := 4, ground := Go.Ground.phase }, { on := 5, ground := Go.Ground.phase }, { on := 6, ground := Go.Ground.phase }, { on := 7, ground := Go.Ground.phase }, { on := 8, ground := Go.Ground.phase }, { on := 9, ground := Go.Ground.phase }, { on := 10, ground := Go.Ground.phase }, { on := 11, ground := Go.Ground.phase }, { on := 12, ground := Go.Ground.phase }, { on := 13, ground := Go.Ground.phase }, { on := 14, ground := Go.Ground.phase }, { on := 15, ground := Go.Ground.phase }, { on := 16, ground := Go.Ground.phase }, { on := 17, ground := Go.Ground.phase }, { on := 18, ground := Go.Ground.phase }, { on := 19, ground := Go.Ground.phase }, { on := 20, ground := Go.Ground.phase }, { on := 21, ground := Go.Ground.phase }, { on := 22, ground := Go.Ground.phase }], guard := none }) (v := ?vq10023) (by rw [hops]; rfl) (by first | exact trivial | rfl) ?eq10023 ?hq10023
                            case eq10023 => intro w'; go_simp; (try rfl)
                            (try simp only [Act.put, List.setIfInBounds_toArray, List.set_cons_zero, List.set_cons_succ])
                            subst hQ'
                            refine NoPanic.normal ?_
                            clear hops
                            go_wp2
                            go_ret2
                            exact ⟨by rw [HT.out]; rfl, hS.2⟩
                          · have hV : Crn.wWord x = Crn.star := by rw [HWW.out, hanyw]; rfl
                            rw [hanyw] at x7
                            clear hanyw
                            have hf1 := hr.v.frozen
                            have hr2 := hr.add2 (hr.v.set (.string ⟨#[42]⟩)) ((Upd.refl (B + 1) wr).setCell (.string ⟨#[42]⟩))
                            have hr3 : RT w A x B (B + 1) (Crn.dWord x) (Crn.wWord x) (wr.setCell ⟨B + 1, 0, none⟩ (.string ⟨#[42]⟩)) := by rw [hV]; exact hr2
                            clear hr2 hV
                            have hcb := hr.v.cell
                            have HR3 := hide hr3
                            clear hr3 hr
                            go_upto_region 38 with fail
                            obtain ⟨W6, hW6⟩ : ∃ W6, wr.setCell ⟨B + 1, 0, none⟩ (.string ⟨#[42]⟩) = W6 := ⟨_, rfl⟩
                            rw [hW6] at HR3 ⊢
                            clear hW6 hcb hf1
                            clear x0 x1 x2 x3 x4 x5 x6 x7 x8 x9 x10
                            have hr := HR3.out
                            clear HR3
                            have hrD := hr.later (Below.refl _ W6).drew
                            clear hr
                            obtain ⟨x0, x1, x2, x3, x4, x5, x6, x7, x8, x9, x10⟩ := hrD.bx.cells
                            have c1 := hrD.d.cell
                            have c2 := hrD.v.cell
                            have hS : (W6.drew.cell? ⟨w.heap.size, 0, none⟩ = some (.slice A.m x.mi.length A.cm) ∧ W6.drew.cell? ⟨w.heap.size, 1, none⟩ = some (.slice A.h x.ho.length A.ch) ∧ W6.drew.cell? ⟨w.heap.size, 2, none⟩ = some (.slice A.o x.mo.length A.co) ∧ W6.drew.cell? ⟨B, 0, none⟩ = some (.string (Crn.dWord x)) ∧ W6.drew.cell? ⟨B + 1, 0, none⟩ = some (.string (Crn.wWord x))) ∧ Below w.heap.size w W6.drew := ⟨⟨x0, x1, x2, c1, c2⟩, hrD.be⟩
                            clear x0 x1 x2 x3 x4 x5 x6 x7 x8 x9 x10 c1 c2 hrD
                            have g1 : ¬ (9223372036854775807 < (Crn.word 60 x.mi).size + 1) := by omega
                            have g2 : ¬ (9223372036854775807 < (Crn.word 60 x.mi).size + 1 + (Crn.word 24 x.ho).size) := by omega
                            have g3 : ¬ (9223372036854775807 < (Crn.word 60 x.mi).size + 1 + (Crn.word 24 x.ho).size + 1) := by omega
                            have g4 : ¬ (9223372036854775807 < (Crn.word 60 x.mi).size + 1 + (Crn.word 24 x.ho).size + 1 + (Crn.dWord x).size) := by omega
                            have g5 : ¬ (9223372036854775807 < (Crn.word 60 x.mi).size + 1 + (Crn.word 24 x.ho).size + 1 + (Crn.dWord x).size + 1) := by omega
                            have g6 : ¬ (9223372036854775807 < (Crn.word 60 x.mi).size + 1 + (Crn.word 24 x.ho).size + 1 + (Crn.dWord x).size + 1 + (Crn.word 12 x.mo).size) := by omega
                            have g7 : ¬ (9223372036854775807 < (Crn.word 60 x.mi).size + 1 + (Crn.word 24 x.ho).size + 1 + (Crn.dWord x).size + 1 + (Crn.word 12 x.mo).size + 1) := by omega
                            have g8 : ¬ (9223372036854775807 < (Crn.word 60 x.mi).size + 1 + (Crn.word 24 x.ho).size + 1 + (Crn.dWord x).size + 1 + (Crn.word 12 x.mo).size + 1 + (Crn.wWord x).size) := by omega
                            skip
                            refine wp_region_noPanic ?_
                            refine wp_region_linGM (S := fun X => (X.cell? ⟨w.heap.size, 0, none⟩ = some (.slice A.m x.mi.length A.cm) ∧ X.cell? ⟨w.heap.size, 1, none⟩ = some (.slice A.h x.ho.length A.ch) ∧ X.cell? ⟨w.heap.size, 2, none⟩ = some (.slice A.o x.mo.length A.co) ∧ X.cell? ⟨B, 0, none⟩ = some (.string (Crn.dWord x)) ∧ X.cell? ⟨B + 1, 0, none⟩ = some (.string (Crn.wWord x))) ∧ Below w.heap.size w X) (R := fun _ => True) [] (by kernel_rfl) (by kernel_rfl) [(0, none, 1), (1, none, 1), (2, none, 0), (5, none, 1), (6, none, 1), (7, none, 0), (11, none, 0), (14, none, 1), (15, none, 1), (16, none, 0), (20, none, 0), (3, none, 2), (4, none, 1), (8, none, 2), (9, none, 1), (10, none, 1), (12, none, 1), (13, none, 1), (17, none, 2), (18, none, 1), (19, none, 1), (21, none, 1), (22, none, 1), (23, none, 1)] (by kernel_rfl) (by kernel_rfl) (fun _ _ _ _ _ h => h) (by exact trivial) (by exact hS) (fun ops' Q' hops hQ' => ?_)
                            refine wpLinG_pure (o := { dst := some 100, op := Go.Op.move (Go.Operand.tmp 5), type := 37, pos := "work.go:257", after := #[], guard := none }) (v := ?vq1010) (by rw [hops]; rfl) (by first | exact trivial | rfl) ?eq1010 ?hq1010
                            case eq1010 => intro w'; go_simp; (try rfl)
                            (try simp only [Act.put, List.setIfInBounds_toArray, List.set_cons_zero, List.set_cons_succ])
                            refine wpLinG_pure (o := { dst := some 101, op := Go.Op.fieldAddr 25 (Go.Operand.tmp 1) 0, type := 0, pos := "work.go:257", after := #[], guard := none }) (v := ?vq1011) (by rw [hops]; rfl) (by first | exact trivial | rfl) ?eq1011 ?hq1011
                            case eq1011 => intro w'; go_simp; (try rfl)
                            (try simp only [Act.put, List.setIfInBounds_toArray, List.set_cons_zero, List.set_cons_succ])
                            refine wpLinG_read (o := { dst := some 102, op := Go.Op.load 22 (Go.Operand.tmp 101), type := 22, pos := "work.go:257", after := #[{ on := 1, ground := Go.Ground.data }], guard := none }) (v := ?vq1012) (by rw [hops]; rfl) (by first | exact trivial | rfl) hS ?eq1012 ?hq1012
                            case eq1012 => intro w' hw'; obtain ⟨⟨e1, e2, e3, e4, e5⟩, _⟩ := hw'; go_simp; (try rfl)
                            (try simp only [Act.put, List.setIfInBounds_toArray, List.set_cons_zero, List.set_cons_succ])
                            refine wpLinG_pure (o := { dst := some 105, op := Go.Op.move (Go.Operand.tmp 5), type := 37, pos := "work.go:257", after := #[], guard := none }) (v := ?vq1013) (by rw [hops]; rfl) (by first | exact trivial | rfl) ?eq1013 ?hq1013
                            case eq1013 => intro w'; go_simp; (try rfl)
                            (try simp only [Act.put, List.setIfInBounds_toArray, List.set_cons_zero, List.set_cons_succ])
                            refine wpLinG_pure (o := { dst := some 106, op := Go.Op.fieldAddr 25 (Go.Operand.tmp 1) 1, type := 0, pos := "work.go:257", after := #[], guard := none }) (v := ?vq1014) (by rw [hops]; rfl) (by first | exact trivial | rfl) ?eq1014 ?hq1014
                            case eq1014 => intro w'; go_simp; (try rfl)
                            (try simp only [Act.put, List.setIfInBounds_toArray, List.set_cons_zero, List.set_cons_succ])
                            refine wpLinG_read (o := { dst := some 107, op := Go.Op.load 22 (Go.Operand.tmp 106), type := 22, pos := "work.go:257", after := #[{ on := 6, ground := Go.Ground.data }], guard := none }) (v := ?vq1015) (by rw [hops]; rfl) (by first | exact trivial | rfl) hS ?eq1015 ?hq1015
                            case eq1015 => intro w' hw'; obtain ⟨⟨e1, e2, e3, e4, e5⟩, _⟩ := hw'; go_simp; (try rfl)
                            (try simp only [Act.put, List.setIfInBounds_toArray, List.set_cons_zero, List.set_cons_succ])
                            refine wpLinG_read (o := { dst := some 111, op := Go.Op.load 9 (Go.Operand.tmp 6), type := 9, pos := "work.go:257", after := #[], guard := none }) (v := ?vq1016) (by rw [hops]; rfl) (by first | exact trivial | rfl) hS ?eq1016 ?hq1016
                            case eq1016 => intro w' hw'; obtain ⟨⟨e1, e2, e3, e4, e5⟩, _⟩ := hw'; go_simp; (try rfl)
                            (try simp only [Act.put, List.setIfInBounds_toArray, List.set_cons_zero, List.set_cons_succ])
                            refine wpLinG_pure (o := { dst := some 114, op := Go.Op.move (Go.Operand.tmp 5), type := 37, pos := "work.go:257", after := #[], guard := none }) (v := ?vq1017) (by rw [hops]; rfl) (by first | exact trivial | rfl) ?eq1017 ?hq1017
                            case eq1017 => intro w'; go_simp; (try rfl)
                            (try simp only [Act.put, List.setIfInBounds_toArray, List.set_cons_zero, List.set_cons_succ])
                            refine wpLinG_pure (o := { dst := some 115, op := Go.Op.fieldAddr 25 (Go.Operand.tmp 1) 2, type := 0, pos := "work.go:257", after := #[], guard := none }) (v := ?vq1018) (by rw [hops]; rfl) (by first | exact trivial | rfl) ?eq1018 ?hq1018
                            case eq1018 => intro w'; go_simp; (try rfl)
                            (try simp only [Act.put, List.setIfInBounds_toArray, List.set_cons_zero, List.set_cons_succ])
                            refine wpLinG_read (o := { dst := some 116, op := Go.Op.load 22 (Go.Operand.tmp 115), type := 22, pos := "work.go:257", after := #[{ on := 15, ground := Go.Ground.data }], guard := none }) (v := ?vq1019) (by rw [hops]; rfl) (by first | exact trivial | rfl) hS ?eq1019 ?hq1019
                            case eq1019 => intro w' hw'; obtain ⟨⟨e1, e2, e3, e4, e5⟩, _⟩ := hw'; go_simp; (try rfl)
                            (try simp only [Act.put, List.setIfInBounds_toArray, List.set_cons_zero, List.set_cons_succ])
                            refine wpLinG_read (o := { dst := some 120, op := Go.Op.load 9 (Go.Operand.tmp 7), type := 9, pos := "work.go:257", after := #[], guard := none }) (v := ?vq10110) (by rw [hops]; rfl) (by first | exact trivial | rfl) hS ?eq10110 ?hq10110
                            case eq10110 => intro w' hw'; obtain ⟨⟨e1, e2, e3, e4, e5⟩, _⟩ := hw'; go_simp; (try rfl)
                            (try simp only [Act.put, List.setIfInBounds_toArray, List.set_cons_zero, List.set_cons_succ])
                            refine wpLinG_do (o := { dst := some 103, op := Go.Op.call { callee := Go.Callee.value (Go.Operand.tmp 100), args := #[Go.Operand.tmp 102, Go.Operand.const (Go.Value.int Go.IntKind.i64 60)], argTypes := #[22, 3] }, type := 9, pos := "work.go:257", after := #[{ on := 0, ground := Go.Ground.data }, { on := 2, ground := Go.Ground.data }], guard := none }) (by rw [hops]; rfl) (by first | exact trivial | rfl) (fun K hK => ?_)
                            go_simp
                            refine (KM.out _ hS.2).mono ?_
                            rintro e Y1 ⟨rfl, hb⟩
                            replace hS := keep5 hS hb
                            clear hb
                            refine hK _ _ trivial hS ?_
                            clear hK K
                            (try simp only [Act.put, List.setIfInBounds_toArray, List.set_cons_zero, List.set_cons_succ])
                            refine wpLinG_pure (o := { dst := some 104, op := Go.Op.binOp Go.BinOp.add 9 (Go.Operand.tmp 103) (Go.Operand.const (Go.Value.string { data := #[32] })) 9, type := 9, pos := "work.go:257", after := #[{ on := 3, ground := Go.Ground.data }], guard := none }) (v := ?vq10112) (by rw [hops]; rfl) (by first | exact trivial | rfl) ?eq10112 ?hq10112
                            case eq10112 => intro w'; go_simp; (try rfl)
                            (try simp only [Act.put, List.setIfInBounds_toArray, List.set_cons_zero, List.set_cons_succ])
                            refine wpLinG_do (o := { dst := some 108, op := Go.Op.call { callee := Go.Callee.value (Go.Operand.tmp 105), args := #[Go.Operand.tmp 107, Go.Operand.const (Go.Value.int Go.IntKind.i64 24)], argTypes := #[22, 3] }, type := 9, pos := "work.go:257", after := #[{ on := 5, ground := Go.Ground.data }, { on := 7, ground := Go.Ground.data }, { on := 3, ground := Go.Ground.chain }], guard := none }) (by rw [hops]; rfl) (by first | exact trivial | rfl) (fun K hK => ?_)
                            go_simp
                            refine (KH.out _ hS.2).mono ?_
                            rintro e Y2 ⟨rfl, hb⟩
                            replace hS := keep5 hS hb
                            clear hb
                            refine hK _ _ trivial hS ?_
                            clear hK K
                            (try simp only [Act.put, List.setIfInBounds_toArray, List.set_cons_zero, List.set_cons_succ])
                            refine wpLinG_pure (o := { dst := some 109, op := Go.Op.binOp Go.BinOp.add 9 (Go.Operand.tmp 104) (Go.Operand.tmp 108) 9, type := 9, pos := "work.go:257", after := #[{ on := 4, ground := Go.Ground.data }, { on := 8, ground := Go.Ground.data }], guard := none }) (v := ?vq10114) (by rw [hops]; rfl) (by first | exact trivial | rfl) ?eq10114 ?hq10114
                            case eq10114 => intro w'; go_simp; (try rfl)
                            (try simp only [Act.put, List.setIfInBounds_toArray, List.set_cons_zero, List.set_cons_succ])
                            refine wpLinG_pure (o := { dst := some 110, op := Go.Op.binOp Go.BinOp.add 9 (Go.Operand.tmp 109) (Go.Operand.const (Go.Value.string { data := #[32] })) 9, type := 9, pos := "work.go:257", after := #[{ on := 9, ground := Go.Ground.data }], guard := none }) (v := ?vq10115) (by rw [hops]; rfl) (by first | exact trivial | rfl) ?eq10115 ?hq10115
                            case eq10115 => intro w'; go_simp; (try rfl)
                            (try simp only [Act.put, List.setIfInBounds_toArray, List.set_cons_zero, List.set_cons_succ])
                            refine wpLinG_pure (o := { dst := some 112, op := Go.Op.binOp Go.BinOp.add 9 (Go.Operand.tmp 110) (Go.Operand.tmp 111) 9, type := 9, pos := "work.go:257", after := #[{ on := 10, ground := Go.Ground.data }, { on := 11, ground := Go.Ground.data }], guard := none }) (v := ?vq10116) (by rw [hops]; rfl) (by first | exact trivial | rfl) ?eq10116 ?hq10116
                            case eq10116 => intro w'; go_simp; (try rfl)
                            (try simp only [Act.put, List.setIfInBounds_toArray, List.set_cons_zero, List.set_cons_succ])
                            refine wpLinG_pure (o := { dst := some 113, op := Go.Op.binOp Go.BinOp.add 9 (Go.Operand.tmp 112) (Go.Operand.const (Go.Value.string { data := #[32] })) 9, type := 9, pos := "work.go:257", after := #[{ on := 12, ground := Go.Ground.data }], guard := none }) (v := ?vq10117) (by rw [hops]; rfl) (by first | exact trivial | rfl) ?eq10117 ?hq10117
                            case eq10117 => intro w'; go_simp; (try rfl)
                            (try simp only [Act.put, List.setIfInBounds_toArray, List.set_cons_zero, List.set_cons_succ])
                            refine wpLinG_do (o := { dst := some 117, op := Go.Op.call { callee := Go.Callee.value (Go.Operand.tmp 114), args := #[Go.Operand.tmp 116, Go.Operand.const (Go.Value.int Go.IntKind.i64 12)], argTypes := #[22, 3] }, type := 9, pos := "work.go:257", after := #[{ on := 14, ground := Go.Ground.data }, { on := 16, ground := Go.Ground.data }, { on := 8, ground := Go.Ground.chain }], guard := none }) (by rw [hops]; rfl) (by first | exact trivial | rfl) (fun K hK => ?_)
                            go_simp
                            refine (KO.out _ hS.2).mono ?_
                            rintro e Y3 ⟨rfl, hb⟩
                            replace hS := keep5 hS hb
                            clear hb
                            refine hK _ _ trivial hS ?_
                            clear hK K
                            (try simp only [Act.put, List.setIfInBounds_toArray, List.set_cons_zero, List.set_cons_succ])
                            refine wpLinG_pure (o := { dst := some 118, op := Go.Op.binOp Go.BinOp.add 9 (Go.Operand.tmp 113) (Go.Operand.tmp 117) 9, type := 9, pos := "work.go:257", after := #[{ on := 13, ground := Go.Ground.data }, { on := 17, ground := Go.Ground.data }], guard := none }) (v := ?vq10119) (by rw [hops]; rfl) (by first | exact trivial | rfl) ?eq10119 ?hq10119
                            case eq10119 => intro w'; go_simp; (try rfl)
                            (try simp only [Act.put, List.setIfInBounds_toArray, List.set_cons_zero, List.set_cons_succ])
                            refine wpLinG_pure (o := { dst := some 119, op := Go.Op.binOp Go.BinOp.add 9 (Go.Operand.tmp 118) (Go.Operand.const (Go.Value.string { data := #[32] })) 9, type := 9, pos := "work.go:257", after := #[{ on := 18, ground := Go.Ground.data }], guard := none }) (v := ?vq10120) (by rw [hops]; rfl) (by first | exact trivial | rfl) ?eq10120 ?hq10120
                            case eq10120 => intro w'; go_simp; (try rfl)
                            (try simp only [Act.put, List.setIfInBounds_toArray, List.set_cons_zero, List.set_cons_succ])
                            refine wpLinG_pure (o := { dst := some 121, op := Go.Op.binOp Go.BinOp.add 9 (Go.Operand.tmp 119) (Go.Operand.tmp 120) 9, type := 9, pos := "work.go:257", after := #[{ on := 19, ground := Go.Ground.data }, { on := 20, ground := Go.Ground.data }], guard := none }) (v := ?vq10121) (by rw [hops]; rfl) (by first | exact trivial | rfl) ?eq10121 ?hq10121
                            case eq10121 => intro w'; go_simp; (try rfl)
                            (try simp only [Act.put, List.setIfInBounds_toArray, List.set_cons_zero, List.set_cons_succ])
                            refine wpLinG_pure (o := { dst := some 2, op := Go.Op.assign (Go.Operand.tmp 121), type := 9, pos := "work.go:257", after := #[{ on := 21, ground := Go.Ground.data }, { on := 17, ground := Go.Ground.chain }, { on := 0, ground := Go.Ground.phase }, { on := 1, ground := Go.Ground.phase }, { on := 2, ground := Go.Ground.phase }, { on := 3, ground := Go.Ground.phase }, { on := 4, ground := Go.Ground.phase }, { on := 5, ground := Go.Ground.phase }, { on := 6, ground := Go.Ground.phase }, { on := 7, ground := Go.Ground.phase }, { on := 8, ground := Go.Ground.phase }, { on := 9, ground := Go.Ground.phase }, { on := 10, ground := Go.Ground.phase }, { on := 11, ground := Go.Ground.phase }, { on := 12, ground := Go.Ground.phase }, { on := 13, ground := Go.Ground.phase }, { on := 14, ground := Go.Ground.phase }, { on := 15, ground := Go.Ground.phase }, { on := 16, ground := Go.Ground.phase }, { on := 17, ground := Go.Ground.phase }, { on := 18, ground := Go.Ground.phase }, { on := 19, ground := Go.Ground.phase }, { on := 20, ground := Go.Ground.phase }, { on := 21, ground := Go.Ground.phase }], guard := none }) (v := ?vq10122) (by rw [hops]; rfl) (by first | exact trivial | rfl) ?eq10122 ?hq10122
                            case eq10122 => intro w'; go_simp; (try rfl)
                            (try simp only [Act.put, List.setIfInBounds_toArray, List.set_cons_zero, List.set_cons_succ])
                            refine wpLinG_pure (o := { dst := some 3, op := Go.Op.assign (Go.Operand.const (Go.Value.int Go.IntKind.i64 0)), type := 26, pos := "work.go:257", after := #[{ on := 22, ground := Go.Ground.chain }, { on := 0, ground := Go.Ground.phase }, { on := 1, ground := Go.Ground.phase }, { on := 2, ground := Go.Ground.phase }, { on := 3, ground := Go.Ground.phase }, { on := 4, ground := Go.Ground.phase }, { on := 5, ground := Go.Ground.phase }, { on := 6, ground := Go.Ground.phase }, { on := 7, ground := Go.Ground.phase }, { on := 8, ground := Go.Ground.phase }, { on := 9, ground := Go.Ground.phase }, { on := 10, ground := Go.Ground.phase }, { on := 11, ground := Go.Ground.phase }, { on := 12, ground := Go.Ground.phase }, { on := 13, ground := Go.Ground.phase }, { on := 14, ground := Go.Ground.phase }, { on := 15, ground := Go.Ground.phase }, { on := 16, ground := Go.Ground.phase }, { on := 17, ground := Go.Ground.phase }, { on := 18, ground := Go.Ground.phase }, { on := 19, ground := Go.Ground.phase }, { on := 20, ground := Go.Ground.phase }, { on := 21, ground := Go.Ground.phase }, { on := 22, ground := Go.Ground.phase }], guard := none }) (v := ?vq10123) (by rw [hops]; rfl) (by first | exact trivial | rfl) ?eq10123 ?hq10123
                            case eq10123 => intro w'; go_simp; (try rfl)
                            (try simp only [Act.put, List.setIfInBounds_toArray, List.set_cons_zero, List.set_cons_succ])
                            subst hQ'
                            refine NoPanic.normal ?_
                            clear hops
                            go_wp2
                            go_ret2
                            exact ⟨by rw [HT.out]; rfl, hS.2⟩
                        · have hD : Crn.dWord x = Crn.star := by rw [HDW.out, hany]; rfl
                          rw [hany] at x3
                          clear hany
                          have hf1 := hr.d.frozen
                          have hr2 := hr.add1 (hr.d.set (.string ⟨#[42]⟩)) ((Upd.refl B wr).setCell (.string ⟨#[42]⟩))
                          have hr3 : RT w A x B (B + 1) (Crn.dWord x) (Crn.joinB (Crn.wItems x)) (wr.setCell ⟨B, 0, none⟩ (.string ⟨#[42]⟩)) := by rw [hD]; exact hr2
                          clear hr2 hD
                          have hcb := hr.d.cell
                          have HR3 := hide hr3
                          clear hr3 hr
                          go_upto_region 36 with fail
                          obtain ⟨W5, hW5⟩ : ∃ W5, wr.setCell ⟨B, 0, none⟩ (.string ⟨#[42]⟩) = W5 := ⟨_, rfl⟩
                          rw [hW5] at HR3 ⊢
                          clear hW5 hcb hf1
                          clear x0 x1 x2 x3 x4 x5 x6 x7 x8 x9 x10
                          have hr := HR3.out
                          clear HR3
                          have xc := hr.bx.cells
                          obtain ⟨x0, x1, x2, x3, x4, x5, x6, x7, x8, x9, x10⟩ := xc
                          cases hanyw : x.anyW
                          · have hV : Crn.wWord x = Crn.joinB (Crn.wItems x) := by rw [HWW.out, hanyw]; rfl
                            rw [hanyw] at x7
                            clear hanyw
                            rw [← hV] at hr
                            clear hV
                            go_upto_region 38 with fail
                            clear x0 x1 x2 x3 x4 x5 x6 x7 x8 x9 x10
                            have hrD := hr.later (Below.refl _ W5).drew
                            clear hr
                            obtain ⟨x0, x1, x2, x3, x4, x5, x6, x7, x8, x9, x10⟩ := hrD.bx.cells
                            have c1 := hrD.d.cell
                            have c2 := hrD.v.cell
                            have hS : (W5.drew.cell? ⟨w.heap.size, 0, none⟩ = some (.slice A.m x.mi.length A.cm) ∧ W5.drew.cell? ⟨w.heap.size, 1, none⟩ = some (.slice A.h x.ho.length A.ch) ∧ W5.drew.cell? ⟨w.heap.size, 2, none⟩ = some (.slice A.o x.mo.length A.co) ∧ W5.drew.cell? ⟨B, 0, none⟩ = some (.string (Crn.dWord x)) ∧ W5.drew.cell? ⟨B + 1, 0, none⟩ = some (.string (Crn.wWord x))) ∧ Below w.heap.size w W5.drew := ⟨⟨x0, x1, x2, c1, c2⟩, hrD.be⟩
                            clear x0 x1 x2 x3 x4 x5 x6 x7 x8 x9 x10 c1 c2 hrD
                            have g1 : ¬ (9223372036854775807 < (Crn.word 60 x.mi).size + 1) := by omega
                            have g2 : ¬ (9223372036854775807 < (Crn.word 60 x.mi).size + 1 + (Crn.word 24 x.ho).size) := by omega
                            have g3 : ¬ (9223372036854775807 < (Crn.word 60 x.mi).size + 1 + (Crn.word 24 x.ho).size + 1) := by omega
                            have g4 : ¬ (9223372036854775807 < (Crn.word 60 x.mi).size + 1 + (Crn.word 24 x.ho).size + 1 + (Crn.dWord x).size) := by omega
                            have g5 : ¬ (9223372036854775807 < (Crn.word 60 x.mi).size + 1 + (Crn.word 24 x.ho).size + 1 + (Crn.dWord x).size + 1) := by omega
                            have g6 : ¬ (9223372036854775807 < (Crn.word 60 x.mi).size + 1 + (Crn.word 24 x.ho).size + 1 + (Crn.dWord x).size + 1 + (Crn.word 12 x.mo).size) := by omega
                            have g7 : ¬ (9223372036854775807 < (Crn.word 60 x.mi).size + 1 + (Crn.word 24 x.ho).size + 1 + (Crn.dWord x).size + 1 + (Crn.word 12 x.mo).size + 1) := by omega
                            have g8 : ¬ (9223372036854775807 < (Crn.word 60 x.mi).size + 1 + (Crn.word 24 x.ho).size + 1 + (Crn.dWord x).size + 1 + (Crn.word 12 x.mo).size + 1 + (Crn.wWord x).size) := by omega
                            skip
                            refine wp_region_noPanic ?_
                            refine wp_region_linGM (S := fun X => (X.cell? ⟨w.heap.size, 0, none⟩ = some (.slice A.m x.mi.length A.cm) ∧ X.cell? ⟨w.heap.size, 1, none⟩ = some (.slice A.h x.ho.length A.ch) ∧ X.cell? ⟨w.heap.size, 2, none⟩ = some (.slice A.o x.mo.length A.co) ∧ X.cell? ⟨B, 0, none⟩ = some (.string (Crn.dWord x)) ∧ X.cell? ⟨B + 1, 0, none⟩ = some (.string (Crn.wWord x))) ∧ Below w.heap.size w X) (R := fun _ => True) [] (by kernel_rfl) (by kernel_rfl) [(0, none, 1), (1, none, 1), (2, none, 0), (5, none, 1), (6, none, 1), (7, none, 0), (11, none, 0), (14, none, 1), (15, none, 1), (16, none, 0), (20, none, 0), (3, none, 2), (4, none, 1), (8, none, 2), (9, none, 1), (10, none, 1), (12, none, 1), (13, none, 1), (17, none, 2), (18, none, 1), (19, none, 1), (21, none, 1), (22, none, 1), (23, none, 1)] (by kernel_rfl) (by kernel_rfl) (fun _ _ _ _ _ h => h) (by exact trivial) (by exact hS) (fun ops' Q' hops hQ' => ?_)
                            refine wpLinG_pure (o := { dst := some 100, op := Go.Op.move (Go.Operand.tmp 5), type := 37, pos := "work.go:257", after := #[], guard := none }) (v := ?vq1100) (by rw [hops]; rfl) (by first | exact trivial | rfl) ?eq1100 ?hq1100
                            case eq1100 => intro w'; go_simp; (try rfl)
                            (try simp only [Act.put, List.setIfInBounds_toArray, List.set_cons_zero, List.set_cons_succ])
                            refine wpLinG_pure (o := { dst := some 101, op := Go.Op.fieldAddr 25 (Go.Operand.tmp 1) 0, type := 0, pos := "work.go:257", after := #[], guard := none }) (v := ?vq1101) (by rw [hops]; rfl) (by first | exact trivial | rfl) ?eq1101 ?hq1101
                            case eq1101 => intro w'; go_simp; (try rfl)
                            (try simp only [Act.put, List.setIfInBounds_toArray, List.set_cons_zero, List.set_cons_succ])
                            refine wpLinG_read (o := { dst := some 102, op := Go.Op.load 22 (Go.Operand.tmp 101), type := 22, pos := "work.go:257", after := #[{ on := 1, ground := Go.Ground.data }], guard := none }) (v := ?vq1102) (by rw [hops]; rfl) (by first | exact trivial | rfl) hS ?eq1102 ?hq1102
                            case eq1102 => intro w' hw'; obtain ⟨⟨e1, e2, e3, e4, e5⟩, _⟩ := hw'; go_simp; (try rfl)
                            (try simp only [Act.put, List.setIfInBounds_toArray, List.set_cons_zero, List.set_cons_succ])
                            refine wpLinG_pure (o := { dst := some 105, op := Go.Op.move (Go.Operand.tmp 5), type := 37, pos := "work.go:257", after := #[], guard := none }) (v := ?vq1103) (by rw [hops]; rfl) (by first | exact trivial | rfl) ?eq1103 ?hq1103
                            case eq1103 => intro w'; go_simp; (try rfl)
                            (try simp only [Act.put, List.setIfInBounds_toArray, List.set_cons_zero, List.set_cons_succ])
                            refine wpLinG_pure (o := { dst := some 106, op := Go.Op.fieldAddr 25 (Go.Operand.tmp 1) 1, type := 0, pos := "work.go:257", after := #[], guard := none }) (v := ?vq1104) (by rw [hops]; rfl) (by first | exact trivial | rfl) ?eq1104 ?hq1104
                            case eq1104 => intro w'; go_simp; (try rfl)
                            (try simp only [Act.put, List.setIfInBounds_toArray, List.set_cons_zero, List.set_cons_succ])
                            refine wpLinG_read (o := { dst := some 107, op := Go.Op.load 22 (Go.Operand.tmp 106), type := 22, pos := "work.go:257", after := #[{ on := 6, ground := Go.Ground.data }], guard := none }) (v := ?vq1105) (by rw [hops]; rfl) (by first | exact trivial | rfl) hS ?eq1105 ?hq1105
                            case eq1105 => intro w' hw'; obtain ⟨⟨e1, e2, e3, e4, e5⟩, _⟩ := hw'; go_simp; (try rfl)
                            (try simp only [Act.put, List.setIfInBounds_toArray, List.set_cons_zero, List.set_cons_succ])
                            refine wpLinG_read (o := { dst := some 111, op := Go.Op.load 9 (Go.Operand.tmp 6), type := 9, pos := "work.go:257", after := #[], guard := none }) (v := ?vq1106) (by rw [hops]; rfl) (by first | exact trivial | rfl) hS ?eq1106 ?hq1106
                            case eq1106 => intro w' hw'; obtain ⟨⟨e1, e2, e3, e4, e5⟩, _⟩ := hw'; go_simp; (try rfl)
                            (try simp only [Act.put, List.setIfInBounds_toArray, List.set_cons_zero, List.set_cons_succ])
                            refine wpLinG_pure (o := { dst := some 114, op := Go.Op.move (Go.Operand.tmp 5), type := 37, pos := "work.go:257", after := #[], guard := none }) (v := ?vq1107) (by rw [hops]; rfl) (by first | exact trivial | rfl) ?eq1107 ?hq1107
                            case eq1107 => intro w'; go_simp; (try rfl)
                            (try simp only [Act.put, List.setIfInBounds_toArray, List.set_cons_zero, List.set_cons_succ])
                            refine wpLinG_pure (o := { dst := some 115, op := Go.Op.fieldAddr 25 (Go.Operand.tmp 1) 2, type := 0, pos := "work.go:257", after := #[], guard := none }) (v := ?vq1108) (by rw [hops]; rfl) (by first | exact trivial | rfl) ?eq1108 ?hq1108
                            case eq1108 => intro w'; go_simp; (try rfl)
                            (try simp only [Act.put, List.setIfInBounds_toArray, List.set_cons_zero, List.set_cons_succ])
                            refine wpLinG_read (o := { dst := some 116, op := Go.Op.load 22 (Go.Operand.tmp 115), type := 22, pos := "work.go:257", after := #[{ on := 15, ground := Go.Ground.data }], guard := none }) (v := ?vq1109) (by rw [hops]; rfl) (by first | exact trivial | rfl) hS ?eq1109 ?hq1109
                            case eq1109 => intro w' hw'; obtain ⟨⟨e1, e2, e3, e4, e5⟩, _⟩ := hw'; go_simp; (try rfl)
                            (try simp only [Act.put, List.setIfInBounds_toArray, List.set_cons_zero, List.set_cons_succ])
                            refine wpLinG_read (o := { dst := some 120, op := Go.Op.load 9 (Go.Operand.tmp 7), type := 9, pos := "work.go:257", after := #[], guard := none }) (v := ?vq11010) (by rw [hops]; rfl) (by first | exact trivial | rfl) hS ?eq11010 ?hq11010
                            case eq11010 => intro w' hw'; obtain ⟨⟨e1, e2, e3, e4, e5⟩, _⟩ := hw'; go_simp; (try rfl)
                            (try simp only [Act.put, List.setIfInBounds_toArray, List.set_cons_zero, List.set_cons_succ])
                            refine wpLinG_do (o := { dst := some 103, op := Go.Op.call { callee := Go.Callee.value (Go.Operand.tmp 100), args := #[Go.Operand.tmp 102, Go.Operand.const (Go.Value.int Go.IntKind.i64 60)], argTypes := #[22, 3] }, type := 9, pos := "work.go:257", after := #[{ on := 0, ground := Go.Ground.data }, { on := 2, ground := Go.Ground.data }], guard := none }) (by rw [hops]; rfl) (by first | exact trivial | rfl) (fun K hK => ?_)
                            go_simp
                            refine (KM.out _ hS.2).mono ?_
                            rintro e Y1 ⟨rfl, hb⟩
                            replace hS := keep5 hS hb
                            clear hb
                            refine hK _ _ trivial hS ?_
                            clear hK K
                            (try simp only [Act.put, List.setIfInBounds_toArray, List.set_cons_zero, List.set_cons_succ])
                            refine wpLinG_pure (o := { dst := some 104, op := Go.Op.binOp Go.BinOp.add 9 (Go.Operand.tmp 103) (Go.Operand.const (Go.Value.string { data := #[32] })) 9, type := 9, pos := "work.go:257", after := #[{ on := 3, ground := Go.Ground.data }], guard := none }) (v := ?vq11012) (by rw [hops]; rfl) (by first | exact trivial | rfl) ?eq11012 ?hq11012
                            case eq11012 => intro w'; go_simp; (try rfl)
                            (try simp only [Act.put, List.setIfInBounds_toArray, List.set_cons_zero, List.set_cons_succ])
                            refine wpLinG_do (o := { dst := some 108, op := Go.Op.call { callee := Go.Callee.value (Go.Operand.tmp 105), args := #[Go.Operand.tmp 107, Go.Operand.const (Go.Value.int Go.IntKind.i64 24)], argTypes := #[22, 3] }, type := 9, pos := "work.go:257", after := #[{ on := 5, ground := Go.Ground.data }, { on := 7, ground := Go.Ground.data }, { on := 3, ground := Go.Ground.chain }], guard := none }) (by rw [hops]; rfl) (by first | exact trivial | rfl) (fun K hK => ?_)
                            go_simp
                            refine (KH.out _ hS.2).mono ?_
                            rintro e Y2 ⟨rfl, hb⟩
                            replace hS := keep5 hS hb
                            clear hb
                            refine hK _ _ trivial hS ?_
                            clear hK K
                            (try simp only [Act.put, List.setIfInBounds_toArray, List.set_cons_zero, List.set_cons_succ])
                            refine wpLinG_pure (o := { dst := some 109, op := Go.Op.binOp Go.BinOp.add 9 (Go.Operand.tmp 104) (Go.Operand.tmp 108) 9, type := 9, pos := "work.go:257", after := #[{ on := 4, ground := Go.Ground.data }, { on := 8, ground := Go.Ground.data }], guard := none }) (v := ?vq11014) (by rw [hops]; rfl) (by first | exact trivial | rfl) ?eq11014 ?hq11014
                            case eq11014 => intro w'; go_simp; (try rfl)
                            (try simp only [Act.put, List.setIfInBounds_toArray, List.set_cons_zero, List.set_cons_succ])
                            refine wpLinG_pure (o := { dst := some 110, op := Go.Op.binOp Go.BinOp.add 9 (Go.Operand.tmp 109) (Go.Operand.const (Go.Value.string { data := #[32] })) 9, type := 9, pos := "work.go:257", after := #[{ on := 9, ground := Go.Ground.data }], guard := none }) (v := ?vq11015) (by rw [hops]; rfl) (by first | exact trivial | rfl) ?eq11015 ?hq11015
                            case eq11015 => intro w'; go_simp; (try rfl)
                            (try simp only [Act.put, List.setIfInBounds_toArray, List.set_cons_zero, List.set_cons_succ])
                            refine wpLinG_pure (o := { dst := some 112, op := Go.Op.binOp Go.BinOp.add 9 (Go.Operand.tmp 110) (Go.Operand.tmp 111) 9, type := 9, pos := "work.go:257", after := #[{ on := 10, ground := Go.Ground.data }, { on := 11, ground := Go.Ground.data }], guard := none }) (v := ?vq11016) (by rw [hops]; rfl) (by first | exact trivial | rfl) ?eq11016 ?hq11016
                            case eq11016 => intro w'; go_simp; (try rfl)
                            (try simp only [Act.put, List.setIfInBounds_toArray, List.set_cons_zero, List.set_cons_succ])
                            refine wpLinG_pure (o := { dst := some 113, op := Go.Op.binOp Go.BinOp.add 9 (Go.Operand.tmp 112) (Go.Operand.const (Go.Value.string { data := #[32] })) 9, type := 9, pos := "work.go:257", after := #[{ on := 12, ground := Go.Ground.data }], guard := none }) (v := ?vq11017) (by rw [hops]; rfl) (by first | exact trivial | rfl) ?eq11017 ?hq11017
                            case eq11017 => intro w'; go_simp; (try rfl)
                            (try simp only [Act.put, List.setIfInBounds_toArray, List.set_cons_zero, List.set_cons_succ])
                            refine wpLinG_do (o := { dst := some 117, op := Go.Op.call { callee := Go.Callee.value (Go.Operand.tmp 114), args := #[Go.Operand.tmp 116, Go.Operand.const (Go.Value.int Go.IntKind.i64 12)], argTypes := #[22, 3] }, type := 9, pos := "work.go:257", after := #[{ on := 14, ground := Go.Ground.data }, { on := 16, ground := Go.Ground.data }, { on := 8, ground := Go.Ground.chain }], guard := none }) (by rw [hops]; rfl) (by first | exact trivial | rfl) (fun K hK => ?_)
                            go_simp
                            refine (KO.out _ hS.2).mono ?_
                            rintro e Y3 ⟨rfl, hb⟩
                            replace hS := keep5 hS hb
                            clear hb
                            refine hK _ _ trivial hS ?_
                            clear hK K
                            (try simp only [Act.put, List.setIfInBounds_toArray, List.set_cons_zero, List.set_cons_succ])
                            refine wpLinG_pure (o := { dst := some 118, op := Go.Op.binOp Go.BinOp.add 9 (Go.Operand.tmp 113) (Go.Operand.tmp 117) 9, type := 9, pos := "work.go:257", after := #[{ on := 13, ground := Go.Ground.data }, { on := 17, ground := Go.Ground.data }], guard := none }) (v := ?vq11019) (by rw [hops]; rfl) (by first | exact trivial | rfl) ?eq11019 ?hq11019
                            case eq11019 => intro w'; go_simp; (try rfl)
                            (try simp only [Act.put, List.setIfInBounds_toArray, List.set_cons_zero, List.set_cons_succ])
                            refine wpLinG_pure (o := { dst := some 119, op := Go.Op.binOp Go.BinOp.add 9 (Go.Operand.tmp 118) (Go.Operand.const (Go.Value.string { data := #[32] })) 9, type := 9, pos := "work.go:257", after := #[{ on := 18, ground := Go.Ground.data }], guard := none }) (v := ?vq11020) (by rw [hops]; rfl) (by first | exact trivial | rfl) ?eq11020 ?hq11020
                            case eq11020 => intro w'; go_simp; (try rfl)
                            (try simp only [Act.put, List.setIfInBounds_toArray, List.set_cons_zero, List.set_cons_succ])
                            refine wpLinG_pure (o := { dst := some 121, op := Go.Op.binOp Go.BinOp.add 9 (Go.Operand.tmp 119) (Go.Operand.tmp 120) 9, type := 9, pos := "work.go:257", after := #[{ on := 19, ground := Go.Ground.data }, { on := 20, ground := Go.Ground.data }], guard := none }) (v := ?vq11021) (by rw [hops]; rfl) (by first | exact trivial | rfl) ?eq11021 ?hq11021
                            case eq11021 => intro w'; go_simp; (try rfl)
                            (try simp only [Act.put, List.setIfInBounds_toArray, List.set_cons_zero, List.set_cons_succ])
                            refine wpLinG_pure (o := { dst := some 2, op := Go.Op.assign (Go.Operand.tmp 121), type := 9, pos := "work.go:257", after := #[{ on := 21, ground := Go.Ground.data }, { on := 17, ground := Go.Ground.chain }, { on := 0, ground := Go.Ground.phase }, { on := 1, ground := Go.Ground.phase }, { on := 2, ground := Go.Ground.phase }, { on := 3, ground := Go.Ground.phase }, { on := 4, ground := Go.Ground.phase }, { on := 5, ground := Go.Ground.phase }, { on := 6, ground := Go.Ground.phase }, { on := 7, ground := Go.Ground.phase }, { on := 8, ground := Go.Ground.phase }, { on := 9, ground := Go.Ground.phase }, { on := 10, ground := Go.Ground.phase }, { on := 11, ground := Go.Ground.phase }, { on := 12, ground := Go.Ground.phase }, { on := 13, ground := Go.Ground.phase }, { on := 14, ground := Go.Ground.phase }, { on := 15, ground := Go.Ground.phase }, { on := 16, ground := Go.Ground.phase }, { on := 17, ground := Go.Ground.phase }, { on := 18, ground := Go.Ground.phase }, { on := 19, ground := Go.Ground.phase }, { on := 20, ground := Go.Ground.phase }, { on := 21, ground := Go.Ground.phase }], guard := none }) (v := ?vq11022) (by rw [hops]; rfl) (by first | exact trivial | rfl) ?eq11022 ?hq11022
                            case eq11022 => intro w'; go_simp; (try rfl)
                            (try simp only [Act.put, List.setIfInBounds_toArray, List.set_cons_zero, List.set_cons_succ])
                            refine wpLinG_pure (o := { dst := some 3, op := Go.Op.assign (Go.Operand.const (Go.Value.int Go.IntKind.i64 0)), type := 26, pos := "work.go:257", after := #[{ on := 22, ground := Go.Ground.chain }, { on := 0, ground := Go.Ground.phase }, { on := 1, ground := Go.Ground.phase }, { on := 2, ground := Go.Ground.phase }, { on := 3, ground := Go.Ground.phase }, { on := 4, ground := Go.Ground.phase }, { on := 5, ground := Go.Ground.phase }, { on := 6, ground := Go.Ground.phase }, { on := 7, ground := Go.Ground.phase }, { on := 8, ground := Go.Ground.phase }, { on := 9, ground := Go.Ground.phase }, { on := 10, ground := Go.Ground.phase }, { on := 11, ground := Go.Ground.phase }, { on := 12, ground := Go.Ground.phase }, { on := 13, ground := Go.Ground.phase }, { on := 14, ground := Go.Ground.phase }, { on := 15, ground := Go.Ground.phase }, { on := 16, ground := Go.Ground.phase }, { on := 17, ground := Go.Ground.phase }, { on := 18, ground := Go.Ground.phase }, { on := 19, ground := Go.Ground.phase }, { on := 20, ground := Go.Ground.phase }, { on := 21, ground := Go.Ground.phase }, { on := 22, ground := Go.Ground.phase }], guard := none }) (v := ?vq11023) (by rw [hops]; rfl) (by first | exact trivial | rfl) ?eq11023 ?hq11023
                            case eq11023 => intro w'; go_simp; (try rfl)
                            (try simp only [Act.put, List.setIfInBounds_toArray, List.set_cons_zero, List.set_cons_succ])
                            subst hQ'
                            refine NoPanic.normal ?_
                            clear hops
                            go_wp2
                            go_ret2
                            exact ⟨by rw [HT.out]; rfl, hS.2⟩
                          · have hV : Crn.wWord x = Crn.star := by rw [HWW.out, hanyw]; rfl
                            rw [hanyw] at x7
                            clear hanyw
                            have hf1 := hr.v.frozen
                            have hr2 := hr.add2 (hr.v.set (.string ⟨#[42]⟩)) ((Upd.refl (B + 1) W5).setCell (.string ⟨#[42]⟩))
                            have hr3 : RT w A x B (B + 1) (Crn.dWord x) (Crn.wWord x) (W5.setCell ⟨B + 1, 0, none⟩ (.string ⟨#[42]⟩)) := by rw [hV]; exact hr2
                            clear hr2 hV
                            have hcb := hr.v.cell
                            have HR3 := hide hr3
                            clear hr3 hr
                            go_upto_region 38 with fail
                            obtain ⟨W6, hW6⟩ : ∃ W6, W5.setCell ⟨B + 1, 0, none⟩ (.string ⟨#[42]⟩) = W6 := ⟨_, rfl⟩
                            rw [hW6] at HR3 ⊢
                            clear hW6 hcb hf1
                            clear x0 x1 x2 x3 x4 x5 x6 x7 x8 x9 x10
                            have hr := HR3.out
                            clear HR3
                            have hrD := hr.later (Below.refl _ W6).drew
                            clear hr
                            obtain ⟨x0, x1, x2, x3, x4, x5, x6, x7, x8, x9, x10⟩ := hrD.bx.cells
                            have c1 := hrD.d.cell
                            have c2 := hrD.v.cell
                            have hS : (W6.drew.cell? ⟨w.heap.size, 0, none⟩ = some (.slice A.m x.mi.length A.cm) ∧ W6.drew.cell? ⟨w.heap.size, 1, none⟩ = some (.slice A.h x.ho.length A.ch) ∧ W6.drew.cell? ⟨w.heap.size, 2, none⟩ = some (.slice A.o x.mo.length A.co) ∧ W6.drew.cell? ⟨B, 0, none⟩ = some (.string (Crn.dWord x)) ∧ W6.drew.cell? ⟨B + 1, 0, none⟩ = some (.string (Crn.wWord x))) ∧ Below w.heap.size w W6.drew := ⟨⟨x0, x1, x2, c1, c2⟩, hrD.be⟩
                            clear x0 x1 x2 x3 x4 x5 x6 x7 x8 x9 x10 c1 c2 hrD
                            have g1 : ¬ (9223372036854775807 < (Crn.word 60 x.mi).size + 1) := by omega
                            have g2 : ¬ (9223372036854775807 < (Crn.word 60 x.mi).size + 1 + (Crn.word 24 x.ho).size) := by omega
                            have g3 : ¬ (9223372036854775807 < (Crn.word 60 x.mi).size + 1 + (Crn.word 24 x.ho).size + 1) := by omega
                            have g4 : ¬ (9223372036854775807 < (Crn.word 60 x.mi).size + 1 + (Crn.word 24 x.ho).size + 1 + (Crn.dWord x).size) := by omega
                            have g5 : ¬ (9223372036854775807 < (Crn.word 60 x.mi).size + 1 + (Crn.word 24 x.ho).size + 1 + (Crn.dWord x).size + 1) := by omega
                            have g6 : ¬ (9223372036854775807 < (Crn.word 60 x.mi).size + 1 + (Crn.word 24 x.ho).size + 1 + (Crn.dWord x).size + 1 + (Crn.word 12 x.mo).size) := by omega
                            have g7 : ¬ (9223372036854775807 < (Crn.word 60 x.mi).size + 1 + (Crn.word 24 x.ho).size + 1 + (Crn.dWord x).size + 1 + (Crn.word 12 x.mo).size + 1) := by omega
                            have g8 : ¬ (9223372036854775807 < (Crn.word 60 x.mi).size + 1 + (Crn.word 24 x.ho).size + 1 + (Crn.dWord x).size + 1 + (Crn.word 12 x.mo).size + 1 + (Crn.wWord x).size) := by omega
                            skip
                            refine wp_region_noPanic ?_
                            refine wp_region_linGM (S := fun X => (X.cell? ⟨w.heap.size, 0, none⟩ = some (.slice A.m x.mi.length A.cm) ∧ X.cell? ⟨w.heap.size, 1, none⟩ = some (.slice A.h x.ho.length A.ch) ∧ X.cell? ⟨w.heap.size, 2, none⟩ = some (.slice A.o x.mo.length A.co) ∧ X.cell? ⟨B, 0, none⟩ = some (.string (Crn.dWord x)) ∧ X.cell? ⟨B + 1, 0, none⟩ = some (.string (Crn.wWord x))) ∧ Below w.heap.size w X) (R := fun _ => True) [] (by kernel_rfl) (by kernel_rfl) [(0, none, 1), (1, none, 1), (2, none, 0), (5, none, 1), (6, none, 1), (7, none, 0), (11, none, 0), (14, none, 1), (15, none, 1), (16, none, 0), (20, none, 0), (3, none, 2), (4, none, 1), (8, none, 2), (9, none, 1), (10, none, 1), (12, none, 1), (13, none, 1), (17, none, 2), (18, none, 1), (19, none, 1), (21, none, 1), (22, none, 1), (23, none, 1)] (by kernel_rfl) (by kernel_rfl) (fun _ _ _ _ _ h => h) (by exact trivial) (by exact hS) (fun ops' Q' hops hQ' => ?_)
                            refine wpLinG_pure (o := { dst := some 100, op := Go.Op.move (Go.Operand.tmp 5), type := 37, pos := "work.go:257", after := #[], guard := none }) (v := ?vq1110) (by rw [hops]; rfl) (by first | exact trivial | rfl) ?eq1110 ?hq1110
                            case eq1110 => intro w'; go_simp; (try rfl)
                            (try simp only [Act.put, List.setIfInBounds_toArray, List.set_cons_zero, List.set_cons_succ])
                            refine wpLinG_pure (o := { dst := some 101, op := Go.Op.fieldAddr 25 (Go.Operand.tmp 1) 0, type := 0, pos := "work.go:257", after := #[], guard := none }) (v := ?vq1111) (by rw [hops]; rfl) (by first | exact trivial | rfl) ?eq1111 ?hq1111
                            case eq1111 => intro w'; go_simp; (try rfl)
                            (try simp only [Act.put, List.setIfInBounds_toArray, List.set_cons_zero, List.set_cons_succ])
                            refine wpLinG_read (o := { dst := some 102, op := Go.Op.load 22 (Go.Operand.tmp 101), type := 22, pos := "work.go:257", after := #[{ on := 1, ground := Go.Ground.data }], guard := none }) (v := ?vq1112) (by rw [hops]; rfl) (by first | exact trivial | rfl) hS ?eq1112 ?hq1112
                            case eq1112 => intro w' hw'; obtain ⟨⟨e1, e2, e3, e4, e5⟩, _⟩ := hw'; go_simp; (try rfl)
                            (try simp only [Act.put, List.setIfInBounds_toArray, List.set_cons_zero, List.set_cons_succ])
                            refine wpLinG_pure (o := { dst := some 105, op := Go.Op.move (Go.Operand.tmp 5), type := 37, pos := "work.go:257", after := #[], guard := none }) (v := ?vq1113) (by rw [hops]; rfl) (by first | exact trivial | rfl) ?eq1113 ?hq1113
                            case eq1113 => intro w'; go_simp; (try rfl)
                            (try simp only [Act.put, List.setIfInBounds_toArray, List.set_cons_zero, List.set_cons_succ])
                            refine wpLinG_pure (o := { dst := some 106, op := Go.Op.fieldAddr 25 (Go.Operand.tmp 1) 1, type := 0, pos := "work.go:257", after := #[], guard := none }) (v := ?vq1114) (by rw [hops]; rfl) (by first | exact trivial | rfl) ?eq1114 ?hq1114
                            case eq1114 => intro w'; go_simp; (try rfl)
                            (try simp only [Act.put, List.setIfInBounds_toArray, List.set_cons_zero, List.set_cons_succ])
                            refine wpLinG_read (o := { dst := some 107, op := Go.Op.load 22 (Go.Operand.tmp 106), type := 22, pos := "work.go:257", after := #[{ on := 6, ground := Go.Ground.data }], guard := none }) (v := ?vq1115) (by rw [hops]; rfl) (by first | exact trivial | rfl) hS ?eq1115 ?hq1115
                            case eq1115 => intro w' hw'; obtain ⟨⟨e1, e2, e3, e4, e5⟩, _⟩ := hw'; go_simp; (try rfl)
                            (try simp only [Act.put, List.setIfInBounds_toArray, List.set_cons_zero, List.set_cons_succ])
                            refine wpLinG_read (o := { dst := some 111, op := Go.Op.load 9 (Go.Operand.tmp 6), type := 9, pos := "work.go:257", after := #[], guard := none }) (v := ?vq1116) (by rw [hops]; rfl) (by first | exact trivial | rfl) hS ?eq1116 ?hq1116
                            case eq1116 => intro w' hw'; obtain ⟨⟨e1, e2, e3, e4, e5⟩, _⟩ := hw'; go_simp; (try rfl)
                            (try simp only [Act.put, List.setIfInBounds_toArray, List.set_cons_zero, List.set_cons_succ])
                            refine wpLinG_pure (o := { dst := some 114, op := Go.Op.move (Go.Operand.tmp 5), type := 37, pos := "work.go:257", after := #[], guard := none }) (v := ?vq1117) (by rw [hops]; rfl) (by first | exact trivial | rfl) ?eq1117 ?hq1117
                            case eq1117 => intro w'; go_simp; (try rfl)
                            (try simp only [Act.put, List.setIfInBounds_toArray, List.set_cons_zero, List.set_cons_succ])
                            refine wpLinG_pure (o := { dst := some 115, op := Go.Op.fieldAddr 25 (Go.Operand.tmp 1) 2, type := 0, pos := "work.go:257", after := #[], guard := none }) (v := ?vq1118) (by rw [hops]; rfl) (by first | exact trivial | rfl) ?eq1118 ?hq1118
                            case eq1118 => intro w'; go_simp; (try rfl)
                            (try simp only [Act.put, List.setIfInBounds_toArray, List.set_cons_zero, List.set_cons_succ])
                            refine wpLinG_read (o := { dst := some 116, op := Go.Op.load 22 (Go.Operand.tmp 115), type := 22, pos := "work.go:257", after := #[{ on := 15, ground := Go.Ground.data }], guard := none }) (v := ?vq1119) (by rw [hops]; rfl) (by first | exact trivial | rfl) hS ?eq1119 ?hq1119
                            case eq1119 => intro w' hw'; obtain ⟨⟨e1, e2, e3, e4, e5⟩, _⟩ := hw'; go_simp; (try rfl)
                            (try simp only [Act.put, List.setIfInBounds_toArray, List.set_cons_zero, List.set_cons_succ])
                            refine wpLinG_read (o := { dst := some 120, op := Go.Op.load 9 (Go.Operand.tmp 7), type := 9, pos := "work.go:257", after := #[], guard := none }) (v := ?vq11110) (by rw [hops]; rfl) (by first | exact trivial | rfl) hS ?eq11110 ?hq11110
                            case eq11110 => intro w' hw'; obtain ⟨⟨e1, e2, e3, e4, e5⟩, _⟩ := hw'; go_simp; (try rfl)
                            (try simp only [Act.put, List.setIfInBounds_toArray, List.set_cons_zero, List.set_cons_succ])
                            refine wpLinG_do (o := { dst := some 103, op := Go.Op.call { callee := Go.Callee.value (Go.Operand.tmp 100), args := #[Go.Operand.tmp 102, Go.Operand.const (Go.Value.int Go.IntKind.i64 60)], argTypes := #[22, 3] }, type := 9, pos := "work.go:257", after := #[{ on := 0, ground := Go.Ground.data }, { on := 2, ground := Go.Ground.data }], guard := none }) (by rw [hops]; rfl) (by first | exact trivial | rfl) (fun K hK => ?_)
                            go_simp
                            refine (KM.out _ hS.2).mono ?_
                            rintro e Y1 ⟨rfl, hb⟩
                            replace hS := keep5 hS hb
                            clear hb
                            refine hK _ _ trivial hS ?_
                            clear hK K
                            (try simp only [Act.put, List.setIfInBounds_toArray, List.set_cons_zero, List.set_cons_succ])
                            refine wpLinG_pure (o := { dst := some 104, op := Go.Op.binOp Go.BinOp.add 9 (Go.Operand.tmp 103) (Go.Operand.const (Go.Value.string { data := #[32] })) 9, type := 9, pos := "work.go:257", after := #[{ on := 3, ground := Go.Ground.data }], guard := none }) (v := ?vq11112) (by rw [hops]; rfl) (by first | exact trivial | rfl) ?eq11112 ?hq11112
                            case eq11112 => intro w'; go_simp; (try rfl)
                            (try simp only [Act.put, List.setIfInBounds_toArray, List.set_cons_zero, List.set_cons_succ])
                            refine wpLinG_do (o := { dst := some 108, op := Go.Op.call { callee := Go.Callee.value (Go.Operand.tmp 105), args := #[Go.Operand.tmp 107, Go.Operand.const (Go.Value.int Go.IntKind.i64 24)], argTypes := #[22, 3] }, type := 9, pos := "work.go:257", after := #[{ on := 5, ground := Go.Ground.data }, { on := 7, ground := Go.Ground.data }, { on := 3, ground := Go.Ground.chain }], guard := none }) (by rw [hops]; rfl) (by first | exact trivial | rfl) (fun K hK => ?_)
                            go_simp
                            refine (KH.out _ hS.2).mono ?_
                            rintro e Y2 ⟨rfl, hb⟩
                            replace hS := keep5 hS hb
                            clear hb
                            refine hK _ _ trivial hS ?_
                            clear hK K
                            (try simp only [Act.put, List.setIfInBounds_toArray, List.set_cons_zero, List.set_cons_succ])
                            refine wpLinG_pure (o := { dst := some 109, op := Go.Op.binOp Go.BinOp.add 9 (Go.Operand.tmp 104) (Go.Operand.tmp 108) 9, type := 9, pos := "work.go:257", after := #[{ on := 4, ground := Go.Ground.data }, { on := 8, ground := Go.Ground.data }], guard := none }) (v := ?vq11114) (by rw [hops]; rfl) (by first | exact trivial | rfl) ?eq11114 ?hq11114
                            case eq11114 => intro w'; go_simp; (try rfl)
                            (try simp only [Act.put, List.setIfInBounds_toArray, List.set_cons_zero, List.set_cons_succ])
                            refine wpLinG_pure (o := { dst := some 110, op := Go.Op.binOp Go.BinOp.add 9 (Go.Operand.tmp 109) (Go.Operand.const (Go.Value.string { data := #[32] })) 9, type := 9, pos := "work.go:257", after := #[{ on := 9, ground := Go.Ground.data }], guard := none }) (v := ?vq11115) (by rw [hops]; rfl) (by first | exact trivial | rfl) ?eq11115 ?hq11115
                            case eq11115 => intro w'; go_simp; (try rfl)
                            (try simp only [Act.put, List.setIfInBounds_toArray, List.set_cons_zero, List.set_cons_succ])
                            refine wpLinG_pure (o := { dst := some 112, op := Go.Op.binOp Go.BinOp.add 9 (Go.Operand.tmp 110) (Go.Operand.tmp 111) 9, type := 9, pos := "work.go:257", after := #[{ on := 10, ground := Go.Ground.data }, { on := 11, ground := Go.Ground.data }], guard := none }) (v := ?vq11116) (by rw [hops]; rfl) (by first | exact trivial | rfl) ?eq11116 ?hq11116
                            case eq11116 => intro w'; go_simp; (try rfl)
                            (try simp only [Act.put, List.setIfInBounds_toArray, List.set_cons_zero, List.set_cons_succ])
                            refine wpLinG_pure (o := { dst := some 113, op := Go.Op.binOp Go.BinOp.add 9 (Go.Operand.tmp 112) (Go.Operand.const (Go.Value.string { data := #[32] })) 9, type := 9, pos := "work.go:257", after := #[{ on := 12, ground := Go.Ground.data }], guard := none }) (v := ?vq11117) (by rw [hops]; rfl) (by first | exact trivial | rfl) ?eq11117 ?hq11117
                            case eq11117 => intro w'; go_simp; (try rfl)
                            (try simp only [Act.put, List.setIfInBounds_toArray, List.set_cons_zero, List.set_cons_succ])
                            refine wpLinG_do (o := { dst := some 117, op := Go.Op.call { callee := Go.Callee.value (Go.Operand.tmp 114), args := #[Go.Operand.tmp 116, Go.Operand.const (Go.Value.int Go.IntKind.i64 12)], argTypes := #[22, 3] }, type := 9, pos := "work.go:257", after := #[{ on := 14, ground := Go.Ground.data }, { on := 16, ground := Go.Ground.data }, { on := 8, ground := Go.Ground.chain }], guard := none }) (by rw [hops]; rfl) (by first | exact trivial | rfl) (fun K hK => ?_)
                            go_simp
                            refine (KO.out _ hS.2).mono ?_
                            rintro e Y3 ⟨rfl, hb⟩
                            replace hS := keep5 hS hb
                            clear hb
                            refine hK _ _ trivial hS ?_
                            clear hK K
                            (try simp only [Act.put, List.setIfInBounds_toArray, List.set_cons_zero, List.set_cons_succ])
                            refine wpLinG_pure (o := { dst := some 118, op := Go.Op.binOp Go.BinOp.add 9 (Go.Operand.tmp 113) (Go.Operand.tmp 117) 9, type := 9, pos := "work.go:257", after := #[{ on := 13, ground := Go.Ground.data }, { on := 17, ground := Go.Ground.data }], guard := none }) (v := ?vq11119) (by rw [hops]; rfl) (by first | exact trivial | rfl) ?eq11119 ?hq11119
                            case eq11119 => intro w'; go_simp; (try rfl)
                            (try simp only [Act.put, List.setIfInBounds_toArray, List.set_cons_zero, List.set_cons_succ])
                            refine wpLinG_pure (o := { dst := some 119, op := Go.Op.binOp Go.BinOp.add 9 (Go.Operand.tmp 118) (Go.Operand.const (Go.Value.string { data := #[32] })) 9, type := 9, pos := "work.go:257", after := #[{ on := 18, ground := Go.Ground.data }], guard := none }) (v := ?vq11120) (by rw [hops]; rfl) (by first | exact trivial | rfl) ?eq11120 ?hq11120
                            case eq11120 => intro w'; go_simp; (try rfl)
                            (try simp only [Act.put, List.setIfInBounds_toArray, List.set_cons_zero, List.set_cons_succ])
                            refine wpLinG_pure (o := { dst := some 121, op := Go.Op.binOp Go.BinOp.add 9 (Go.Operand.tmp 119) (Go.Operand.tmp 120) 9, type := 9, pos := "work.go:257", after := #[{ on := 19, ground := Go.Ground.data }, { on := 20, ground := Go.Ground.data }], guard := none }) (v := ?vq11121) (by rw [hops]; rfl) (by first | exact trivial | rfl) ?eq11121 ?hq11121
                            case eq11121 => intro w'; go_simp; (try rfl)
                            (try simp only [Act.put, List.setIfInBounds_toArray, List.set_cons_zero, List.set_cons_succ])
                            refine wpLinG_pure (o := { dst := some 2, op := Go.Op.assign (Go.Operand.tmp 121), type := 9, pos := "work.go:257", after := #[{ on := 21, ground := Go.Ground.data }, { on := 17, ground := Go.Ground.chain }, { on := 0, ground := Go.Ground.phase }, { on := 1, ground := Go.Ground.phase }, { on := 2, ground := Go.Ground.phase }, { on := 3, ground := Go.Ground.phase }, { on := 4, ground := Go.Ground.phase }, { on := 5, ground := Go.Ground.phase }, { on := 6, ground := Go.Ground.phase }, { on := 7, ground := Go.Ground.phase }, { on := 8, ground := Go.Ground.phase }, { on := 9, ground := Go.Ground.phase }, { on := 10, ground := Go.Ground.phase }, { on := 11, ground := Go.Ground.phase }, { on := 12, ground := Go.Ground.phase }, { on := 13, ground := Go.Ground.phase }, { on := 14, ground := Go.Ground.phase }, { on := 15, ground := Go.Ground.phase }, { on := 16, ground := Go.Ground.phase }, { on := 17, ground := Go.Ground.phase }, { on := 18, ground := Go.Ground.phase }, { on := 19, ground := Go.Ground.phase }, { on := 20, ground := Go.Ground.phase }, { on := 21, ground := Go.Ground.phase }], guard := none }) (v := ?vq11122) (by rw [hops]; rfl) (by first | exact trivial | rfl) ?eq11122 ?hq11122
                            case eq11122 => intro w'; go_simp; (try rfl)
                            (try simp only [Act.put, List.setIfInBounds_toArray, List.set_cons_zero, List.set_cons_succ])
                            refine wpLinG_pure (o := { dst := some 3, op := Go.Op.assign (Go.Operand.const (Go.Value.int Go.IntKind.i64 0)), type := 26, pos := "work.go:257", after := #[{ on := 22, ground := Go.Ground.chain }, { on := 0, ground := Go.Ground.phase }, { on := 1, ground := Go.Ground.phase }, { on := 2, ground := Go.Ground.phase }, { on := 3, ground := Go.Ground.phase }, { on := 4, ground := Go.Ground.phase }, { on := 5, ground := Go.Ground.phase }, { on := 6, ground := Go.Ground.phase }, { on := 7, ground := Go.Ground.phase }, { on := 8, ground := Go.Ground.phase }, { on := 9, ground := Go.Ground.phase }, { on := 10, ground := Go.Ground.phase }, { on := 11, ground := Go.Ground.phase }, { on := 12, ground := Go.Ground.phase }, { on := 13, ground := Go.Ground.phase }, { on := 14, ground := Go.Ground.phase }, { on := 15, ground := Go.Ground.phase }, { on := 16, ground := Go.Ground.phase }, { on := 17, ground := Go.Ground.phase }, { on := 18, ground := Go.Ground.phase }, { on := 19, ground := Go.Ground.phase }, { on := 20, ground := Go.Ground.phase }, { on := 21, ground := Go.Ground.phase }, { on := 22, ground := Go.Ground.phase }], guard := none }) (v := ?vq11123) (by rw [hops]; rfl) (by first | exact trivial | rfl) ?eq11123 ?hq11123
                            case eq11123 => intro w'; go_simp; (try rfl)
                            (try simp only [Act.put, List.setIfInBounds_toArray, List.set_cons_zero, List.set_cons_succ])
                            subst hQ'
                            refine NoPanic.normal ?_
                            clear hops
                            go_wp2
                            go_ret2
                            exact ⟨by rw [HT.out]; rfl, hS.2⟩
end Go.Proofs.YtmecghnemocdpaaDoor
