/- package text: the reader's param, at a param that was printed. -/
import Derived.Test.YtponocolfjkapaaDoorMTextBackUpto27
import Derived.Test.YtponocolfjkapaaDoorMTextBackUpto14
import Derived.Test.YtponocolfjkapaaDoorMTextBackUpto29
import Derived.Test.YtponocolfjkapaaDoorMTextBackUpto19
namespace Go.Proofs.YtponocolfjkapaaDoor
open Go.RowKit Go.Shelf
set_option linter.unusedVariables false
set_option linter.unusedSimpArgs false

/-- values, written one behind the other -/
def vK : List ByteArray → List UInt8 → List UInt8
  | [], z => z
  | [v], z => Tl.tx (quo v) ++ z
  | v :: u :: l, z => Tl.tx (quo v) ++ 44 :: vK (u :: l) z
theorem vT_pos : ∀ (l : List ByteArray) (n : Nat) (z : List UInt8), 0 < n → l ≠ [] → vT n l ++ z = 44 :: vK l z
  | [], _, _, _, h => absurd rfl h
  | [v], n, z, hn, _ => by simp [vT, vK, Nat.ne_of_gt hn]
  | v :: u :: l, n, z, hn, _ => by
    have ih := vT_pos (u :: l) (n + 1) z (by omega) (by simp)
    show ((if n = 0 then 61 else 44) :: (Tl.tx (quo v) ++ vT (n + 1) (u :: l))) ++ z = _
    rw [if_neg (Nat.ne_of_gt hn), List.cons_append, List.append_assoc, ih]
    rfl
theorem vT_vK : ∀ (l : List ByteArray) (z : List UInt8), l ≠ [] → vT 0 l ++ z = 61 :: vK l z
  | [], _, h => absurd rfl h
  | [v], z, _ => by simp [vT, vK]
  | v :: u :: l, z, _ => by
    have ih := vT_pos (u :: l) 1 z (by omega) (by simp)
    show ((if 0 = 0 then 61 else 44) :: (Tl.tx (quo v) ++ vT 1 (u :: l))) ++ z = _
    rw [if_pos rfl, List.cons_append, List.append_assoc, ih]
    rfl
theorem vK_drop (l : List ByteArray) (k : Nat) (h : k < l.length) (c : UInt8) (b : List UInt8) : ∃ (m : UInt8) (r : List UInt8), vK (l.drop k) (c :: b) = Tl.tx (quo l[k]) ++ m :: r ∧ ((k + 1 < l.length ∧ m = 44 ∧ r = vK (l.drop (k + 1)) (c :: b)) ∨ (k + 1 = l.length ∧ m = c ∧ r = b)) := by
  rw [List.drop_eq_getElem_cons h]
  by_cases h2 : k + 1 < l.length
  · rw [List.drop_eq_getElem_cons h2]
    exact ⟨44, _, rfl, .inl ⟨h2, rfl, rfl⟩⟩
  · rw [List.drop_eq_nil_of_le (show l.length ≤ k + 1 by omega)]
    exact ⟨c, b, rfl, .inr ⟨by omega, rfl, rfl⟩⟩
def mkP : ByteArray := ⟨#[61, 59, 58]⟩
theorem mkP_asc : Asc mkP := by intro b hb; have : b = 61 ∨ b = 59 ∨ b = 58 := by simpa [mkP, Tl.tx] using hb
                                rcases this with rfl | rfl | rfl <;> decide
theorem mkP_name {s : ByteArray} (h : nmS s = true) : ∀ x ∈ Tl.tx s, isM mkP x = false := fun x hx => by
  have := (nm_facts h).2.2 x hx
  unfold isM
  rw [List.contains_eq_any_beq, List.any_eq_false]
  intro y hy e
  rw [beq_iff_eq] at e
  subst e
  have hy2 : x = 61 ∨ x = 59 ∨ x = 58 := by simpa [mkP, Tl.tx] using hy
  rcases hy2 with rfl | rfl | rfl
  · have h61 : (61 : UInt8).toNat = 61 := rfl
    omega
  · have h61 : (59 : UInt8).toNat = 59 := rfl
    omega
  · have h61 : (58 : UInt8).toNat = 58 := rfl
    omega
/-- what param's walk keeps -/
structure PW (w : World) (B R P : Nat) (n : ByteArray) (v : Value) (L : List ByteArray) (W : World) : Prop where
  r : W.heap[R]? = some (.cells #[.string ⟨#[]⟩, .slice none 0 0] 58 (0, 0))
  p : W.heap[P]? = some (.cells #[.string n, v] 58 (0, 0))
  s : SR W (P + 1) v L
  k : KB B w W
  l1 : B < w.heap.size
  l2 : w.heap.size ≤ R
  l3 : R < P
theorem PW.cells {w : World} {B R P : Nat} {n : ByteArray} {v : Value} {L : List ByteArray} {W : World} (h : PW w B R P n v L W) :
    W.cell? ⟨R, 0, none⟩ = some (.string ⟨#[]⟩) ∧ W.cell? ⟨R, 1, none⟩ = some (.slice none 0 0) ∧ W.cell? ⟨P, 0, none⟩ = some (.string n) ∧ W.cell? ⟨P, 1, none⟩ = some v :=
  ⟨cell_of_row _ _ _ _ _ (0, 0) h.r, cell_of_row _ _ _ _ _ (0, 0) h.r, cell_of_row _ _ _ _ _ (0, 0) h.p, cell_of_row _ _ _ _ _ (0, 0) h.p⟩
theorem PW.plt {w : World} {B R P : Nat} {n : ByteArray} {v : Value} {L : List ByteArray} {W : World} (h : PW w B R P n v L W) : P < W.heap.size := (Array.getElem?_eq_some_iff.1 h.p).1
theorem SR.kbk {w w' : World} {base B : Nat} {v : Value} {L : List ByteArray} (h : SR w base v L) (hk : KB B w w') (hb : B < base) : SR w' base v L :=
  ownsRow_agree (e := 0) h fun g hg => hk.block g (h.lt g hg).2 (by have := (h.lt g hg).1; omega)
theorem PW.kb {w : World} {B R P : Nat} {n : ByteArray} {v : Value} {L : List ByteArray} {W W' : World} (h : PW w B R P n v L W) (hk : KB B W W') : PW w B R P n v L W' := by
  have := h.plt
  have := h.l1
  have := h.l2
  have := h.l3
  exact ⟨(hk.block R (by omega) (by omega)).trans h.r, (hk.block P (by omega) (by omega)).trans h.p, h.s.kbk hk (by omega), h.k.trans hk, h.l1, h.l2, h.l3⟩
theorem PW.later {w : World} {B R P : Nat} {n : ByteArray} {v : Value} {L : List ByteArray} {W W' : World} (h : PW w B R P n v L W) (hb : Below W.heap.size W W') : PW w B R P n v L W' := h.kb (.of_below hb)
theorem PW.store {w : World} {B R P : Nat} {n : ByteArray} {v v' : Value} {L L' : List ByteArray} {W W' : World} (h : PW w B R P n v L W) (hs : SR W' (P + 1) v' L') (hb : Below (P + 1) W W') : PW w B R P n v' L' (W'.setCell ⟨P, 1, none⟩ v') := by
  have h0 := h.plt
  have h1 := h.l1
  have h2 := h.l2
  have h3 := h.l3
  have hp : W'.heap[P]? = some (.cells #[.string n, v] 58 (0, 0)) := (hb.block P (by omega)).trans h.p
  have hset : ∀ k, k ≠ P → (W'.setCell ⟨P, 1, none⟩ v').heap[k]? = W'.heap[k]? := fun k hk => Below.heap_setCell _ _ _ k (fun e => hk e)
  refine ⟨(hset R (by omega)).trans ((hb.block R (by omega)).trans h.r), ?_, ownsRow_agree (e := 0) hs (fun g hg => hset g (by have := (hs.lt g hg).1; omega)), ?_, h1, h2, h3⟩
  · rw [setCell_eq_setRow W' P 1 _ _ _ _ hp]
    exact setRow_heap W' P _ _ _ _ hp
  · exact ⟨hb.os.trans h.k.os, hb.tape.trans h.k.tape, hb.output.trans h.k.output, Nat.le_trans h.k.size (Nat.le_trans hb.size (KeepsWalks.setCell _ _ _).size), fun k hk hne => (hset k (by omega)).trans ((hb.block k (by omega)).trans (h.k.block k hk hne))⟩
/-- how much is left to be read -/
def restOf (W : World) (B : Nat) : Nat := match W.heap[B]? with | some (.cells #[.string s, _] _ _) => s.size | _ => 0
theorem restOf_eq {W : World} {B : Nat} {rest : ByteArray} {mk : Int} (h : RdB W B rest mk) : restOf W B = rest.size := by
  unfold restOf
  rw [show W.heap[B]? = _ from h]
  rfl
theorem frozen_of {W : World} {B : Nat} {cs : Array Value} {t : TypeId} (h : W.heap[B]? = some (.cells cs t (0, 0))) (k : Nat) : W.frozen? ⟨B, k, none⟩ = false := by
  unfold World.frozen?
  simp only [h]
  simp
set_option maxRecDepth 100000 in
set_option maxHeartbeats 8000000 in
theorem param_any (x : PPm) (hx : eP x = 0) (ho : PmOk x) (c : UInt8) (hc : isE c = true) (hc2 : c ≠ 44) (b : List UInt8) (rest : ByteArray) (hr : Tl.tx rest = Tl.tx x.n ++ vT 0 x.vs ++ c :: b) (mk : Int) (B : Nat) (w : World) (hB : RdB w B rest mk) (hs : rest.size ≤ 100000000) :
    Calls Tryd.prog 68 #[.pointer (some ⟨B, 0, none⟩)] w fun e w' => ∃ A k, e = .returned (.tuple #[.agg #[.string x.n, .slice A x.vs.length k], .nilIface]) ∧ Fpt (SL A x.vs) w.heap.size w'.heap.size w' ∧ RdB w' B (Tl.str b) c.toNat ∧ KB B w w' := by
  have hx2 := hx
  unfold eP at hx2
  have hn : nmS x.n = true := by
    cases h : nmS x.n with
    | true => rfl
    | false => rw [h, if_pos rfl] at hx2; exact absurd hx2 (by decide)
  rw [if_neg (by rw [hn]; simp)] at hx2
  have hv0 : x.vs.length ≠ 0 := fun e => by rw [if_pos e] at hx2; exact absurd hx2 (by decide)
  rw [if_neg hv0] at hx2
  have hvB : ∀ k (hk : k < x.vs.length), vB x.vs[k] = true := fun k hk => by
    by_cases hall : Crn.allB (fun k => vB (x.vs.getD k ByteArray.empty)) x.vs.length = true
    · have := allB_all hall k hk
      rwa [List.getD_eq_getElem?_getD, List.getElem?_eq_getElem hk] at this
    · rw [if_neg hall] at hx2; exact absurd hx2 (by decide)
  have hne : x.vs ≠ [] := fun e => hv0 (by rw [e]; rfl)
  rw [List.append_assoc, vT_vK _ _ hne] at hr
  have KU := hide (fun W (h : RdB W B rest mk) => upTo_any mkP mkP_asc (.inr (.inr rfl)) (Tl.tx x.n) (vK x.vs (c :: b)) 61 rest hr (by decide) (mkP_name hn) mk B W h (by omega))
  rw [Tl.str_tx] at KU
  have KN := hide (fun W => readName_any x.n hn W)
  have HB := hide hB
  go_enter Tryd.func68, Tryd.ntmps68
  go_upto_region 1 with fail
  have hb0 : Below w.heap.size w (w.alloc (.cells #[.string ⟨#[]⟩, .slice none 0 0] 58)) := (Below.refl _ w).alloc (Nat.le_refl _) _
  have hr0 : (w.alloc (.cells #[.string ⟨#[]⟩, .slice none 0 0] 58)).heap[w.heap.size]? = some (.cells #[.string ⟨#[]⟩, .slice none 0 0] 58 (0, 0)) := World.alloc_heap_new w _
  have hB0 := HB.out.later hb0
  have hk0 := KB.of_below (B := B) hb0
  have hl1 := HB.out.lt
  generalize w.alloc (.cells #[.string ⟨#[]⟩, .slice none 0 0] 58) = W0 at *
  have HB0 := hide hB0
  have HR0 := hide (And.intro hr0 (And.intro hk0 hl1))
  clear hb0 hr0 hB0 hk0 hB HB hl1
  go_wp2_with fail
  refine (KU.out _ HB0.out).mono ?_
  rintro e W1 ⟨rfl, hR1, hK1⟩
  obtain ⟨d0, d1⟩ := hR1.cells
  have h61 : (((61 : UInt8).toNat : Int) == 61) = true := rfl
  have h61b : (((61 : UInt8).toNat : Int) != 61) = false := rfl
  have HR1 := hide hR1
  have HK1 := hide hK1
  clear hR1 hK1 HB0
  go_wp2_with fail
  refine (KN.out _).mono ?_
  rintro e W2 ⟨rfl, b2⟩
  obtain ⟨hr0, hk0, hl1⟩ := HR0.out
  have hR2 := HR1.out.later b2
  have hwr : w.heap.size < W0.heap.size := (Array.getElem?_eq_some_iff.1 hr0).1
  have hrR := (b2.block _ (by have := HK1.out.size; omega)).trans ((HK1.out.block w.heap.size (by omega) (by omega)).trans hr0)
  have hK2 := (hk0.trans HK1.out).trans (.of_below b2)
  have hw2 : w.heap.size < W2.heap.size := (Array.getElem?_eq_some_iff.1 hrR).1
  have hb3 : Below W2.heap.size W2 (W2.alloc (.cells #[.string x.n, .slice none 0 0] 58)) := (Below.refl _ W2).alloc (Nat.le_refl _) _
  have HP := hide (PW.mk (w := w) (B := B) (R := w.heap.size) (P := W2.heap.size) (n := x.n) (v := .slice none 0 0) (L := []) ((hb3.block _ hw2).trans hrR) (World.alloc_heap_new W2 (.cells #[.string x.n, .slice none 0 0] 58)) (SR.nil _ _) (hK2.trans (.of_below hb3)) hl1 (Nat.le_refl _) hw2)
  have HR3 := hide (hR2.later hb3)
  clear hr0 hk0 hR2 hrR hK2 hb3 b2 HR1 HK1 HR0 d0 d1 hl1 hwr hw2
  have hks : (vK x.vs (c :: b)).length ≤ 100000000 := by
    have := congrArg List.length hr
    rw [Tl.tx_len, List.length_append, List.length_cons] at this
    omega
  have hlen := ho.l
  have hcn : ((c.toNat : Int) == 44) = false := by
    rw [beq_eq_false_iff_ne]
    intro e
    exact hc2 (UInt8.toNat_inj.1 (by have : (44 : UInt8).toNat = 44 := rfl; omega))
  have h44 : (((44 : UInt8).toNat : Int) == 44) = true := rfl
  have HV := hide hvB
  have HO := hide ho.v
  clear hr hx hx2 hn hvB hne KU KN h61 h61b hc2 ho
  go_wp2_with fail
  generalize hWW : W2.alloc (.cells #[.string x.n, .slice none 0 0] 58) = W4 at *
  generalize hPP : W2.heap.size = P at *
  clear hWW hPP
  go_loopw [9] (fun u wr => ∃ (k : Nat) (mo : Bool) (v : Value), u = .bool mo ∧ k ≤ x.vs.length ∧ PW w B w.heap.size P x.n v (x.vs.take k) wr ∧ ((mo = true ∧ k < x.vs.length ∧ (vK (x.vs.drop k) (c :: b)).length ≤ 100000000 ∧ ∃ mk, RdB wr B (Tl.str (vK (x.vs.drop k) (c :: b))) mk) ∨ (mo = false ∧ k = x.vs.length ∧ RdB wr B (Tl.str b) c.toNat))) (fun _ wr => restOf wr B)
  case atStart => exact ⟨0, true, .slice none 0 0, rfl, by omega, by rw [List.take_zero]; exact HP.out, .inl ⟨rfl, by omega, hks, _, HR3.out⟩⟩
  case round =>
    clear HP HR3 hks
    obtain ⟨k, mo, v, rfl, hk, hP, ⟨rfl, hlt, hl1, mk1, hR⟩ | ⟨rfl, rfl, hR⟩⟩ := hrel
    · obtain ⟨m, r, hvk, hmr⟩ := vK_drop x.vs k hlt c b
      have hst : x.vs.take (k + 1) = x.vs.take k ++ [x.vs[k]] := by rw [List.take_add_one, List.getElem?_eq_getElem hlt]; rfl
      rw [hvk] at hR hl1
      have hm : isE m = true := by
        rcases hmr with ⟨_, rfl, _⟩ | ⟨_, rfl, _⟩
        · decide
        · exact hc
      have KV := hide (fun W mk (h : RdB W B (Tl.str (Tl.tx (quo x.vs[k]) ++ m :: r)) mk) => value_any x.vs[k] (HV.out k hlt) (by
        rw [List.length_append, Tl.tx_len] at hl1
        have : x.vs[k].size ≤ (quo x.vs[k]).size := by
          unfold quo; split
          · simp only [ByteArray.size_append]; omega
          · omega
        omega) m hm r _ (Tl.tx_str _) mk B W h (by rw [Tl.str_size]; omega))
      have hrest := restOf_eq hR
      have HR := hide hR
      have HP2 := hide hP
      have HL := hide hl1
      have hlk : (x.vs.take k).length ≤ 1000000000 := by rw [List.length_take]; omega
      clear hR hP hvk hl1
      go_wp2_with fail
      refine (KV.out _ _ HR.out).mono ?_
      rintro e w1 ⟨rfl, hR1, hK1⟩
      have hP1 := HP2.out.kb hK1
      obtain ⟨p0, p1, p2, p3⟩ := hP1.cells
      have f1 := frozen_of hP1.p 1
      obtain ⟨a0, l0, c0, rfl⟩ := ownr_form' hP1.s
      have hb2 : Below w1.heap.size w1 (w1.alloc (.cells #[.string x.vs[k]] 9)) := (Below.refl _ w1).alloc (Nat.le_refl _) _
      have hP2 := hP1.later hb2
      have hR2 := hR1.later hb2
      have hnw := one_newS w1 9 x.vs[k]
      have hpl := hP2.plt
      have hbl := hP2.l1
      have HH := hide (And.intro hP2 (And.intro hR2 (And.intro hnw hpl)))
      have hlB : B < P := by have := hP2.l1; have := hP2.l2; have := hP2.l3; omega
      clear hR1 hK1 hP1 hb2 hP2 hR2 hnw HP2 HR KV hpl hbl
      generalize x.vs[k] = z at *
      go_wp2_with (at_builtin; obtain ⟨hP2, hR2, hnw, hpl⟩ := HH.out; refine wpList_append_sr rfl (.tmp 55) (.tmp 57) rfl (P + 1) _ (x.vs.take k) [z] rfl hP2.s ⟨w1.heap.size, 0, none⟩ 1 1 rfl rfl hnw (by simp only [List.length_cons, List.length_nil]; omega) hpl ?_; intro v' w3 q1 q2 q3
                   have hP3 := hP2.store q1 q3
                   have hR3 : RdB w3 B (Tl.str r) m.toNat := (q3.block B (by omega)).trans hR2
                   have g1 : w3.cell? ⟨P, 1, none⟩ = some _ := (q3.cell (p := ⟨P, 1, none⟩) (by show P < P + 1; omega)).trans hP2.cells.2.2.2
                   have g2 : w3.frozen? ⟨P, 1, none⟩ = false := frozen_of ((q3.block P (by omega)).trans hP2.p) 1
                   obtain ⟨g3, g4⟩ := hR3.cells
                   obtain ⟨a1, l1, c1, rfl⟩ := ownr_form' q1
                   clear q1 q2 q3 hP2 hR2 hnw hpl)
      have hR4 : RdB (w3.setCell ⟨P, 1, none⟩ (.slice a1 l1 c1)) B (Tl.str r) m.toNat := (Below.heap_setCell _ _ _ B (fun e => by have e' : B = P := e; omega)).trans hR3
      have hrest2 := restOf_eq hR4
      have hlt2 : (Tl.str r).size < (Tl.str (Tl.tx (quo z) ++ m :: r)).size := by
        rw [Tl.str_size, Tl.str_size, List.length_append, List.length_cons]; omega
      rw [← hst] at hP3
      have HP3 := hide hP3
      have HR4 := hide hR4
      clear hP3 hR4 hR3 g1 g2 g3 g4 HH p0 p1 p2 p3 f1
      go_roundw
      case rel =>
        rcases hmr with ⟨h1, rfl, rfl⟩ | ⟨h1, rfl, rfl⟩
        · have := HL.out
          rw [List.length_append, List.length_cons] at this
          exact ⟨k + 1, true, _, by rw [h44], by omega, HP3.out, .inl ⟨rfl, h1, by omega, _, HR4.out⟩⟩
        · exact ⟨k + 1, false, _, by rw [hcn], by omega, HP3.out, .inr ⟨rfl, h1, HR4.out⟩⟩
      case measure => rw [hrest2, hrest]; exact hlt2
    · rw [List.take_length] at hP
      obtain ⟨p0, p1, p2, p3⟩ := hP.cells
      obtain ⟨a0, c0, rfl, hsl⟩ := SR.sl hP.s
      have fR := frozen_of hP.r
      have HP := hide hP
      have HR := hide hR
      have HS := hide hsl
      clear hP hR hsl
      go_wp2_with fail
      have hP := HP.out
      have hl1 := hP.l1
      have hl2 := hP.l2
      have hl3 := hP.l3
      have hpl := hP.plt
      have hset : ∀ k, k ≠ w.heap.size → ((wr.setCell ⟨w.heap.size, 0, none⟩ (.string x.n)).setCell ⟨w.heap.size, 1, none⟩ (.slice a0 x.vs.length c0)).heap[k]? = wr.heap[k]? := fun k hk =>
        (Below.heap_setCell _ _ _ k (fun e => hk e)).trans (Below.heap_setCell _ _ _ k (fun e => hk e))
      have hsz : wr.heap.size ≤ ((wr.setCell ⟨w.heap.size, 0, none⟩ (.string x.n)).setCell ⟨w.heap.size, 1, none⟩ (.slice a0 x.vs.length c0)).heap.size := Nat.le_trans (KeepsWalks.setCell _ _ _).size (KeepsWalks.setCell _ _ _).size
      have hrow : ((wr.setCell ⟨w.heap.size, 0, none⟩ (.string x.n)).setCell ⟨w.heap.size, 1, none⟩ (.slice a0 x.vs.length c0)).heap[w.heap.size]? = some (.cells #[.string x.n, .slice a0 x.vs.length c0] 58 (0, 0)) := by
        rw [setCell_eq_setRow _ w.heap.size 1 #[.string x.n, .slice none 0 0] 58 (0, 0) _ (by rw [setCell_eq_setRow wr w.heap.size 0 _ _ _ _ hP.r]; exact setRow_heap wr _ _ _ _ _ hP.r)]
        exact setRow_heap _ _ _ _ _ _ (by rw [setCell_eq_setRow wr w.heap.size 0 _ _ _ _ hP.r]; exact setRow_heap wr _ _ _ _ _ hP.r)
      have hF : Fpt (SL a0 x.vs) w.heap.size ((wr.setCell ⟨w.heap.size, 0, none⟩ (.string x.n)).setCell ⟨w.heap.size, 1, none⟩ (.slice a0 x.vs.length c0)).heap.size ((wr.setCell ⟨w.heap.size, 0, none⟩ (.string x.n)).setCell ⟨w.heap.size, 1, none⟩ (.slice a0 x.vs.length c0)) := by
        refine ⟨Nat.le_refl _, fun W' ha hz => ?_⟩
        have h1 := ownsRow_agree (e := 0) (w' := W') hP.s (fun g hg => by
          have := hP.s.lt g hg
          exact (ha g (by omega) (by omega)).trans (hset g (by omega)))
        obtain ⟨a2, c2, e2, hs2⟩ := SR.sl h1
        cases e2
        exact hs2
      have hRR : RdB ((wr.setCell ⟨w.heap.size, 0, none⟩ (.string x.n)).setCell ⟨w.heap.size, 1, none⟩ (.slice a0 x.vs.length c0)) B (Tl.str b) c.toNat := (hset B (by omega)).trans HR.out
      have hKK : KB B w ((wr.setCell ⟨w.heap.size, 0, none⟩ (.string x.n)).setCell ⟨w.heap.size, 1, none⟩ (.slice a0 x.vs.length c0)) :=
        ⟨hP.k.os, hP.k.tape, hP.k.output, Nat.le_trans hP.k.size hsz, fun k hk hne => (hset k (by omega)).trans (hP.k.block k hk hne)⟩
      refine bodyPost_ret (v := .tuple #[.agg #[.string x.n, .slice a0 x.vs.length c0], .nilIface]) ?_ rfl ⟨a0, c0, rfl, hF, hRR, hKK⟩
      rw [results_cell_tmp rfl]
      show ((asAddr (.pointer (some ⟨w.heap.size, 0, none⟩))).run _ _).andThen _ = _
      simp only [asAddr, Sem.run_pure, Result.andThen_ok, run_loadVar_row _ w.heap.size _ 58 _ _ _ hrow Tryd.underlying58 rfl (by kernel_rfl)]
      rfl
end Go.Proofs.YtponocolfjkapaaDoor
