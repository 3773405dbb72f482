/- BusyBest: who of some can't (the closure). -/
import Derived.Test.YtabgoicholknoaaDoorBusH
import Derived.Test.YtabgoicholknoaaDoorMomOp
import Derived.Test.YtabgoicholknoaaDoorMomPl
import Derived.Deep.RegionHeld3
namespace Go.Proofs.YtabgoicholknoaaDoor
open Go.RowKit Go.Shelf Go.Maps
set_option linter.unusedVariables false
set_option linter.unusedSimpArgs false

/-- the law's boxes that the closure has: people, what is looked for; and whatever is elder than a world -/
structure BL (B1 B2 : Nat) (n : Int) (pd : Option Addr) (pc : Nat) (Ps : List (List (Int × Int))) (k : Nat) (g : Nat) (e : Value) (w X : World) : Prop where
  p0 : X.cell? ⟨B1, 0, none⟩ = some (.slice pd Ps.length pc)
  l0 : X.cell? ⟨B2, 0, none⟩ = some (.int .i64 n)
  e0 : X.cell? ⟨g, k, none⟩ = some e
  b : Below w.heap.size w X
  z1 : B1 < w.heap.size
  z2 : B2 < w.heap.size
  z3 : g < w.heap.size
section
variable {B1 B2 : Nat} {n : Int} {pd : Option Addr} {pc : Nat} {Ps : List (List (Int × Int))} {k g : Nat} {e : Value} {w X X' : World}
theorem BL.later (h : BL B1 B2 n pd pc Ps k g e w X) (hb : Below X.heap.size X X') : BL B1 B2 n pd pc Ps k g e w X' := by
  have hz := h.b.size
  have h1 := h.z1
  have h2 := h.z2
  have h3 := h.z3
  exact ⟨(hb.cell (show B1 < _ by omega)).trans h.p0, (hb.cell (show B2 < _ by omega)).trans h.l0, (hb.cell (show g < _ by omega)).trans h.e0, h.b.trans (hb.mono hz), h1, h2, h3⟩
theorem BL.alloc (h : BL B1 B2 n pd pc Ps k g e w X) (o : Obj) : BL B1 B2 n pd pc Ps k g e w (X.alloc o) := h.later ((Below.refl _ X).alloc (Nat.le_refl _) o)
theorem BL.drew (h : BL B1 B2 n pd pc Ps k g e w X) : BL B1 B2 n pd pc Ps k g e w X.drew := h.later (Below.refl _ X).drew
theorem BL.cells (h : BL B1 B2 n pd pc Ps k g e w X) : X.cell? ⟨B1, 0, none⟩ = some (.slice pd Ps.length pc) ∧ X.cell? ⟨B2, 0, none⟩ = some (.int .i64 n) ∧ X.cell? ⟨g, k, none⟩ = some e := ⟨h.p0, h.l0, h.e0⟩
theorem BL.set (h : BL B1 B2 n pd pc Ps k g e w X) (Bx : Nat) (hx : w.heap.size ≤ Bx) (v : Value) : BL B1 B2 n pd pc Ps k g e w (X.setCell ⟨Bx, 0, none⟩ v) := by
  have h1 := h.z1
  have h2 := h.z2
  have h3 := h.z3
  have hc : ∀ q o, q ≠ Bx → (X.setCell ⟨Bx, 0, none⟩ v).cell? ⟨q, o, none⟩ = X.cell? ⟨q, o, none⟩ := fun q o hq => by
    have := Below.heap_setCell X ⟨Bx, 0, none⟩ v q (fun e => hq e)
    simp only [World.cell?, this]
  exact ⟨(hc _ _ (by omega)).trans h.p0, (hc _ _ (by omega)).trans h.l0, (hc _ _ (by omega)).trans h.e0, h.b.setCell (p := ⟨Bx, 0, none⟩) hx v, h1, h2, h3⟩
end
theorem sps_one {X : World} {g : Nat} {a b : Int} (h0 : X.cell? ⟨g, 0, none⟩ = some (.int .i64 a)) (h1 : X.cell? ⟨g, 1, none⟩ = some (.int .i64 b)) : SpsW X (.slice (some ⟨g, 0, none⟩) 1 1) [(a, b)] :=
  ⟨some ⟨g, 0, none⟩, 1, rfl, fun j hj => by
    obtain rfl : j = 0 := by simpa using hj
    exact ⟨_, rfl, h0, h1⟩⟩
/-- what is free tells whether the set meets the time -/
theorem an_bz {L M : List (Int × Int)} (hL : InvL L) (hM : InvL M) (t n : Int) (hn : 0 ≤ n) (t1 : -1000000000000 ≤ t) (t2 : t ≤ 1000000000000) (n2 : n ≤ 1000000000000) (hin : ∀ u, InS M u ↔ -1152921504606846976 ≤ u ∧ u < 1152921504606846976 ∧ InS [(t, t + n)] u) :
    decide ((0 : Int) < ((anL L M).length : Int)) = bz t n L := by
  rw [Bool.eq_iff_iff, bz_iff, decide_eq_true_eq]
  have hA := anL_inv hL hM
  constructor
  · intro h
    cases hl : anL L M with
    | nil => rw [hl] at h; simp at h
    | cons p l =>
      have hp := hA.1 p (by rw [hl]; simp)
      have hi : InS (anL L M) p.1 := ⟨p, by rw [hl]; simp, Int.le_refl _, hp.2.1⟩
      obtain ⟨i1, i2⟩ := (anL_in hL hM _).1 hi
      have := ((hin _).1 i2).2.2
      rw [inS_one] at this
      exact ⟨p.1, this.1, this.2, i1⟩
  · rintro ⟨u, h1, h2, h3⟩
    have hi : InS (anL L M) u := (anL_in hL hM _).2 ⟨h3, (hin _).2 ⟨by omega, by omega, (inS_one _ _).2 ⟨h1, h2⟩⟩⟩
    obtain ⟨p, hp, _⟩ := hi
    have := List.length_pos_of_mem hp
    omega
theorem set_box {w : World} {v : Value} {R : List (Int × Int)} {B : Nat} {a : Option Addr} {l c : Nat} (h : SetAt w v R) (hc : w.cell? ⟨B, 0, none⟩ = some (.slice a l c)) (u : Value) : SetAt (w.setCell ⟨B, 0, none⟩ u) v R := by
  rcases h with h | ⟨g, k, e, hk, hg, hA⟩
  · exact .inl h
  · refine .inr ⟨g, k, e, hk, Nat.lt_of_lt_of_le hg (KeepsWalks.setCell _ _ _).size, fun j hj => ?_⟩
    have hne : g ≠ B := fun e => by
      subst e
      have := (hA 0 (by omega)).1
      rw [Nat.zero_mul, hc] at this
      cases this
    have hh := Below.heap_setCell w ⟨B, 0, none⟩ u g (fun e => hne e)
    have := hA j hj
    simp only [World.cell?, hh] at this ⊢
    exact this
theorem box_set {w : World} {B : Nat} {x : Value} {t : TypeId} (h : w.heap[B]? = some (.cells #[x] t (0, 0))) (u : Value) : (w.setCell ⟨B, 0, none⟩ u).cell? ⟨B, 0, none⟩ = some u := by
  rw [setCell_eq_setRow w B 0 _ _ _ _ h]
  exact cell_of_row _ _ 0 _ _ (0, 0) (setRow_heap w B _ _ _ _ h)
theorem clos_filter (f : Int → Bool) (l : List Int) (m : Nat) (h : m < l.length) : (((l.take (m + 1)).filter f).length : Int) = ((l.take m).filter f).length + (if f (l.getD m 0) = true then 1 else 0) := by
  rw [filter_take f l m h, List.length_append]
  cases f (l.getD m 0) <;> simp
set_option maxRecDepth 100000 in
set_option maxHeartbeats 1000000 in
theorem bmiss_any (B1 B2 : Nat) (t n : Int) (t1 : -1000000000000 ≤ t) (t2 : t ≤ 1000000000000) (n1 : 0 ≤ n) (n2 : n ≤ 1000000000000) (pd : Option Addr) (pc : Nat) (Ps : List (List (Int × Int))) (hPs : ∀ p ∈ Ps, InvL p ∧ p.length ≤ 1000) (who : List Int) (hwho : ∀ x ∈ who, 0 ≤ x ∧ x < Ps.length) (v : Value) (w : World) (hI : IsAt w v who)
    (hp : PsAt w (.slice pd Ps.length pc) Ps) (h1 : w.cell? ⟨B1, 0, none⟩ = some (.slice pd Ps.length pc)) (h2 : w.cell? ⟨B2, 0, none⟩ = some (.int .i64 n)) :
    Calls Tryd.prog 7 #[v, .int .i64 t, .pointer (some ⟨B1, 0, none⟩), .pointer (some ⟨B2, 0, none⟩)] w fun e w' => e = .returned (.int .i64 ((who.filter (bads t n Ps)).length : Int)) ∧ Below w.heap.size w w' := by
  obtain ⟨ad, cap, rfl, hlen, hall⟩ := hI
  have HALL := hide hall
  have HW := hide hwho
  have HP := hide (And.intro hp (And.intro h1 h2))
  have hw2 : wrap64 (t + n) = t + n := by rw [wrap64_id] <;> omega
  obtain ⟨R, hR⟩ : ∃ R : Int, ((who.filter (bads t n Ps)).length : Int) = R := ⟨_, rfl⟩
  rw [hR]
  have HR := hide hR
  clear hall hwho hp h1 h2 hR
  go_enter Tryd.func7, Tryd.ntmps7
  go_wp2_with fail
  go_loopw [7, 13] (fun q i wr => ∃ m : Nat, m ≤ who.length ∧ i = .int .i64 m ∧ q = .int .i64 (((who.take m).filter (bads t n Ps)).length : Int) ∧ Below w.heap.size w wr) (fun _ i _ => who.length - (intOf i).toNat)
  case atStart => exact ⟨0, by omega, rfl, rfl, Below.refl _ _⟩
  case round =>
    obtain ⟨m, hm, rfl, rfl, hb⟩ := hrel
    by_cases hlt : m < who.length
    · have hmi : (m : Int) < (who.length : Int) := by omega
      obtain ⟨gx, og, rfl, hx⟩ := HALL.out m hlt
      have hx0 := (hb.cell (World.block_lt_of_cell? w _ hx)).trans hx
      have hwx := HW.out (who.getD m 0) (by rw [getD_at who m 0 hlt]; exact List.getElem_mem hlt)
      have hst := clos_filter (bads t n Ps) who m hlt
      have hfl : ((who.take m).filter (bads t n Ps)).length ≤ m := Nat.le_trans (List.length_filter_le _ _) (by rw [List.length_take]; omega)
      generalize who.getD m 0 = x at hx0 hwx hst
      obtain ⟨k, rfl⟩ : ∃ k : Nat, x = k := ⟨x.toNat, by omega⟩
      have hk : k < Ps.length := by omega
      obtain ⟨g, a, l, c, rfl, hy, hset⟩ := HP.out.1.form hk
      have hpk := hPs (Ps.getD k []) (by rw [getD_at Ps k [] hk]; exact List.getElem_mem hk)
      have hpe : bads t n Ps (k : Int) = bz t n (Ps.getD k []) := by unfold bads psn; rw [Int.toNat_natCast]
      rw [hpe] at hst
      have hset' := hset.below hb
      have hS0 : BL B1 B2 n (some ⟨g, 0, none⟩) pc Ps k g (.slice a l c) wr wr := by
        have z1 := World.block_lt_of_cell? w _ HP.out.2.1
        have z2 := World.block_lt_of_cell? w _ HP.out.2.2
        have z3 := World.block_lt_of_cell? w _ hy
        have hz := hb.size
        exact ⟨(hb.cell z1).trans HP.out.2.1, (hb.cell z2).trans HP.out.2.2, (hb.cell z3).trans hy, Below.refl _ wr, by simp at z1; omega, by simp at z2; omega, by simp at z3; omega⟩
      have hS : BL B1 B2 n (some ⟨g, 0, none⟩) pc Ps k g (.slice a l c) wr wr.drew := by
        have z1 := World.block_lt_of_cell? w _ HP.out.2.1
        have z2 := World.block_lt_of_cell? w _ HP.out.2.2
        have z3 := World.block_lt_of_cell? w _ hy
        have hz := hb.size
        exact ⟨(hb.cell z1).trans HP.out.2.1, (hb.cell z2).trans HP.out.2.2, (hb.cell z3).trans hy, (Below.refl _ wr).drew, by simp at z1; omega, by simp at z2; omega, by simp at z3; omega⟩
      generalize Ps.getD k [] = L at *
      have hk0 : (0 : Int) ≤ k := by omega
      have hk1 : (k : Int) < Ps.length := by omega
      have HST := hide (And.intro hst (And.intro hset' hpk))
      have HB := hide hb
      clear hst hset' hset hpk hx hy hpe hb hwx
      have hoL : Ok 300000 L := ⟨HST.out.2.2.1, by have := HST.out.2.2.2; omega⟩
      have hnA : ((wr.drew.alloc (.cells #[.int .i64 t, .int .i64 (t + n)] 42)).alloc (.cells #[.slice none 0 0] 32)).heap[wr.heap.size + 1]? = some (.cells #[.slice none 0 0] 32) := by
        have := World.alloc_heap_new (wr.drew.alloc (.cells #[.int .i64 t, .int .i64 (t + n)] 42)) (.cells #[.slice none 0 0] 32)
        rw [World.size_alloc] at this; exact this
      have hnB : ((wr.drew.alloc (.cells #[.slice none 0 0] 32)).alloc (.cells #[.int .i64 t, .int .i64 (t + n)] 42)).heap[wr.heap.size]? = some (.cells #[.slice none 0 0] 32) :=
        (((Below.refl (wr.heap.size + 1) (wr.drew.alloc (.cells #[.slice none 0 0] 32))).alloc (by rw [World.size_alloc]; exact Nat.le_refl _) (.cells #[.int .i64 t, .int .i64 (t + n)] 42)).block _ (by omega)).trans (World.alloc_heap_new wr.drew (.cells #[.slice none 0 0] 32))
      have HNA := hide hnA
      have HNB := hide hnB
      clear hnA hnB
      have hw3 : IntKind.i64.wrap (t + n) = t + n := by rw [IntKind.wrap_i64]; omega
      go_wp2_with fail
      go_region_held3 (fun X => X.cell? ⟨B1, 0, none⟩ = some (.slice (some ⟨g, 0, none⟩) Ps.length pc) ∧ X.cell? ⟨B2, 0, none⟩ = some (.int .i64 n) ∧ X.cell? ⟨g, k, none⟩ = some (.slice a l c))
        (first | (with_reducible exact hS.cells) | (with_reducible exact (hS.alloc _).cells) | (with_reducible exact ((hS.alloc _).alloc _).cells) | exact (BL.drew (BL.alloc hS0 _)).cells | exact (BL.drew (BL.alloc (BL.alloc hS0 _) _)).cells | exact BL.cells (by assumption) | exact BL.cells (BL.alloc (by assumption) _) | exact (BL.drew (by assumption)).cells | exact (BL.drew (BL.alloc (by assumption) _)).cells | exact (BL.set hL2 _ (by first | omega | exact hL1.b.size) _).cells | exact (BL.set (hL2.alloc _) _ (by exact hL2.b.size) _).cells | exact (BL.drew (BL.set hL2 _ (by first | omega | exact hL1.b.size) _)).cells | exact (BL.drew (BL.set (hL2.alloc _) _ (by exact hL2.b.size) _)).cells | fail)
        (first
          | (go_at_call 4; (with_reducible refine (timesOf_in _ [(t, IntKind.i64.wrap (t + n))] (by simp) _ (sps_one (by simp) (by simp [hw3]))).mono ?_); rintro e X1 ⟨a1, l1, c1, M, rfl, hok1, hs1, hb1, _, hin1⟩; (have hL1 : BL B1 B2 n (some ⟨g, 0, none⟩) pc Ps k g (.slice a l c) wr X1 := BL.later (by first | exact hS.alloc _ | exact (hS.alloc _).alloc _ | exact (hS0.alloc _).drew | exact ((hS0.alloc _).alloc _).drew) hb1); (have hoM : Ok 300000 M := hok1.mono (by simp)); (try (have bh := (hb1.block _ (by simp)).trans HNA.out)); (try (have bh := (hb1.block _ (by simp; omega)).trans HNB.out)))
          | (go_at_call 8; (have hLc : SetAt X1 (.slice a l c) L := HST.out.2.1.below hL1.b); first | (with_reducible refine (pand_set a l c L hoL a1 l1 c1 M hoM X1 hLc hs1).mono ?_); rintro e X2 ⟨a2, l2, c2, rfl, hs2, hb2⟩; (have hL2 : BL B1 B2 n (some ⟨g, 0, none⟩) pc Ps k g (.slice a l c) wr X2 := hL1.later hb2); (try ((have bh2 := (hb2.block _ (Array.getElem?_eq_some_iff.1 bh).1).trans bh); (have bc := cell_of_row _ _ 0 _ _ (0, 0) bh2); (have bf := frz bh2))) | (with_reducible refine (pand_set a l c L hoL a1 l1 c1 M hoM X1.drew (hLc.below (Below.refl _ _).drew) (hs1.below (Below.refl _ _).drew)).mono ?_); rintro e X2 ⟨a2, l2, c2, rfl, hs2, hb2⟩; (have hL2 : BL B1 B2 n (some ⟨g, 0, none⟩) pc Ps k g (.slice a l c) wr X2 := hL1.drew.later hb2); (try ((have bh2 := (hb2.block _ (Array.getElem?_eq_some_iff.1 bh).1).trans bh); (have bc := cell_of_row _ _ 0 _ _ (0, 0) bh2); (have bf := frz bh2))) | (with_reducible refine (pand_set a l c L hoL a1 l1 c1 M hoM (X1.alloc (.cells #[.slice none 0 0] 32)) (hLc.below ((Below.refl _ _).alloc (Nat.le_refl _) _)) (hs1.below ((Below.refl _ _).alloc (Nat.le_refl _) _))).mono ?_); rintro e X2 ⟨a2, l2, c2, rfl, hs2, hb2⟩; (have hL2 : BL B1 B2 n (some ⟨g, 0, none⟩) pc Ps k g (.slice a l c) wr X2 := (hL1.alloc _).later hb2); (have bh2 := (hb2.block _ (by simp)).trans (World.alloc_heap_new X1 (.cells #[.slice none 0 0] 32))); (have bc := cell_of_row _ _ 0 _ _ (0, 0) bh2); (have bf := frz bh2) | (with_reducible refine (pand_set a l c L hoL a1 l1 c1 M hoM (X1.alloc (.cells #[.slice none 0 0] 32)).drew (hLc.below ((Below.refl _ _).alloc (Nat.le_refl _) _).drew) (hs1.below ((Below.refl _ _).alloc (Nat.le_refl _) _).drew)).mono ?_); rintro e X2 ⟨a2, l2, c2, rfl, hs2, hb2⟩; (have hL2 : BL B1 B2 n (some ⟨g, 0, none⟩) pc Ps k g (.slice a l c) wr X2 := (hL1.alloc _).drew.later hb2); (have bh2 := (hb2.block _ (by simp [World.drew])).trans (World.alloc_heap_new X1 (.cells #[.slice none 0 0] 32))); (have bc := cell_of_row _ _ 0 _ _ (0, 0) bh2); (have bf := frz bh2))
          | fail)
      · have hbx : Below wr.heap.size wr (X2.alloc (.cells #[.slice a2 l2 c2] 32)) := (hL2.alloc _).b
        have hsx : SetAt (X2.alloc (.cells #[.slice a2 l2 c2] 32)) (.slice a2 l2 c2) (anL L M) := hs2.below ((Below.refl _ _).alloc (Nat.le_refl _) _)
        have hcx : (X2.alloc (.cells #[.slice a2 l2 c2] 32)).cell? ⟨X2.heap.size, 0, none⟩ = some (.slice a2 l2 c2) := cell_of_row _ _ 0 _ _ (0, 0) (World.alloc_heap_new X2 (.cells #[.slice a2 l2 c2] 32))
        rw [hw3] at hin1
        have han := an_bz hoL.1 hok1.1 t n n1 t1 t2 n2 hin1
        have hla := anL_len hoL.1 hok1.1
        have hlm : M.length ≤ 1 := by have := hok1.2; simpa using this
        have hlb := HST.out.2.2.2
        generalize X2.alloc (.cells #[.slice a2 l2 c2] 32) = Wf at *
        have KS := hide (pspans_any a2 l2 c2 (anL L M) (by omega) Wf hsx.sps)
        have HC := hide (And.intro HST.out.1 (HB.out.trans (hbx.mono HB.out.size)))
        have HN := hide han
        clear hbx hsx han HNA HNB hS hS0 HST hb1 hb2 hL1 hL2 hs1 hs2 hok1 hoM hoL hLc hin1 hla hlm hlb HB
        go_wp2_with fail
        refine KS.out.mono ?_
        rintro e X3 ⟨v3, rfl, ho3, hb3⟩
        obtain ⟨a3, c3, rfl⟩ := own_len ho3
        have hb4 := HC.out.2.trans (hb3.mono HC.out.2.size)
        clear hcx ho3 hb3 KS
        generalize (anL L M).length = q at *
        cases hbb : bz t n L with
        | true =>
          have hq : (0 : Int) < (q : Int) := of_decide_eq_true (HN.out.trans hbb)
          go_wp2
          go_roundw
          case rel => exact ⟨m + 1, by omega, by go_num, by rw [HC.out.1, if_pos hbb], hb4⟩
          case measure => simp [intOf]; omega
        | false =>
          have hq : ¬ (0 : Int) < (q : Int) := of_decide_eq_false (HN.out.trans hbb)
          go_wp2
          go_roundw
          case rel => exact ⟨m + 1, by omega, by go_num, by rw [HC.out.1, if_neg (by simp [hbb]), Int.add_zero], hb4⟩
          case measure => simp [intOf]; omega
      · have hbx : Below wr.heap.size wr (X2.setCell ⟨X1.heap.size, 0, none⟩ (.slice a2 l2 c2)) := (hL2.set _ hL1.b.size _).b
        have hsx : SetAt (X2.setCell ⟨X1.heap.size, 0, none⟩ (.slice a2 l2 c2)) (.slice a2 l2 c2) (anL L M) := set_box hs2 bc _
        have hcx : (X2.setCell ⟨X1.heap.size, 0, none⟩ (.slice a2 l2 c2)).cell? ⟨X1.heap.size, 0, none⟩ = some (.slice a2 l2 c2) := box_set bh2 _
        rw [hw3] at hin1
        have han := an_bz hoL.1 hok1.1 t n n1 t1 t2 n2 hin1
        have hla := anL_len hoL.1 hok1.1
        have hlm : M.length ≤ 1 := by have := hok1.2; simpa using this
        have hlb := HST.out.2.2.2
        generalize X2.setCell ⟨X1.heap.size, 0, none⟩ (.slice a2 l2 c2) = Wf at *
        have KS := hide (pspans_any a2 l2 c2 (anL L M) (by omega) Wf hsx.sps)
        have HC := hide (And.intro HST.out.1 (HB.out.trans (hbx.mono HB.out.size)))
        have HN := hide han
        clear hbx hsx han HNA HNB hS hS0 HST hb1 hb2 hL1 hL2 hs1 hs2 hok1 hoM hoL hLc hin1 hla hlm hlb HB
        go_wp2_with fail
        refine KS.out.mono ?_
        rintro e X3 ⟨v3, rfl, ho3, hb3⟩
        obtain ⟨a3, c3, rfl⟩ := own_len ho3
        have hb4 := HC.out.2.trans (hb3.mono HC.out.2.size)
        clear hcx ho3 hb3 KS
        generalize (anL L M).length = q at *
        cases hbb : bz t n L with
        | true =>
          have hq : (0 : Int) < (q : Int) := of_decide_eq_true (HN.out.trans hbb)
          go_wp2
          go_roundw
          case rel => exact ⟨m + 1, by omega, by go_num, by rw [HC.out.1, if_pos hbb], hb4⟩
          case measure => simp [intOf]; omega
        | false =>
          have hq : ¬ (0 : Int) < (q : Int) := of_decide_eq_false (HN.out.trans hbb)
          go_wp2
          go_roundw
          case rel => exact ⟨m + 1, by omega, by go_num, by rw [HC.out.1, if_neg (by simp [hbb]), Int.add_zero], hb4⟩
          case measure => simp [intOf]; omega
      · have hbx : Below wr.heap.size wr (X2.setCell ⟨wr.heap.size + 1, 0, none⟩ (.slice a2 l2 c2)) := (hL2.set _ (by omega) _).b
        have hsx : SetAt (X2.setCell ⟨wr.heap.size + 1, 0, none⟩ (.slice a2 l2 c2)) (.slice a2 l2 c2) (anL L M) := set_box hs2 bc _
        have hcx : (X2.setCell ⟨wr.heap.size + 1, 0, none⟩ (.slice a2 l2 c2)).cell? ⟨wr.heap.size + 1, 0, none⟩ = some (.slice a2 l2 c2) := box_set bh2 _
        rw [hw3] at hin1
        have han := an_bz hoL.1 hok1.1 t n n1 t1 t2 n2 hin1
        have hla := anL_len hoL.1 hok1.1
        have hlm : M.length ≤ 1 := by have := hok1.2; simpa using this
        have hlb := HST.out.2.2.2
        generalize X2.setCell ⟨wr.heap.size + 1, 0, none⟩ (.slice a2 l2 c2) = Wf at *
        have KS := hide (pspans_any a2 l2 c2 (anL L M) (by omega) Wf hsx.sps)
        have HC := hide (And.intro HST.out.1 (HB.out.trans (hbx.mono HB.out.size)))
        have HN := hide han
        clear hbx hsx han HNA HNB hS hS0 HST hb1 hb2 hL1 hL2 hs1 hs2 hok1 hoM hoL hLc hin1 hla hlm hlb HB
        go_wp2_with fail
        refine KS.out.mono ?_
        rintro e X3 ⟨v3, rfl, ho3, hb3⟩
        obtain ⟨a3, c3, rfl⟩ := own_len ho3
        have hb4 := HC.out.2.trans (hb3.mono HC.out.2.size)
        clear hcx ho3 hb3 KS
        generalize (anL L M).length = q at *
        cases hbb : bz t n L with
        | true =>
          have hq : (0 : Int) < (q : Int) := of_decide_eq_true (HN.out.trans hbb)
          go_wp2
          go_roundw
          case rel => exact ⟨m + 1, by omega, by go_num, by rw [HC.out.1, if_pos hbb], hb4⟩
          case measure => simp [intOf]; omega
        | false =>
          have hq : ¬ (0 : Int) < (q : Int) := of_decide_eq_false (HN.out.trans hbb)
          go_wp2
          go_roundw
          case rel => exact ⟨m + 1, by omega, by go_num, by rw [HC.out.1, if_neg (by simp [hbb]), Int.add_zero], hb4⟩
          case measure => simp [intOf]; omega
      · have hbx : Below wr.heap.size wr (X2.setCell ⟨wr.heap.size, 0, none⟩ (.slice a2 l2 c2)) := (hL2.set _ (by omega) _).b
        have hsx : SetAt (X2.setCell ⟨wr.heap.size, 0, none⟩ (.slice a2 l2 c2)) (.slice a2 l2 c2) (anL L M) := set_box hs2 bc _
        have hcx : (X2.setCell ⟨wr.heap.size, 0, none⟩ (.slice a2 l2 c2)).cell? ⟨wr.heap.size, 0, none⟩ = some (.slice a2 l2 c2) := box_set bh2 _
        rw [hw3] at hin1
        have han := an_bz hoL.1 hok1.1 t n n1 t1 t2 n2 hin1
        have hla := anL_len hoL.1 hok1.1
        have hlm : M.length ≤ 1 := by have := hok1.2; simpa using this
        have hlb := HST.out.2.2.2
        generalize X2.setCell ⟨wr.heap.size, 0, none⟩ (.slice a2 l2 c2) = Wf at *
        have KS := hide (pspans_any a2 l2 c2 (anL L M) (by omega) Wf hsx.sps)
        have HC := hide (And.intro HST.out.1 (HB.out.trans (hbx.mono HB.out.size)))
        have HN := hide han
        clear hbx hsx han HNA HNB hS hS0 HST hb1 hb2 hL1 hL2 hs1 hs2 hok1 hoM hoL hLc hin1 hla hlm hlb HB
        go_wp2_with fail
        refine KS.out.mono ?_
        rintro e X3 ⟨v3, rfl, ho3, hb3⟩
        obtain ⟨a3, c3, rfl⟩ := own_len ho3
        have hb4 := HC.out.2.trans (hb3.mono HC.out.2.size)
        clear hcx ho3 hb3 KS
        generalize (anL L M).length = q at *
        cases hbb : bz t n L with
        | true =>
          have hq : (0 : Int) < (q : Int) := of_decide_eq_true (HN.out.trans hbb)
          go_wp2
          go_roundw
          case rel => exact ⟨m + 1, by omega, by go_num, by rw [HC.out.1, if_pos hbb], hb4⟩
          case measure => simp [intOf]; omega
        | false =>
          have hq : ¬ (0 : Int) < (q : Int) := of_decide_eq_false (HN.out.trans hbb)
          go_wp2
          go_roundw
          case rel => exact ⟨m + 1, by omega, by go_num, by rw [HC.out.1, if_neg (by simp [hbb]), Int.add_zero], hb4⟩
          case measure => simp [intOf]; omega
    · obtain rfl : m = who.length := by omega
      have hmi : ¬ (who.length : Int) < (who.length : Int) := by omega
      have e : ((who.take who.length).filter (bads t n Ps)).length = (who.filter (bads t n Ps)).length := by rw [List.take_length]
      have HE := hide (e ▸ HR.out : (((who.take who.length).filter (bads t n Ps)).length : Int) = R)
      clear e
      go_wp2
      go_ret
      exact ⟨by rw [← HE.out]; simp, hb⟩
end Go.Proofs.YtabgoicholknoaaDoor
