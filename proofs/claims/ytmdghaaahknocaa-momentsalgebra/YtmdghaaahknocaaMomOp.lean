/- moments.Set: Not, And, Or, Less, Next and Has, as calls on sets in memory. -/
import Derived.Test.YtmdghaaahknocaaMomAn
import Derived.Test.YtmdghaaahknocaaMomPo
import Derived.Test.YtmdghaaahknocaaMomL
namespace Go.Proofs.Ytmdghaaahknocaa
open Go.RowKit Go.Shelf
set_option linter.unusedVariables false
set_option linter.unusedSimpArgs false

/-- of the form of a set, and of so many spans at most -/
def Ok (n : Nat) (L : List (Int × Int)) : Prop := InvL L ∧ L.length ≤ n
theorem Ok.not {n : Nat} {L : List (Int × Int)} (h : Ok n L) : Ok (n + 1) (ntL L) := ⟨ntL_inv h.1, by have := ntL_len L; have := h.2; omega⟩
theorem Ok.and {n m : Nat} {L M : List (Int × Int)} (h : Ok n L) (k : Ok m M) : Ok (n + m) (anL L M) := ⟨anL_inv h.1 k.1, by have := anL_len h.1 k.1; have := h.2; have := k.2; omega⟩
theorem Ok.or {n m : Nat} {L M : List (Int × Int)} (h : Ok n L) (k : Ok m M) : Ok (n + m + 3) (orL L M) := ⟨orL_inv h.1 k.1, by have := orL_len h.1 k.1; have := h.2; have := k.2; omega⟩
theorem Ok.less {n m : Nat} {L M : List (Int × Int)} (h : Ok n L) (k : Ok m M) : Ok (n + m + 1) (lsL L M) := ⟨lsL_inv h.1 k.1, by have := lsL_len h.1 k.1; have := h.2; have := k.2; omega⟩
theorem lenOk {n : Nat} {L : List (Int × Int)} (h : Ok n L) (k : n ≤ 1000000) : L.length ≤ 1000000 := Nat.le_trans h.2 k
theorem Ok.mono {n m : Nat} {L : List (Int × Int)} (h : Ok n L) (k : n ≤ m) : Ok m L := ⟨h.1, Nat.le_trans h.2 k⟩
theorem SetAt.slA {w : World} {v : Value} {L : List (Int × Int)} (h : SetAt w v L) : SlA w.heap.size w v L := by
  rcases h with h | ⟨g, c, e, hc, hg, hA⟩
  · exact .inl h
  · exact .inr ⟨g, 0, c, e, hc, hg, fun j hj => by rw [Nat.zero_add]; exact hA j hj⟩
theorem own_base {w : World} {b : Nat} {a : Option Addr} {l c : Nat} {e : TypeId} {z n : Nat} {xs : List Value} (h : w.ownsRow b e z (.slice a l c) n xs) : ∀ g o, a = some ⟨g, o, none⟩ → b ≤ g := fun g o e => by
  rcases h.2 with ⟨h', _⟩ | ⟨g', cap, cur, h', hg', _⟩
  · simp only [Value.slice.injEq] at h'; rw [h'.1] at e; cases e
  · simp only [Value.slice.injEq] at h'
    rw [h'.1] at e
    simp only [Option.some.injEq, Addr.mk.injEq] at e
    have := e.1
    omega
theorem boxed_later {W X : World} {B : Nat} {t : TypeId} {v : Value} (h : Boxed W B t v) (hb : Below W.heap.size W X) : Boxed X B t v := (hb.block B h.lt).trans h
theorem not_set (a : Option Addr) (l c : Nat) (L : List (Int × Int)) (hL : Ok 300000 L) (w : World) (h : SetAt w (.slice a l c) L) :
    Calls Try.prog 18 #[.agg #[.slice a l c]] w fun e W' => ∃ a l c, e = .returned (.agg #[.slice a l c]) ∧ SetAt W' (.slice a l c) (ntL L) ∧ Below w.heap.size w W' ∧ (∀ g o, a = some ⟨g, o, none⟩ → w.heap.size ≤ g) :=
  ((callsIn_wide (n := 6)).1 (not_in a l c L (by have := hL.2; omega) w h.sps)).mono fun e W' ⟨v, he, ho, hb⟩ => by
    obtain ⟨a', l', c', rfl⟩ := own_form ho
    exact ⟨a', l', c', he, setAt_own ho, hb, own_base ho⟩
theorem and_set (a1 : Option Addr) (l1 c1 : Nat) (L : List (Int × Int)) (hL : Ok 300000 L) (a2 : Option Addr) (l2 c2 : Nat) (M : List (Int × Int)) (hM : Ok 300000 M) (w : World) (h1 : SetAt w (.slice a1 l1 c1) L) (h2 : SetAt w (.slice a2 l2 c2) M) :
    Calls Try.prog 16 #[.agg #[.slice a1 l1 c1], .agg #[.slice a2 l2 c2]] w fun e W' => ∃ a l c, e = .returned (.agg #[.slice a l c]) ∧ SetAt W' (.slice a l c) (anL L M) ∧ Below w.heap.size w W' ∧ (∀ g o, a = some ⟨g, o, none⟩ → w.heap.size ≤ g) :=
  (and_any _ _ L M (by have := hL.2; omega) (by have := hM.2; omega) w h1.slA h2.slA).mono fun e W' ⟨v, he, ho, hb⟩ => by
    obtain ⟨a', l', c', rfl⟩ := own_form ho
    exact ⟨a', l', c', he, setAt_own ho, hb, own_base ho⟩
/-- the result's box, and the memory of the caller -/
def OrR (w X : World) : Prop := (∃ u, Boxed X (w.heap.size + 1 + 1) 25 u) ∧ Below w.heap.size w X
theorem orR_below {P : Prop} {w X : World} (h : P ∧ OrR w X) : Below w.heap.size w X := h.2.2
theorem orR_box {P : Prop} {w X : World} (h : P ∧ OrR w X) : ∃ u, X.cell? ⟨w.heap.size + 1 + 1, 0, none⟩ = some u ∧ X.frozen? ⟨w.heap.size + 1 + 1, 0, none⟩ = false := by
  obtain ⟨u, hu⟩ := h.2.1
  exact ⟨u, hu.cell, hu.frozen⟩
theorem orR_lt {P : Prop} {w X : World} (h : P ∧ OrR w X) : w.heap.size + 1 + 1 < X.heap.size := by
  obtain ⟨u, hu⟩ := h.2.1
  exact hu.lt
theorem orS_call {w A B : World} {v1 v2 : Value} (h : (A.cell? ⟨w.heap.size, 0, none⟩ = some v1 ∧ A.cell? ⟨w.heap.size + 1, 0, none⟩ = some v2) ∧ OrR w A) (hb : Below A.heap.size A B) : (B.cell? ⟨w.heap.size, 0, none⟩ = some v1 ∧ B.cell? ⟨w.heap.size + 1, 0, none⟩ = some v2) ∧ OrR w B := by
  obtain ⟨⟨h1, h2⟩, ⟨u, h3⟩, h4⟩ := h
  exact ⟨⟨(hb.cell (World.block_lt_of_cell? _ _ h1)).trans h1, (hb.cell (World.block_lt_of_cell? _ _ h2)).trans h2⟩, ⟨u, boxed_later h3 hb⟩, h4.trans (hb.mono h4.size)⟩
theorem orS_store {w A : World} {v1 v2 : Value} (v : Value) (h : (A.cell? ⟨w.heap.size, 0, none⟩ = some v1 ∧ A.cell? ⟨w.heap.size + 1, 0, none⟩ = some v2) ∧ OrR w A) : ((A.setCell ⟨w.heap.size + 1 + 1, 0, none⟩ v).cell? ⟨w.heap.size, 0, none⟩ = some v1 ∧ (A.setCell ⟨w.heap.size + 1 + 1, 0, none⟩ v).cell? ⟨w.heap.size + 1, 0, none⟩ = some v2) ∧ OrR w (A.setCell ⟨w.heap.size + 1 + 1, 0, none⟩ v) := by
  obtain ⟨⟨h1, h2⟩, ⟨u, h3⟩, h4⟩ := h
  exact ⟨⟨(World.cell?_of_block (Below.heap_setCell _ _ _ _ (by show w.heap.size ≠ w.heap.size + 1 + 1; omega))).trans h1, (World.cell?_of_block (Below.heap_setCell _ _ _ _ (by show w.heap.size + 1 ≠ w.heap.size + 1 + 1; omega))).trans h2⟩, ⟨v, h3.set v⟩, h4.setCell (p := ⟨w.heap.size + 1 + 1, 0, none⟩) (by show w.heap.size ≤ w.heap.size + 1 + 1; omega) v⟩
set_option maxRecDepth 100000 in
set_option maxHeartbeats 4000000 in
theorem or_set (a1 : Option Addr) (l1 c1 : Nat) (L : List (Int × Int)) (hL : Ok 100000 L) (a2 : Option Addr) (l2 c2 : Nat) (M : List (Int × Int)) (hM : Ok 100000 M) (w : World) (h1 : SetAt w (.slice a1 l1 c1) L) (h2 : SetAt w (.slice a2 l2 c2) M) :
    Calls Try.prog 15 #[.agg #[.slice a1 l1 c1], .agg #[.slice a2 l2 c2]] w fun e W' => ∃ a l c, e = .returned (.agg #[.slice a l c]) ∧ SetAt W' (.slice a l c) (orL L M) ∧ Below w.heap.size w W' ∧ (∀ g o, a = some ⟨g, o, none⟩ → w.heap.size ≤ g) := by
  have o1 : Ok 300000 L := ⟨hL.1, by have := hL.2; omega⟩
  have o2 : Ok 300000 M := ⟨hM.1, by have := hM.2; omega⟩
  have p1 : Ok 300000 (ntL L) := ⟨hL.not.1, by have := hL.not.2; omega⟩
  have p2 : Ok 300000 (ntL M) := ⟨hM.not.1, by have := hM.not.2; omega⟩
  have p3 : Ok 300000 (anL (ntL L) (ntL M)) := ⟨(hL.not.and hM.not).1, by have := (hL.not.and hM.not).2; omega⟩
  have hb0 : Below w.heap.size w (((w.alloc (.cells #[.slice a1 l1 c1] 25)).alloc (.cells #[.slice a2 l2 c2] 25)).alloc (.cells #[.slice none 0 0] 25)) := (((Below.refl _ w).alloc (Nat.le_refl _) _).alloc (by simp) _).alloc (by simp; omega) _
  have x1 := ((Boxed.new w 25 (.slice a1 l1 c1)).alloc (.cells #[.slice a2 l2 c2] 25)).alloc (.cells #[.slice none 0 0] 25)
  have x2 := (Boxed.new (w.alloc (.cells #[.slice a1 l1 c1] 25)) 25 (.slice a2 l2 c2)).alloc (.cells #[.slice none 0 0] 25)
  have x3 := Boxed.new ((w.alloc (.cells #[.slice a1 l1 c1] 25)).alloc (.cells #[.slice a2 l2 c2] 25)) 25 (.slice none 0 0)
  simp only [World.size_alloc] at x2 x3
  have hsz : (((w.alloc (.cells #[.slice a1 l1 c1] 25)).alloc (.cells #[.slice a2 l2 c2] 25)).alloc (.cells #[.slice none 0 0] 25)).heap.size = w.heap.size + 3 := by simp
  have HB := hide hb0
  have HX := hide (And.intro x1 (And.intro x2 x3))
  have HZ := hide hsz
  have HN := hide not_set
  have HAN := hide (fun a l c a' l' c' X h h' => and_set a l c (ntL L) p1 a' l' c' (ntL M) p2 X h h')
  have HS := hide (And.intro h1 h2)
  clear hb0 x1 x2 x3 hsz h1 h2
  go_enter Try.func15, Try.ntmps15
  go_wp2_with fail
  have hb0 := HB.out
  have x1 := HX.out.1
  have x2 := HX.out.2.1
  have x3 := HX.out.2.2
  have hsz := HZ.out
  obtain ⟨W0, hW0⟩ : ∃ W0, (((w.alloc (.cells #[.slice a1 l1 c1] 25)).alloc (.cells #[.slice a2 l2 c2] 25)).alloc (.cells #[.slice none 0 0] 25)) = W0 := ⟨_, rfl⟩
  rw [hW0] at hb0 x1 x2 x3 hsz ⊢
  clear hW0 HB HX HZ
  have hS : (W0.drew.cell? ⟨w.heap.size, 0, none⟩ = some (.slice a1 l1 c1) ∧ W0.drew.cell? ⟨w.heap.size + 1, 0, none⟩ = some (.slice a2 l2 c2)) ∧ OrR w W0.drew := ⟨⟨x1.cell, x2.cell⟩, ⟨_, x3⟩, hb0.drew⟩
  clear x1 x2 x3 hb0
  go_region_held3 (fun X => (X.cell? ⟨w.heap.size, 0, none⟩ = some (.slice a1 l1 c1) ∧ X.cell? ⟨w.heap.size + 1, 0, none⟩ = some (.slice a2 l2 c2)) ∧ OrR w X)
    (first | (with_reducible exact hS) | (with_reducible exact orS_store _ hS))
    (first
      | (go_at_call 18; have hq := orR_below hS; (with_reducible refine (HN.out a1 l1 c1 L o1 _ (HS.out.1.below hq)).mono ?_); rintro e X ⟨a3, l3, c3, rfl, hsX, hb, hfr⟩; have hgt := fun g o e => Nat.lt_of_lt_of_le (orR_lt hS) (hfr g o e); (try have hsO := hsN.below hb); have hsN := hsX; have hS := orS_call hS hb; obtain ⟨uu, hcc, hff⟩ := orR_box hS)
      | (go_at_call 18; have hq := orR_below hS; (with_reducible refine (HN.out a2 l2 c2 M o2 _ (HS.out.2.below hq)).mono ?_); rintro e X ⟨a3, l3, c3, rfl, hsX, hb, hfr⟩; have hgt := fun g o e => Nat.lt_of_lt_of_le (orR_lt hS) (hfr g o e); (try have hsO := hsN.below hb); have hsN := hsX; have hS := orS_call hS hb; obtain ⟨uu, hcc, hff⟩ := orR_box hS)
      | (go_at_call 16; (with_reducible refine (HAN.out _ _ _ _ _ _ _ hsO hsN).mono ?_); rintro e X ⟨a5, l5, c5, rfl, hsX, hb, _⟩; have hsN := hsX; have hS := orS_call hS hb)
      | (go_at_call 18; (with_reducible refine (HN.out _ _ _ _ p3 _ hsN).mono ?_); rintro e X ⟨a3, l3, c3, rfl, hsX, hb, hfr⟩; have hgt := fun g o e => Nat.lt_of_lt_of_le (orR_lt hS) (hfr g o e); (try have hsO := hsN.below hb); have hsN := hsX; have hS := orS_call hS hb; obtain ⟨uu, hcc, hff⟩ := orR_box hS)
      | fail)
  have hs2 := hsN.store ⟨w.heap.size + 1 + 1, 0, none⟩ (.slice a3 l3 c3) (fun g o e => Nat.ne_of_gt (hgt g o e))
  have hB2 := orR_below (orS_store (.slice a3 l3 c3) hS)
  obtain ⟨u2, hu2⟩ := (orS_store (.slice a3 l3 c3) hS).2.1
  have hc2 : (X.setCell ⟨w.heap.size + 1 + 1, 0, none⟩ (.slice a3 l3 c3)).cell? ⟨w.heap.size + 1 + 1, 0, none⟩ = some (.slice a3 l3 c3) := by
    obtain ⟨u3, hu3⟩ := hS.2.1
    exact (hu3.set (.slice a3 l3 c3)).cell
  have hlt3 := orR_lt hS
  go_wp2
  (try simp only [Exit.inBlock, Exit.then])
  refine bodyPost_ret (v := .agg #[.slice a3 l3 c3]) ?_ rfl ⟨_, _, _, rfl, hs2, hB2, fun g o e => by have := hgt g o e; omega⟩
  simp [results, Try.results15, go_sem, hc2]
set_option maxRecDepth 100000 in
set_option maxHeartbeats 4000000 in
theorem less_set (a1 : Option Addr) (l1 c1 : Nat) (L : List (Int × Int)) (hL : Ok 100000 L) (a2 : Option Addr) (l2 c2 : Nat) (M : List (Int × Int)) (hM : Ok 100000 M) (w : World) (h1 : SetAt w (.slice a1 l1 c1) L) (h2 : SetAt w (.slice a2 l2 c2) M) :
    Calls Try.prog 17 #[.agg #[.slice a1 l1 c1], .agg #[.slice a2 l2 c2]] w fun e W' => ∃ a l c, e = .returned (.agg #[.slice a l c]) ∧ SetAt W' (.slice a l c) (lsL L M) ∧ Below w.heap.size w W' ∧ (∀ g o, a = some ⟨g, o, none⟩ → w.heap.size ≤ g) := by
  have o1 : Ok 300000 L := ⟨hL.1, by have := hL.2; omega⟩
  have o2 : Ok 300000 M := ⟨hM.1, by have := hM.2; omega⟩
  have p2 : Ok 300000 (ntL M) := ⟨hM.not.1, by have := hM.not.2; omega⟩
  have hb0 : Below w.heap.size w (((w.alloc (.cells #[.slice a1 l1 c1] 25)).alloc (.cells #[.slice a2 l2 c2] 25)).alloc (.cells #[.slice none 0 0] 25)) := (((Below.refl _ w).alloc (Nat.le_refl _) _).alloc (by simp) _).alloc (by simp; omega) _
  have x1 := ((Boxed.new w 25 (.slice a1 l1 c1)).alloc (.cells #[.slice a2 l2 c2] 25)).alloc (.cells #[.slice none 0 0] 25)
  have x2 := (Boxed.new (w.alloc (.cells #[.slice a1 l1 c1] 25)) 25 (.slice a2 l2 c2)).alloc (.cells #[.slice none 0 0] 25)
  have x3 := Boxed.new ((w.alloc (.cells #[.slice a1 l1 c1] 25)).alloc (.cells #[.slice a2 l2 c2] 25)) 25 (.slice none 0 0)
  simp only [World.size_alloc] at x2 x3
  have hsz : (((w.alloc (.cells #[.slice a1 l1 c1] 25)).alloc (.cells #[.slice a2 l2 c2] 25)).alloc (.cells #[.slice none 0 0] 25)).heap.size = w.heap.size + 3 := by simp
  have HB := hide hb0
  have HX := hide (And.intro x1 (And.intro x2 x3))
  have HZ := hide hsz
  have HN := hide not_set
  have HAN := hide (fun a l c a' l' c' X h h' => and_set a l c L o1 a' l' c' (ntL M) p2 X h h')
  have HS := hide (And.intro h1 h2)
  clear hb0 x1 x2 x3 hsz h1 h2
  go_enter Try.func17, Try.ntmps17
  go_wp2_with fail
  have hb0 := HB.out
  have x1 := HX.out.1
  have x2 := HX.out.2.1
  have x3 := HX.out.2.2
  have hsz := HZ.out
  obtain ⟨W0, hW0⟩ : ∃ W0, (((w.alloc (.cells #[.slice a1 l1 c1] 25)).alloc (.cells #[.slice a2 l2 c2] 25)).alloc (.cells #[.slice none 0 0] 25)) = W0 := ⟨_, rfl⟩
  rw [hW0] at hb0 x1 x2 x3 hsz ⊢
  clear hW0 HB HX HZ
  have hS : (W0.drew.cell? ⟨w.heap.size, 0, none⟩ = some (.slice a1 l1 c1) ∧ W0.drew.cell? ⟨w.heap.size + 1, 0, none⟩ = some (.slice a2 l2 c2)) ∧ OrR w W0.drew := ⟨⟨x1.cell, x2.cell⟩, ⟨_, x3⟩, hb0.drew⟩
  clear x1 x2 x3 hb0
  go_region_held3 (fun X => (X.cell? ⟨w.heap.size, 0, none⟩ = some (.slice a1 l1 c1) ∧ X.cell? ⟨w.heap.size + 1, 0, none⟩ = some (.slice a2 l2 c2)) ∧ OrR w X)
    (first | (with_reducible exact hS) | (with_reducible exact orS_store _ hS))
    (first
      | (go_at_call 18; have hq := orR_below hS; (with_reducible refine (HN.out a2 l2 c2 M o2 _ (HS.out.2.below hq)).mono ?_); rintro e X ⟨a3, l3, c3, rfl, hsN, hb, _⟩; have hS := orS_call hS hb)
      | (go_at_call 16; have hq := orR_below hS; (with_reducible refine (HAN.out _ _ _ _ _ _ _ (HS.out.1.below hq) hsN).mono ?_); rintro e X ⟨a3, l3, c3, rfl, hsN, hb, hfr⟩; have hgt := fun g o e => Nat.lt_of_lt_of_le (orR_lt hS) (hfr g o e); have hS := orS_call hS hb; obtain ⟨uu, hcc, hff⟩ := orR_box hS)
      | fail)
  have hs2 := hsN.store ⟨w.heap.size + 1 + 1, 0, none⟩ (.slice a3 l3 c3) (fun g o e => Nat.ne_of_gt (hgt g o e))
  have hB2 := orR_below (orS_store (.slice a3 l3 c3) hS)
  obtain ⟨u2, hu2⟩ := (orS_store (.slice a3 l3 c3) hS).2.1
  have hc2 : (X.setCell ⟨w.heap.size + 1 + 1, 0, none⟩ (.slice a3 l3 c3)).cell? ⟨w.heap.size + 1 + 1, 0, none⟩ = some (.slice a3 l3 c3) := by
    obtain ⟨u3, hu3⟩ := hS.2.1
    exact (hu3.set (.slice a3 l3 c3)).cell
  have hlt3 := orR_lt hS
  go_wp2
  (try simp only [Exit.inBlock, Exit.then])
  refine bodyPost_ret (v := .agg #[.slice a3 l3 c3]) ?_ rfl ⟨_, _, _, rfl, hs2, hB2, fun g o e => by have := hgt g o e; omega⟩
  simp [results, Try.results17, go_sem, hc2]
end Go.Proofs.Ytmdghaaahknocaa
