/- package text: Parse, plain.TextParse, at a text that is too long. -/
import Derived.Test.YtponocolfjkapaaDoorMTextBackUpto39
import Derived.Test.YtponocolfjkapaaDoorMTextBackUpto19
import Derived.Test.YtponocolfjkapaaDoorLinG
import Derived.Deep.RegionHeld3
import Derived.Test.YtponocolfjkapaaDoorMTextBackUpto13
namespace Go.Proofs.YtponocolfjkapaaDoor
open Go.RowKit Go.Shelf
set_option linter.unusedVariables false
set_option linter.unusedSimpArgs false

/-- what stays of a part that was read -/
structure PX (w : World) (s e bx : Nat) (Q : World → Prop) (cs : Array Value) (X : World) : Prop where
  r : X.heap[w.heap.size]? = some (.cells #[.string ⟨#[]⟩, .slice none 0 0, .slice none 0 0] 25 (0, 0))
  f : Fpt Q s e X
  b : Below w.heap.size w X
  x : X.heap[bx]? = some (.cells cs 25 (0, 0))
theorem PX.later {w : World} {s e bx : Nat} {Q : World → Prop} {cs : Array Value} {X Y : World} (h : PX w s e bx Q cs X) (hb : Below X.heap.size X Y) : PX w s e bx Q cs Y :=
  ⟨(hb.block _ (Array.getElem?_eq_some_iff.1 h.r).1).trans h.r, h.f.later (.below hb h.f.le) hb.size, h.b.trans (hb.mono h.b.size), (hb.block _ (Array.getElem?_eq_some_iff.1 h.x).1).trans h.x⟩
theorem PX.rcells {w : World} {s e bx : Nat} {Q : World → Prop} {cs : Array Value} {X : World} (h : PX w s e bx Q cs X) : X.cell? ⟨w.heap.size, 0, none⟩ = some (.string ⟨#[]⟩) ∧ X.cell? ⟨w.heap.size, 1, none⟩ = some (.slice none 0 0) ∧ X.cell? ⟨w.heap.size, 2, none⟩ = some (.slice none 0 0) ∧ ∀ k, X.frozen? ⟨w.heap.size, k, none⟩ = false :=
  ⟨cell_of_row _ _ _ _ _ (0, 0) h.r, cell_of_row _ _ _ _ _ (0, 0) h.r, cell_of_row _ _ _ _ _ (0, 0) h.r, frozen_of h.r⟩
theorem PX.xcells {w : World} {s e bx : Nat} {Q : World → Prop} {a b c : Value} {X : World} (h : PX w s e bx Q #[a, b, c] X) : X.cell? ⟨bx, 0, none⟩ = some a ∧ X.cell? ⟨bx, 1, none⟩ = some b ∧ X.cell? ⟨bx, 2, none⟩ = some c :=
  ⟨cell_of_row _ _ _ _ _ (0, 0) h.x, cell_of_row _ _ _ _ _ (0, 0) h.x, cell_of_row _ _ _ _ _ (0, 0) h.x⟩
set_option maxRecDepth 100000 in
set_option maxHeartbeats 8000000 in
theorem pparse_any (t : PPt) (ht : eT t = 0) (hz : ptz t ≤ 10000000) (C : List (List UInt8)) (hC : Tl.Cts (ptT t) C) (hC3 : Tl.total C ≤ 10000000) (hU : Tl.unf [] (Tl.strip C) = lnsT t) (hs : (ptT t).length ≤ 100000) (w : World) :
    Calls Tryd.prog 12 #[.string (Tl.str (ptT t))] w fun e w' => ∃ (nm' : ByteArray) (a1 : Option Addr) (n1 k1 : Nat) (a2 : Option Addr) (n2 k2 : Nat), e = .returned (.tuple #[.agg #[.string nm', .slice a1 n1 k1, .slice a2 n2 k2], .int .i64 0, .int .i64 (-1)]) ∧ Fpt (PtM t (.agg #[.string nm', .slice a1 n1 k1, .slice a2 n2 k2])) w.heap.size w'.heap.size w' ∧ Below w.heap.size w w' := by
  have KP := hide (fun W => parse_any t ht hz C hC hC3 hU hs W)
  have hb0 : Below w.heap.size w (w.alloc (.cells #[.string ⟨#[]⟩, .slice none 0 0, .slice none 0 0] 25)) := (Below.refl _ w).alloc (Nat.le_refl _) _
  have hr0 : (w.alloc (.cells #[.string ⟨#[]⟩, .slice none 0 0, .slice none 0 0] 25)).heap[w.heap.size]? = some (.cells #[.string ⟨#[]⟩, .slice none 0 0, .slice none 0 0] 25 (0, 0)) := World.alloc_heap_new w _
  have H0 := hide (And.intro hr0 hb0)
  generalize Tl.str (ptT t) = Z at *
  clear hC hC3 hU hs ht hz hb0 hr0
  go_enter Tryd.func12, Tryd.ntmps12
  go_wp2_with fail
  generalize w.alloc (.cells #[.string ⟨#[]⟩, .slice none 0 0, .slice none 0 0] 25) = W0 at *
  refine (KP.out _).mono ?_
  rintro e W3 ⟨nm2, a1, n1, k1, a2, n2, k2, rfl, hF, b3⟩
  have hw0 : w.heap.size < W0.heap.size := (Array.getElem?_eq_some_iff.1 H0.out.1).1
  have hr3 := (b3.block _ hw0).trans H0.out.1
  have hB3 := H0.out.2.trans (b3.mono H0.out.2.size)
  have hb4 : Below W3.heap.size W3 (W3.alloc (.cells #[.string nm2, .slice a1 n1 k1, .slice a2 n2 k2] 25)) := (Below.refl _ W3).alloc (Nat.le_refl _) _
  have hr4 := (hb4.block _ (Array.getElem?_eq_some_iff.1 hr3).1).trans hr3
  have hF4 := hF.later (.below hb4 (Nat.le_refl _)) hb4.size
  have hB4 := hB3.trans (hb4.mono hB3.size)
  have hz3 := b3.size
  have hbx : (W3.alloc (.cells #[.string nm2, .slice a1 n1 k1, .slice a2 n2 k2] 25)).heap[W3.heap.size]? = some (.cells #[.string nm2, .slice a1 n1 k1, .slice a2 n2 k2] 25 (0, 0)) := World.alloc_heap_new W3 _
  have HF := hide (And.intro hr4 (And.intro hF4 (And.intro hB4 (And.intro hw0 (And.intro hb4.size (And.intro hbx hz3))))))
  have hwz8 : w.heap.size ≠ W3.heap.size := by have := (Array.getElem?_eq_some_iff.1 hr3).1; omega
  clear hr3 hw0 hB3 hb4 hr4 hF4 hB4 b3 hF H0 hbx hz3
  go_upto_region 2 with fail
  generalize (W3.alloc (.cells #[.string nm2, .slice a1 n1 k1, .slice a2 n2 k2] 25)) = X at *
  obtain ⟨hr4, hF4, hB4, hw0, hz4, hbx, hz3⟩ := HF.out
  have hS : PX w W0.heap.size W3.heap.size W3.heap.size (PtM t (.agg #[.string nm2, .slice a1 n1 k1, .slice a2 n2 k2])) #[.string nm2, .slice a1 n1 k1, .slice a2 n2 k2] X.drew := ⟨hr4, ⟨hF4.le, hF4.ok⟩, hB4.drew, hbx⟩
  clear hr4 hF4 hB4 hbx HF
  refine wp_region_noPanic ?_
  refine wp_region_linGM (S := PX w W0.heap.size W3.heap.size W3.heap.size (PtM t (.agg #[.string nm2, .slice a1 n1 k1, .slice a2 n2 k2])) #[.string nm2, .slice a1 n1 k1, .slice a2 n2 k2]) (R := fun _ => True) [5] (by kernel_rfl) (by kernel_rfl) [(0, none, 0), (1, none, 1), (3, none, 1), (2, none, 2), (4, none, 2), (5, none, 3), (6, none, 1), (7, none, 1)] (by kernel_rfl) (by kernel_rfl) (fun _ _ _ _ _ h => h) (by exact trivial) (by exact hS) (fun ops' Q' hops hQ' => ?_)
  refine wpLinG_read (o := { dst := some 12, op := Go.Op.load 25 (Go.Operand.tmp 5), type := 25, pos := "plain.go:351", after := #[], guard := none }) (v := ?vx0) (by rw [hops]; rfl) (by first | exact trivial | rfl) hS ?ex0 ?hx0
  case ex0 => intro w' hw'; obtain ⟨d0, d1, d2⟩ := hw'.xcells; go_simp; (try rfl)
  (try simp only [Act.put, List.setIfInBounds_toArray, List.set_cons_zero, List.set_cons_succ])
  refine wpLinG_pure (o := { dst := some 13, op := Go.Op.move (Go.Operand.tmp 6), type := 41, pos := "plain.go:351", after := #[], guard := none }) (v := ?vx1) (by rw [hops]; rfl) (by first | exact trivial | rfl) ?ex1 ?hx1
  case ex1 => intro w'; go_simp; (try rfl)
  (try simp only [Act.put, List.setIfInBounds_toArray, List.set_cons_zero, List.set_cons_succ])
  refine wpLinG_pure (o := { dst := some 15, op := Go.Op.move (Go.Operand.tmp 6), type := 41, pos := "plain.go:351", after := #[], guard := none }) (v := ?vx2) (by rw [hops]; rfl) (by first | exact trivial | rfl) ?ex2 ?hx2
  case ex2 => intro w'; go_simp; (try rfl)
  (try simp only [Act.put, List.setIfInBounds_toArray, List.set_cons_zero, List.set_cons_succ])
  refine wpLinG_do (o := { dst := some 14, op := Go.Op.call { callee := Go.Callee.value (Go.Operand.func 15), args := #[Go.Operand.tmp 13], argTypes := #[41] }, type := 26, pos := "plain.go:351", after := #[{ on := 1, ground := Go.Ground.data }], guard := none }) (by rw [hops]; rfl) (by first | exact trivial | rfl) (fun K hK => ?_)
  go_simp
  refine (tell_nil _).mono ?_
  rintro e X1 ⟨rfl, hb⟩
  replace hS := hS.later hb
  have hz5 := Nat.le_trans hz4 hb.size
  clear hb hz4
  go_simp
  refine hK _ _ trivial hS ?_
  clear hK K
  (try simp only [Act.put, List.setIfInBounds_toArray, List.set_cons_zero, List.set_cons_succ])
  refine wpLinG_do (o := { dst := some 16, op := Go.Op.call { callee := Go.Callee.value (Go.Operand.func 20), args := #[Go.Operand.tmp 15], argTypes := #[41] }, type := 3, pos := "plain.go:351", after := #[{ on := 3, ground := Go.Ground.data }, { on := 2, ground := Go.Ground.chain }], guard := none }) (by rw [hops]; rfl) (by first | exact trivial | rfl) (fun K hK => ?_)
  go_simp
  refine (where_nil' _).mono ?_
  rintro e X2 ⟨rfl, hb⟩
  replace hS := hS.later hb
  have hz6 := Nat.le_trans hz5 hb.size
  clear hb hz5
  obtain ⟨s0, s1, s2, fR⟩ := hS.rcells
  go_simp
  refine hK _ _ trivial hS ?_
  clear hK K
  (try simp only [Act.put, List.setIfInBounds_toArray, List.set_cons_zero, List.set_cons_succ])
  refine wpLinG_store (o := { dst := none, op := Go.Op.store 25 (Go.Operand.tmp 2) (Go.Operand.tmp 12), type := 0, pos := "plain.go:351", after := #[{ on := 0, ground := Go.Ground.data }, { on := 4, ground := Go.Ground.chain }, { on := 0, ground := Go.Ground.phase }, { on := 1, ground := Go.Ground.textOnly Go.Departure.lateStores }, { on := 2, ground := Go.Ground.textOnly Go.Departure.lateStoresUnsure }, { on := 3, ground := Go.Ground.textOnly Go.Departure.lateStores }, { on := 4, ground := Go.Ground.textOnly Go.Departure.lateStoresUnsure }], guard := none }) (by rw [hops]; rfl) (by first | exact trivial | rfl) (fun K hK => ?_)
  go_simp
  refine hK _ _ trivial ?_
  clear hK K
  (try simp only [Act.put, List.setIfInBounds_toArray, List.set_cons_zero, List.set_cons_succ])
  refine wpLinG_pure (o := { dst := some 3, op := Go.Op.assign (Go.Operand.tmp 14), type := 26, pos := "plain.go:351", after := #[{ on := 2, ground := Go.Ground.data }, { on := 5, ground := Go.Ground.chain }, { on := 0, ground := Go.Ground.phase }, { on := 1, ground := Go.Ground.phase }, { on := 2, ground := Go.Ground.phase }, { on := 3, ground := Go.Ground.textOnly Go.Departure.lateStores }, { on := 4, ground := Go.Ground.textOnly Go.Departure.lateStoresUnsure }, { on := 5, ground := Go.Ground.phase }], guard := none }) (v := ?vx6) (by rw [hops]; rfl) (by first | exact trivial | rfl) ?ex6 ?hx6
  case ex6 => intro w'; go_simp; (try rfl)
  (try simp only [Act.put, List.setIfInBounds_toArray, List.set_cons_zero, List.set_cons_succ])
  refine wpLinG_pure (o := { dst := some 4, op := Go.Op.assign (Go.Operand.tmp 16), type := 3, pos := "plain.go:351", after := #[{ on := 4, ground := Go.Ground.data }, { on := 6, ground := Go.Ground.chain }, { on := 0, ground := Go.Ground.phase }, { on := 1, ground := Go.Ground.phase }, { on := 2, ground := Go.Ground.phase }, { on := 3, ground := Go.Ground.phase }, { on := 4, ground := Go.Ground.phase }, { on := 5, ground := Go.Ground.phase }, { on := 6, ground := Go.Ground.phase }], guard := none }) (v := ?vx7) (by rw [hops]; rfl) (by first | exact trivial | rfl) ?ex7 ?hx7
  case ex7 => intro w'; go_simp; (try rfl)
  (try simp only [Act.put, List.setIfInBounds_toArray, List.set_cons_zero, List.set_cons_succ])
  subst hQ'
  refine NoPanic.normal ?_
  obtain ⟨g1, g2, g3⟩ := set3 hS.r (.string nm2) (.slice a1 n1 k1) (.slice a2 n2 k2)
  have hF6 : Fpt (PtM t (.agg #[.string nm2, .slice a1 n1 k1, .slice a2 n2 k2])) w.heap.size (((X2.setCell ⟨w.heap.size, 0, none⟩ (.string nm2)).setCell ⟨w.heap.size, 1, none⟩ (.slice a1 n1 k1)).setCell ⟨w.heap.size, 2, none⟩ (.slice a2 n2 k2)).heap.size (((X2.setCell ⟨w.heap.size, 0, none⟩ (.string nm2)).setCell ⟨w.heap.size, 1, none⟩ (.slice a1 n1 k1)).setCell ⟨w.heap.size, 2, none⟩ (.slice a2 n2 k2)) := by
    refine ((hS.f.later (W' := (((X2.setCell ⟨w.heap.size, 0, none⟩ (.string nm2)).setCell ⟨w.heap.size, 1, none⟩ (.slice a1 n1 k1)).setCell ⟨w.heap.size, 2, none⟩ (.slice a2 n2 k2))) (fun b h1 h2 => g2 b (by omega)) g3)).widen (by omega) ?_ (Nat.le_refl _)
    exact Nat.le_trans hz6 g3
  have hB6 : Below w.heap.size w (((X2.setCell ⟨w.heap.size, 0, none⟩ (.string nm2)).setCell ⟨w.heap.size, 1, none⟩ (.slice a1 n1 k1)).setCell ⟨w.heap.size, 2, none⟩ (.slice a2 n2 k2)) := ⟨hS.b.os, hS.b.tape, hS.b.output, Nat.le_trans hS.b.size g3, fun k hk => (g2 k (by omega)).trans (hS.b.block k hk)⟩
  go_wp2_with fail
  refine bodyPost_ret (v := .tuple #[.agg #[.string nm2, .slice a1 n1 k1, .slice a2 n2 k2], .int .i64 0, .int .i64 (-1)]) ?_ rfl ⟨nm2, a1, n1, k1, a2, n2, k2, rfl, hF6, hB6⟩
  rw [results_cell_tmp2 rfl]
  show ((asAddr (.pointer (some ⟨w.heap.size, 0, none⟩))).run _ _).andThen _ = _
  simp only [asAddr, Sem.run_pure, Result.andThen_ok, run_loadVar_row _ w.heap.size _ 25 _ _ _ g1 Tryd.underlying25 rfl (by kernel_rfl)]
  rfl
end Go.Proofs.YtponocolfjkapaaDoor
namespace Go.Proofs.YtponocolfjkapaaDoor
open Go.RowKit Go.Shelf
set_option linter.unusedVariables false
set_option linter.unusedSimpArgs false

set_option maxHeartbeats 4000000 in
theorem parse_long (s : ByteArray) (hs : 100000 < s.size) (w : World) :
    Calls Tryd.prog 22 #[.string s] w fun e w' => e = .returned (.tuple #[.agg #[.string ⟨#[]⟩, .slice none 0 0, .slice none 0 0], .iface 26 (.int .i64 6)]) ∧ Below w.heap.size w w' := by
  have hsi : (100000 : Int) < (s.size : Int) := by omega
  have hb0 : Below w.heap.size w (w.alloc (.cells #[.string ⟨#[]⟩, .slice none 0 0, .slice none 0 0] 25)) := (Below.refl _ w).alloc (Nat.le_refl _) _
  have hr0 : (w.alloc (.cells #[.string ⟨#[]⟩, .slice none 0 0, .slice none 0 0] 25)).heap[w.heap.size]? = some (.cells #[.string ⟨#[]⟩, .slice none 0 0, .slice none 0 0] 25 (0, 0)) := World.alloc_heap_new w _
  have s0 : (w.alloc (.cells #[.string ⟨#[]⟩, .slice none 0 0, .slice none 0 0] 25)).cell? ⟨w.heap.size, 0, none⟩ = some (.string ⟨#[]⟩) := cell_of_row _ _ _ _ _ (0, 0) hr0
  have s1 : (w.alloc (.cells #[.string ⟨#[]⟩, .slice none 0 0, .slice none 0 0] 25)).cell? ⟨w.heap.size, 1, none⟩ = some (.slice none 0 0) := cell_of_row _ _ _ _ _ (0, 0) hr0
  have s2 : (w.alloc (.cells #[.string ⟨#[]⟩, .slice none 0 0, .slice none 0 0] 25)).cell? ⟨w.heap.size, 2, none⟩ = some (.slice none 0 0) := cell_of_row _ _ _ _ _ (0, 0) hr0
  have fR := frozen_of hr0
  have H0 := hide (And.intro hr0 hb0)
  clear hr0 hb0
  go_enter Tryd.func22, Tryd.ntmps22
  go_wp2_with fail
  obtain ⟨hr0, hb0⟩ := H0.out
  refine bodyPost_ret (v := .tuple #[.agg #[.string ⟨#[]⟩, .slice none 0 0, .slice none 0 0], .iface 26 (.int .i64 6)]) ?_ rfl ⟨rfl, hb0⟩
  rw [results_cell_tmp rfl]
  show ((asAddr (.pointer (some ⟨w.heap.size, 0, none⟩))).run _ _).andThen _ = _
  simp only [asAddr, Sem.run_pure, Result.andThen_ok, run_loadVar_row _ w.heap.size _ 25 _ _ _ hr0 Tryd.underlying25 rfl (by kernel_rfl)]
  rfl
set_option maxRecDepth 100000 in
set_option maxHeartbeats 8000000 in
theorem pparse_long (s : ByteArray) (hs : 100000 < s.size) (w : World) (hd : Hd w) :
    Calls Tryd.prog 12 #[.string s] w fun e w' => e = .returned (.tuple #[.agg #[.string ⟨#[]⟩, .slice none 0 0, .slice none 0 0], .int .i64 6, .int .i64 (-1)]) ∧ Below w.heap.size w w' := by
  have KP := hide (fun W => parse_long s hs W)
  have hb0 : Below w.heap.size w (w.alloc (.cells #[.string ⟨#[]⟩, .slice none 0 0, .slice none 0 0] 25)) := (Below.refl _ w).alloc (Nat.le_refl _) _
  have hr0 : (w.alloc (.cells #[.string ⟨#[]⟩, .slice none 0 0, .slice none 0 0] 25)).heap[w.heap.size]? = some (.cells #[.string ⟨#[]⟩, .slice none 0 0, .slice none 0 0] 25 (0, 0)) := World.alloc_heap_new w _
  have HD := hide (fun W (hb : Below w.heap.size w W) => hd.later hb)
  have H0 := hide (And.intro hr0 hb0)
  clear hs hb0 hr0 hd
  go_enter Tryd.func12, Tryd.ntmps12
  go_wp2_with fail
  generalize w.alloc (.cells #[.string ⟨#[]⟩, .slice none 0 0, .slice none 0 0] 25) = W0 at *
  refine (KP.out _).mono ?_
  rintro e W3 ⟨rfl, b3⟩
  have hw0 : w.heap.size < W0.heap.size := (Array.getElem?_eq_some_iff.1 H0.out.1).1
  have hr3 := (b3.block _ hw0).trans H0.out.1
  have hB3 := H0.out.2.trans (b3.mono H0.out.2.size)
  have hb4 : Below W3.heap.size W3 (W3.alloc (.cells #[.string ⟨#[]⟩, .slice none 0 0, .slice none 0 0] 25)) := (Below.refl _ W3).alloc (Nat.le_refl _) _
  have hr4 := (hb4.block _ (Array.getElem?_eq_some_iff.1 hr3).1).trans hr3
  have hB4 := hB3.trans (hb4.mono hB3.size)
  have hbx : (W3.alloc (.cells #[.string ⟨#[]⟩, .slice none 0 0, .slice none 0 0] 25)).heap[W3.heap.size]? = some (.cells #[.string ⟨#[]⟩, .slice none 0 0, .slice none 0 0] 25 (0, 0)) := World.alloc_heap_new W3 _
  have HF := hide (And.intro hr4 (And.intro hB4 hbx))
  have hwz8 : w.heap.size ≠ W3.heap.size := by have := (Array.getElem?_eq_some_iff.1 hr3).1; omega
  clear hr3 hw0 hB3 hb4 hr4 hB4 b3 H0 hbx
  go_upto_region 2 with fail
  generalize (W3.alloc (.cells #[.string ⟨#[]⟩, .slice none 0 0, .slice none 0 0] 25)) = X at *
  obtain ⟨hr4, hB4, hbx⟩ := HF.out
  have hS : PX w 0 0 W3.heap.size (fun _ => True) #[.string ⟨#[]⟩, .slice none 0 0, .slice none 0 0] X.drew := ⟨hr4, ⟨Nat.zero_le _, fun _ _ _ => trivial⟩, hB4.drew, hbx⟩
  clear hr4 hB4 hbx HF
  refine wp_region_noPanic ?_
  refine wp_region_linGM (S := PX w 0 0 W3.heap.size (fun _ => True) #[.string ⟨#[]⟩, .slice none 0 0, .slice none 0 0]) (R := fun _ => True) [5] (by kernel_rfl) (by kernel_rfl) [(0, none, 0), (1, none, 1), (3, none, 1), (2, none, 2), (4, none, 2), (5, none, 3), (6, none, 1), (7, none, 1)] (by kernel_rfl) (by kernel_rfl) (fun _ _ _ _ _ h => h) (by exact trivial) (by exact hS) (fun ops' Q' hops hQ' => ?_)
  refine wpLinG_read (o := { dst := some 12, op := Go.Op.load 25 (Go.Operand.tmp 5), type := 25, pos := "plain.go:351", after := #[], guard := none }) (v := ?vx0) (by rw [hops]; rfl) (by first | exact trivial | rfl) hS ?ex0 ?hx0
  case ex0 => intro w' hw'; obtain ⟨d0, d1, d2⟩ := hw'.xcells; go_simp; (try rfl)
  (try simp only [Act.put, List.setIfInBounds_toArray, List.set_cons_zero, List.set_cons_succ])
  refine wpLinG_pure (o := { dst := some 13, op := Go.Op.move (Go.Operand.tmp 6), type := 41, pos := "plain.go:351", after := #[], guard := none }) (v := ?vx1) (by rw [hops]; rfl) (by first | exact trivial | rfl) ?ex1 ?hx1
  case ex1 => intro w'; go_simp; (try rfl)
  (try simp only [Act.put, List.setIfInBounds_toArray, List.set_cons_zero, List.set_cons_succ])
  refine wpLinG_pure (o := { dst := some 15, op := Go.Op.move (Go.Operand.tmp 6), type := 41, pos := "plain.go:351", after := #[], guard := none }) (v := ?vx2) (by rw [hops]; rfl) (by first | exact trivial | rfl) ?ex2 ?hx2
  case ex2 => intro w'; go_simp; (try rfl)
  (try simp only [Act.put, List.setIfInBounds_toArray, List.set_cons_zero, List.set_cons_succ])
  refine wpLinG_do (o := { dst := some 14, op := Go.Op.call { callee := Go.Callee.value (Go.Operand.func 15), args := #[Go.Operand.tmp 13], argTypes := #[41] }, type := 26, pos := "plain.go:351", after := #[{ on := 1, ground := Go.Ground.data }], guard := none }) (by rw [hops]; rfl) (by first | exact trivial | rfl) (fun K hK => ?_)
  go_simp
  refine (tell_err 6 _ (HD.out _ hS.b)).mono ?_
  rintro e X1 ⟨rfl, hb⟩
  replace hS := hS.later hb
  clear hb
  go_simp
  refine hK _ _ trivial hS ?_
  clear hK K
  (try simp only [Act.put, List.setIfInBounds_toArray, List.set_cons_zero, List.set_cons_succ])
  refine wpLinG_do (o := { dst := some 16, op := Go.Op.call { callee := Go.Callee.value (Go.Operand.func 20), args := #[Go.Operand.tmp 15], argTypes := #[41] }, type := 3, pos := "plain.go:351", after := #[{ on := 3, ground := Go.Ground.data }, { on := 2, ground := Go.Ground.chain }], guard := none }) (by rw [hops]; rfl) (by first | exact trivial | rfl) (fun K hK => ?_)
  go_simp
  refine (where_no 6 _ (HD.out _ hS.b)).mono ?_
  rintro e X2 ⟨rfl, hb⟩
  replace hS := hS.later hb
  clear hb
  obtain ⟨s0, s1, s2, fR⟩ := hS.rcells
  go_simp
  refine hK _ _ trivial hS ?_
  clear hK K
  (try simp only [Act.put, List.setIfInBounds_toArray, List.set_cons_zero, List.set_cons_succ])
  refine wpLinG_store (o := { dst := none, op := Go.Op.store 25 (Go.Operand.tmp 2) (Go.Operand.tmp 12), type := 0, pos := "plain.go:351", after := #[{ on := 0, ground := Go.Ground.data }, { on := 4, ground := Go.Ground.chain }, { on := 0, ground := Go.Ground.phase }, { on := 1, ground := Go.Ground.textOnly Go.Departure.lateStores }, { on := 2, ground := Go.Ground.textOnly Go.Departure.lateStoresUnsure }, { on := 3, ground := Go.Ground.textOnly Go.Departure.lateStores }, { on := 4, ground := Go.Ground.textOnly Go.Departure.lateStoresUnsure }], guard := none }) (by rw [hops]; rfl) (by first | exact trivial | rfl) (fun K hK => ?_)
  go_simp
  refine hK _ _ trivial ?_
  clear hK K
  (try simp only [Act.put, List.setIfInBounds_toArray, List.set_cons_zero, List.set_cons_succ])
  refine wpLinG_pure (o := { dst := some 3, op := Go.Op.assign (Go.Operand.tmp 14), type := 26, pos := "plain.go:351", after := #[{ on := 2, ground := Go.Ground.data }, { on := 5, ground := Go.Ground.chain }, { on := 0, ground := Go.Ground.phase }, { on := 1, ground := Go.Ground.phase }, { on := 2, ground := Go.Ground.phase }, { on := 3, ground := Go.Ground.textOnly Go.Departure.lateStores }, { on := 4, ground := Go.Ground.textOnly Go.Departure.lateStoresUnsure }, { on := 5, ground := Go.Ground.phase }], guard := none }) (v := ?vx6) (by rw [hops]; rfl) (by first | exact trivial | rfl) ?ex6 ?hx6
  case ex6 => intro w'; go_simp; (try rfl)
  (try simp only [Act.put, List.setIfInBounds_toArray, List.set_cons_zero, List.set_cons_succ])
  refine wpLinG_pure (o := { dst := some 4, op := Go.Op.assign (Go.Operand.tmp 16), type := 3, pos := "plain.go:351", after := #[{ on := 4, ground := Go.Ground.data }, { on := 6, ground := Go.Ground.chain }, { on := 0, ground := Go.Ground.phase }, { on := 1, ground := Go.Ground.phase }, { on := 2, ground := Go.Ground.phase }, { on := 3, ground := Go.Ground.phase }, { on := 4, ground := Go.Ground.phase }, { on := 5, ground := Go.Ground.phase }, { on := 6, ground := Go.Ground.phase }], guard := none }) (v := ?vx7) (by rw [hops]; rfl) (by first | exact trivial | rfl) ?ex7 ?hx7
  case ex7 => intro w'; go_simp; (try rfl)
  (try simp only [Act.put, List.setIfInBounds_toArray, List.set_cons_zero, List.set_cons_succ])
  subst hQ'
  refine NoPanic.normal ?_
  obtain ⟨g1, g2, g3⟩ := set3 hS.r (.string ⟨#[]⟩) (.slice none 0 0) (.slice none 0 0)
  have hB6 : Below w.heap.size w (((X2.setCell ⟨w.heap.size, 0, none⟩ (.string ⟨#[]⟩)).setCell ⟨w.heap.size, 1, none⟩ (.slice none 0 0)).setCell ⟨w.heap.size, 2, none⟩ (.slice none 0 0)) := ⟨hS.b.os, hS.b.tape, hS.b.output, Nat.le_trans hS.b.size g3, fun k hk => (g2 k (by omega)).trans (hS.b.block k hk)⟩
  go_wp2_with fail
  refine bodyPost_ret (v := .tuple #[.agg #[.string ⟨#[]⟩, .slice none 0 0, .slice none 0 0], .int .i64 6, .int .i64 (-1)]) ?_ rfl ⟨rfl, hB6⟩
  rw [results_cell_tmp2 rfl]
  show ((asAddr (.pointer (some ⟨w.heap.size, 0, none⟩))).run _ _).andThen _ = _
  simp only [asAddr, Sem.run_pure, Result.andThen_ok, run_loadVar_row _ w.heap.size _ 25 _ _ _ g1 Tryd.underlying25 rfl (by kernel_rfl)]
  rfl
end Go.Proofs.YtponocolfjkapaaDoor
