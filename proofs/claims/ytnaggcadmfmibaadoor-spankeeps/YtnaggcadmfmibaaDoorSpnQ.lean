/- The grid: a net in a block of its own. -/
import Derived.Test.YtnaggcadmfmibaaDoorSpnP
import Derived.Test.YtnaggcadmfmibaaDoorSpnL
import Derived.Test.YtnaggcadmfmibaaDoorSpnN
import Derived.Deep.WholeRow
import Derived.Deep.MidRow
import Derived.Deep.RegionLaw
import Derived.Laws.CopyOwn
namespace Go.Proofs.YtnaggcadmfmibaaDoor
open Go.RowKit
set_option linter.unusedVariables false
set_option linter.unusedSimpArgs false

/-- a grid's cells -/
def grA (n : Nat) (N : Nat → Nat → Nat) : Array Value := (Value.int .i64 (n : Int) :: (List.range 36).map fun j => Value.int .i64 (N (j / 6) (j % 6) : Nat)).toArray
theorem grA_size (n : Nat) (N : Nat → Nat → Nat) : (grA n N).size = 37 := by simp [grA]
theorem grA_0 (n : Nat) (N : Nat → Nat → Nat) : (grA n N)[0]? = some (.int .i64 n) := by unfold grA; rfl
theorem grA_get (n : Nat) (N : Nat → Nat → Nat) (i k : Nat) (hi : i < 6) (hk : k < 6) : (grA n N)[1 + i * 6 + k]? = some (.int .i64 (N i k : Nat)) := by
  unfold grA
  rw [List.getElem?_toArray, show 1 + i * 6 + k = (i * 6 + k) + 1 by omega, List.getElem?_cons_succ, List.getElem?_map, List.getElem?_range (by omega)]
  simp only [Option.map_some]
  rw [show (i * 6 + k) / 6 = i by omega, show (i * 6 + k) % 6 = k by omega]
theorem grA_set (n : Nat) (N : Nat → Nat → Nat) (i k v : Nat) (hi : i < 6) (hk : k < 6) : (grA n N).setIfInBounds (1 + i * 6 + k) (.int .i64 (v : Nat)) = grA n (upd N i k v) := by
  apply Array.ext_getElem?
  intro j
  rw [Array.getElem?_setIfInBounds]
  rcases Nat.lt_or_ge j 37 with hj | hj
  · cases j with
    | zero => rw [if_neg (by omega), grA_0, grA_0]
    | succ j =>
      obtain ⟨a, b, ha, hb, he⟩ : ∃ a b, a < 6 ∧ b < 6 ∧ j + 1 = 1 + a * 6 + b := ⟨j / 6, j % 6, by omega, by omega, by omega⟩
      rw [he, grA_get _ _ a b ha hb, grA_get _ _ a b ha hb]
      unfold upd
      by_cases h : a = i ∧ b = k
      · obtain ⟨rfl, rfl⟩ := h
        rw [if_pos rfl, if_pos (by rw [grA_size]; omega), if_pos ⟨rfl, rfl⟩]
      · rw [if_neg (by omega), if_neg h]
  · rw [Array.getElem?_eq_none (by rw [grA_size]; omega), Array.getElem?_eq_none (by rw [grA_size]; omega)]
    split
    · rw [if_neg (by rw [grA_size]; omega)]
    · rfl
theorem grA_congr {n : Nat} {N M : Nat → Nat → Nat} (h : ∀ i k, i < 6 → k < 6 → N i k = M i k) : grA n N = grA n M := by
  apply Array.ext_getElem?
  intro j
  rcases Nat.lt_or_ge j 37 with hj | hj
  · cases j with
    | zero => rw [grA_0, grA_0]
    | succ j =>
      obtain ⟨a, b, ha, hb, he⟩ : ∃ a b, a < 6 ∧ b < 6 ∧ j + 1 = 1 + a * 6 + b := ⟨j / 6, j % 6, by omega, by omega, by omega⟩
      rw [he, grA_get _ _ a b ha hb, grA_get _ _ a b ha hb, h a b ha hb]
  · rw [Array.getElem?_eq_none (by rw [grA_size]; omega), Array.getElem?_eq_none (by rw [grA_size]; omega)]
/-- a grid at a block -/
def Gr (B n : Nat) (N : Nat → Nat → Nat) (X : World) : Prop := X.heap[B]? = some (.cells (grA n N) 51 (0, 0))
theorem Gr.at {B n : Nat} {N : Nat → Nat → Nat} {X : World} (h : Gr B n N X) (i k : Nat) (hi : i < 6) (hk : k < 6) :
    X.cell? ⟨B, 1 + i * 6 + k, none⟩ = some (.int .i64 (N i k : Nat)) ∧ X.frozen? ⟨B, 1 + i * 6 + k, none⟩ = false :=
  ⟨(cell_of_row _ _ _ _ _ (0, 0) h).trans (grA_get n N i k hi hk), frozen_of_row _ _ _ _ _ h⟩
theorem Gr.size {B n : Nat} {N : Nat → Nat → Nat} {X : World} (h : Gr B n N X) : X.cell? ⟨B, 0, none⟩ = some (.int .i64 n) := (cell_of_row _ _ _ _ _ (0, 0) h).trans (grA_0 n N)
theorem Gr.lt {B n : Nat} {N : Nat → Nat → Nat} {X : World} (h : Gr B n N X) : B < X.heap.size := lt_of_cell (p := ⟨B, 0, none⟩) h.size
theorem Gr.step {B n : Nat} {N : Nat → Nat → Nat} {X X' : World} (h : Gr B n N X) (hb : Below X.heap.size X X') : Gr B n N X' := (hb.block _ h.lt).trans h
theorem Gr.set {B n : Nat} {N : Nat → Nat → Nat} {X : World} (h : Gr B n N X) (i k v : Nat) (hi : i < 6) (hk : k < 6) : Gr B n (upd N i k v) (X.setCell ⟨B, 1 + i * 6 + k, none⟩ (.int .i64 (v : Nat))) := by
  have := heap_setCell_same X B (1 + i * 6 + k) _ _ (.int .i64 (v : Nat)) h
  rw [grA_set n N i k v hi hk] at this
  exact this
theorem setCells_row {b : Nat} {t : TypeId} : ∀ (vs : List Value) (o : Nat) (X : World) (cur : Array Value), X.heap[b]? = some (.cells cur t (0, 0)) →
    ∃ cur', (X.setCells b o vs).heap[b]? = some (.cells cur' t (0, 0)) ∧ cur'.size = cur.size
  | [], _, X, cur, h => ⟨cur, h, rfl⟩
  | v :: vs, o, X, cur, h => by
    obtain ⟨c, h1, h2⟩ := setCells_row vs (o + 1) (X.setCell ⟨b, o, none⟩ v) _ (heap_setCell_same X b o cur t v h)
    exact ⟨c, h1, by simpa using h2⟩
theorem setCells_whole {b : Nat} {t : TypeId} {X : World} {cur vs : Array Value} (h : X.heap[b]? = some (.cells cur t (0, 0))) (hs : cur.size = vs.size) :
    (X.setCells b 0 vs.toList).heap[b]? = some (.cells vs t (0, 0)) := by
  obtain ⟨c, h1, h2⟩ := setCells_row vs.toList 0 X cur h
  have hr := World.rangeAt_setCells_same X b 0 vs.toList (fun j hj => by
    rw [Nat.zero_add]
    refine ⟨?_, frozen_of_row _ _ _ _ _ h⟩
    rw [cell_of_row _ _ _ _ _ (0, 0) h, Array.getElem?_eq_getElem (by rw [hs]; simpa using hj)]; rfl)
  have : c = vs := by
    apply Array.ext_getElem?
    intro j
    rcases Nat.lt_or_ge j vs.size with hj | hj
    · have := hr j vs[j] (by rw [Array.getElem?_toList, Array.getElem?_eq_getElem hj])
      rw [Nat.zero_add, cell_of_row _ _ _ _ _ (0, 0) h1] at this
      rw [this, Array.getElem?_eq_getElem hj]
    · rw [Array.getElem?_eq_none (by omega), Array.getElem?_eq_none hj]
  rw [h1, this]
theorem setCells_other {b k : Nat} (hk : k ≠ b) : ∀ (vs : List Value) (o : Nat) (X : World), (X.setCells b o vs).heap[k]? = X.heap[k]?
  | [], _, _ => rfl
  | v :: vs, o, X => (setCells_other hk vs (o + 1) _).trans (heap_setCell_other _ _ _ _ (by simpa using hk))
theorem setCells_bel {B b : Nat} {w : World} (hb : B ≤ b) : ∀ (vs : List Value) (o : Nat) (X : World), Below B w X → Below B w (X.setCells b o vs)
  | [], _, _, h => h
  | v :: vs, o, X, h => setCells_bel hb vs (o + 1) _ (h.setCell (by simpa using hb) v)
theorem setCells_size {b : Nat} : ∀ (vs : List Value) (o : Nat) (X : World), (X.setCells b o vs).heap.size = X.heap.size
  | [], _, _ => rfl
  | v :: vs, o, X => (setCells_size vs (o + 1) _).trans (by simp)
theorem grA_one (n : Nat) (N : Nat → Nat → Nat) : (grA n N).all (·.oneCell') = true := by
  rw [Array.all_eq_true_iff_forall_mem]
  intro v hv
  unfold grA at hv
  simp only [List.mem_toArray, List.mem_cons, List.mem_map] at hv
  rcases hv with rfl | ⟨j, _, rfl⟩ <;> rfl
theorem infoGrid : (Tryd.prog.info? 51).map (·.size) = some 37 := by kernel_rfl
def z2 : Nat → Nat → Nat := fun _ _ => 0
theorem infoGrid2 (n : Nat) (N : Nat → Nat → Nat) : (Tryd.prog.info? 51).map (·.size) = some (grA n N).size := by rw [grA_size]; exact infoGrid
/-- two grids of noughts, laid -/
def W2 (w : World) : World := (w.alloc (.cells (grA 0 z2) 51)).alloc (.cells (grA 0 z2) 51)
theorem W2_row0 (w : World) : (W2 w).heap[w.heap.size]? = some (.cells (grA 0 z2) 51 (0, 0)) :=
  (Below.block ((Below.refl (w.heap.size + 1) (w.alloc (.cells (grA 0 z2) 51))).alloc (by simp) (.cells (grA 0 z2) 51)) _ (by omega)).trans (heap_alloc_last _ _)
theorem W2_row1 (w : World) : (W2 w).heap[w.heap.size + 1]? = some (.cells (grA 0 z2) 51 (0, 0)) := by
  have := heap_alloc_last (w.alloc (.cells (grA 0 z2) 51)) (.cells (grA 0 z2) 51)
  have hs : (w.alloc (.cells (grA 0 z2) 51)).heap.size = w.heap.size + 1 := by simp
  rw [hs] at this
  exact this
theorem W2_bel (w : World) : Below w.heap.size w (W2 w) := ((Below.refl _ w).alloc (Nat.le_refl _) _).alloc (by simp) _
theorem W2_size (w : World) : (W2 w).heap.size = w.heap.size + 1 + 1 := by unfold W2; simp
theorem W2_there (w : World) (n : Nat) : (W2 w).there (w.heap.size + 1) 0 (grA n z2).size := fun j hj => by
  rw [Nat.zero_add, cell_of_row _ _ _ _ _ (0, 0) (W2_row1 w)]
  exact ⟨by rw [Array.getElem?_eq_getElem (by rw [grA_size] at *; exact hj)]; rfl, frozen_of_row _ _ _ _ _ (W2_row1 w)⟩
theorem W2_set {w W1 : World} {n : Nat} (h : (W2 w).setCells (w.heap.size + 1) 0 (grA n z2).toList = W1) :
    Gr (w.heap.size + 1) n z2 W1 ∧ W1.heap[w.heap.size]? = some (.cells (grA 0 z2) 51 (0, 0)) ∧ Below w.heap.size w W1 ∧ W1.heap.size = w.heap.size + 1 + 1 := by
  subst h
  exact ⟨setCells_whole (W2_row1 w) (by rw [grA_size, grA_size]), (setCells_other (by omega) _ _ _).trans (W2_row0 w), setCells_bel (by omega) _ _ _ (W2_bel w), (setCells_size _ _ _).trans (W2_size w)⟩
/-- the first r rows of a net -/
def cpN (n : Nat) (g : Nat → Nat → Int) (r : Nat) : Nat → Nat → Nat := fun a b => if a < r ∧ b < n then (g a b).toNat else 0
theorem cp_splice (n : Nat) (g : Nat → Nat → Int) (r : Nat) (hr : r < n) (h6 : n ≤ 6) (hg : ∀ a b, a < n → b < n → 0 ≤ g a b) :
    (splice (grA n (cpN n g r)).toList (1 + r * 6) ((List.range n).map fun c => Value.int .i64 (g r c))).toArray = grA n (cpN n g (r + 1)) := by
  apply Array.ext_getElem?
  intro j
  rw [List.getElem?_toArray]
  unfold splice
  have hlen : (grA n (cpN n g r)).toList.length = 37 := by rw [Array.length_toList, grA_size]
  rcases Nat.lt_or_ge j 37 with hj | hj
  · rcases Nat.lt_or_ge j (1 + r * 6) with h1 | h1
    · rw [List.getElem?_append_left (by rw [List.length_take, hlen]; omega), List.getElem?_take, if_pos h1, Array.getElem?_toList]
      cases j with
      | zero => rw [grA_0, grA_0]
      | succ j =>
        obtain ⟨a, b, ha, hb, he⟩ : ∃ a b, a < 6 ∧ b < 6 ∧ j + 1 = 1 + a * 6 + b := ⟨j / 6, j % 6, by omega, by omega, by omega⟩
        rw [he, grA_get _ _ a b ha hb, grA_get _ _ a b ha hb]
        unfold cpN
        have : a < r := by omega
        simp only [this, show a < r + 1 by omega]
    · rw [List.getElem?_append_right (by rw [List.length_take, hlen]; omega), List.length_take, hlen, show min (1 + r * 6) 37 = 1 + r * 6 by omega]
      obtain ⟨a, b, ha, hb, he⟩ : ∃ a b, a < 6 ∧ b < 6 ∧ j = 1 + a * 6 + b := ⟨(j - 1) / 6, (j - 1) % 6, by omega, by omega, by omega⟩
      rcases Nat.lt_or_ge j (1 + r * 6 + n) with h2 | h2
      · have har : a = r := by omega
        subst har
        rw [List.getElem?_append_left (by simp; omega), show j - (1 + a * 6) = b by omega, List.getElem?_map, List.getElem?_range (by omega), he, grA_get _ _ a b ha hb]
        simp only [Option.map_some]
        unfold cpN
        rw [if_pos ⟨by omega, by omega⟩]
        have := hg a b hr (by omega)
        congr 2; omega
      · rw [List.getElem?_append_right (by simp; omega), List.length_map, List.length_range, List.getElem?_drop, Array.getElem?_toList, show 1 + r * 6 + n + (j - (1 + r * 6) - n) = j by omega, he, grA_get _ _ a b ha hb, grA_get _ _ a b ha hb]
        unfold cpN
        have e1 : ¬ (a < r ∧ b < n) := by omega
        have e2 : ¬ (a < r + 1 ∧ b < n) := by omega
        rw [if_neg e1, if_neg e2]
  · rw [Array.getElem?_eq_none (by rw [grA_size]; omega)]
    rw [List.getElem?_eq_none]
    simp [hlen]; omega
theorem infoSet : (Tryd.prog.info? 47).map (·.size) = some 1 := by kernel_rfl
set_option maxRecDepth 100000 in
set_option maxHeartbeats 4000000 in
theorem gridof_any (a : Addr) (n cap : Nat) (A : Nat → Option Addr) (C : Nat → Nat) (g : Nat → Nat → Int) (w : World) (h1 : 1 ≤ n) (h6 : n ≤ 6) (h : NetAt (some a) n A (fun _ => n) C g w) (hg : ∀ a b, a < n → b < n → 0 ≤ g a b) :
    Calls Tryd.prog 32 #[.slice (some a) n cap] w fun e w' => e = .returned (.agg (grA n (cpN n g n))) ∧ Below w.heap.size w w' := by
  have H := hide h
  have HG := hide hg
  have HU := hide Tryd.underlying78
  clear h hg
  go_enter Tryd.func32, Tryd.ntmps32
  go_wp2_with (first | (refine wpList_store_mid rfl 51 (.tmp 3) (.tmp 7) rfl (w.heap.size + 1) 0 (grA n z2) rfl rfl (W2_there w n) (infoGrid2 n z2) (grA_one n z2) ?_; generalize hW : World.setCells _ _ _ _ = W1; obtain ⟨hg1, hr0, hb1, hs1⟩ := W2_set (show (W2 w).setCells (w.heap.size + 1) 0 (grA n z2).toList = W1 from hW); clear hW; have hgs := hg1.size))
  generalize (Value.agg #[_, _, _, _, _, _, _, _, _, _, _, _, _, _, _, _, _, _, _, _, _, _, _, _, _, _, _, _, _, _, _, _, _, _, _, _, _]) = VV
  have HR0 := hide hr0
  have HB1 := hide hb1
  have HS1 := hide hs1
  have HZ : Gr (w.heap.size + 1) n (cpN n g 0) W1 := by
    have : cpN n g 0 = z2 := by funext x y; unfold cpN z2; rw [if_neg (by omega)]
    rw [this]; exact hg1
  clear hg1 hr0 hb1 hs1 hgs
  go_loopw [10] (fun i wr => ∃ r : Nat, r ≤ n ∧ i = .int .i64 r ∧ Gr (w.heap.size + 1) n (cpN n g r) wr ∧ Below (w.heap.size + 1) W1 wr) (fun i _ => n - (intOf i).toNat)
  case atStart => exact ⟨0, by omega, rfl, HZ, Below.refl _ _⟩
  case round =>
    clear HZ
    obtain ⟨r, hr, rfl, hgr, hb⟩ := hrel
    have HGR := hide hgr
    have HB := hide hb
    clear hgr hb
    by_cases hlt : r < n
    · have hri : (r : Int) < n := by omega
      have hri6 : (r : Int) < 6 := by omega
      have hbw : Below w.heap.size w wr := HB1.out.trans (HB.out.mono (by omega))
      have hnet := H.out.step hbw
      obtain ⟨a2, ha2, c0⟩ := hnet.rows r hlt
      obtain rfl := Option.some.inj ha2
      obtain ⟨a', ha', _⟩ := hnet.sets r hlt 0 (by omega)
      have hsrc := hnet.sets r hlt
      dsimp only at c0
      rw [ha'] at c0 hsrc
      have HSRC := hide hsrc
      clear hsrc hnet hbw ha2 ha'
      go_wp2_with fail
      have hgl : wr.drew.heap[w.heap.size + 1]? = some (.cells (grA n (cpN n g r)).toList.toArray 51 (0, 0)) := by
        rw [Array.toArray_toList]; exact HGR.out
      have hnl : ((List.range n).map fun c => Value.int .i64 (g r c)).length = Nat.min n 6 := by
        rw [List.length_map, List.length_range]; exact (Nat.min_eq_left h6).symm
      have hsrc : ∀ j v, ((List.range n).map fun c => Value.int .i64 (g r c))[j]? = some v → wr.drew.cell? (a'.add j) = some v := fun j v hv => by
        rw [List.getElem?_map] at hv
        obtain ⟨c, hc, rfl⟩ := Option.map_eq_some_iff.1 hv
        have hjn : j < n := by
          rcases Nat.lt_or_ge j n with hl | hl
          · exact hl
          · rw [List.getElem?_eq_none (by simpa using hl)] at hc; cases hc
        rw [List.getElem?_range hjn] at hc
        obtain rfl := Option.some.inj hc
        obtain ⟨a3, h3, hcell⟩ := HSRC.out j hjn
        obtain rfl := Option.some.inj h3
        exact hcell
      have hfit : 1 + r * 6 + ((List.range n).map fun c => Value.int .i64 (g r c)).length ≤ (grA n (cpN n g r)).toList.length := by
        rw [List.length_map, List.length_range, Array.length_toList, grA_size]; omega
      have hone : ∀ v ∈ ((List.range n).map fun c => Value.int .i64 (g r c)), v.oneCell' = true := fun v hv => by
        obtain ⟨c, _, rfl⟩ := List.mem_map.1 hv; rfl
      have hbd : Below (w.heap.size + 1) W1 wr.drew := HB.out.drew
      have HH := And.intro hgl (And.intro hnl (And.intro hsrc (And.intro hfit (And.intro hone hbd))))
      have HH := hide HH
      clear hgl hnl hsrc hfit hone hbd
      go_region_law (refine step_copy_splice rfl (.tmp 16) (.tmp 20) 78 78 rfl 47 HU.out infoSet _ _ _ _ _ _ rfl rfl (w.heap.size + 1) (1 + r * 6) (grA n (cpN n g r)).toList 51 HH.out.1 ((List.range n).map fun c => Value.int .i64 (g r c)) HH.out.2.1 (fun _ => ⟨rfl, a', rfl, HH.out.2.2.1⟩) HH.out.2.2.2.1 HH.out.2.2.2.2.1 (w.heap.size + 1) W1 HH.out.2.2.2.2.2 (Nat.le_refl _) ?_; intro w4 hg4 hb4)
      have hgr : Gr (w.heap.size + 1) n (cpN n g (r + 1)) w4 := by
        have := hg4.out
        rw [cp_splice n g r hlt h6 HG.out] at this
        exact this
      clear hg4 HH
      go_wp2
      go_roundw
      case rel => exact ⟨r + 1, by omega, by go_num, hgr, hb4⟩
      case measure => simp [intOf]; omega
    · have hrn : r = n := by omega
      have hni : (n : Int) ≤ r := by omega
      rw [hrn] at HGR
      have hgr := HGR.out
      have hr0 : wr.heap[w.heap.size]? = some (.cells (grA 0 z2) 51 (0, 0)) := (HB.out.block _ (by omega)).trans HR0.out
      have hbw : Below w.heap.size w wr := HB1.out.trans (HB.out.mono (by omega))
      generalize hG : grA n (cpN n g n) = G
      have hGs : G.size = 37 := by rw [← hG]; exact grA_size _ _
      have HGE := hide hG
      unfold Gr at hgr
      rw [hG] at hgr
      clear hG
      have hra : wr.rangeAt (w.heap.size + 1) 0 G.toList := fun j v hv => by
        rw [Nat.zero_add, cell_of_row _ _ _ _ _ (0, 0) hgr]; simpa using hv
      have HRA := hide hra
      have hth : wr.there w.heap.size 0 G.size := fun j hj => by
        rw [Nat.zero_add, cell_of_row _ _ _ _ _ (0, 0) hr0]
        exact ⟨by rw [Array.getElem?_eq_getElem (by rw [grA_size]; rw [hGs] at hj; exact hj)]; rfl, frozen_of_row _ _ _ _ _ hr0⟩
      have HTH := hide hth
      have hwh := setCells_whole (vs := G) hr0 (by rw [grA_size, hGs])
      have hld := run_loadVar_mid (P := Tryd.prog) (wr.setCells w.heap.size 0 G.toList) w.heap.size 0 51 G.toList _ (fun j v hv => by
        rw [Nat.zero_add, cell_of_row _ _ _ _ _ (0, 0) hwh]; simpa using hv) Tryd.underlying51 rfl (by rw [Array.length_toList, hGs]; exact infoGrid)
      rw [Array.toArray_toList] at hld
      have HLD := hide hld
      have HBE := hide (setCells_bel (Nat.le_refl _) G.toList 0 wr hbw)
      clear hra hth hgr hr0 HGR HR0 HS1 hwh hld
      go_wp2_with (first
        | (refine wpList_load_mid rfl 51 (.tmp 3) rfl (w.heap.size + 1) 0 rfl G.toList _ HRA.out Tryd.underlying51 rfl (by rw [Array.length_toList, hGs]; exact infoGrid) ?_)
        | (refine wpList_store_mid rfl 51 (.tmp 2) (.tmp 23) rfl w.heap.size 0 G rfl rfl HTH.out (by rw [hGs]; exact infoGrid) (by rw [← HGE.out]; exact grA_one _ _) ?_))
      generalize wr.setCells w.heap.size 0 G.toList = WE at *
      refine bodyPost_ret (v := .agg G) ?_ rfl ⟨by rw [HGE.out], HBE.out⟩
      simp [results, Tryd.results32, Act.put, asAddr, Result.andThen, Sem.run_bind, HLD.out]
end Go.Proofs.YtnaggcadmfmibaaDoor
