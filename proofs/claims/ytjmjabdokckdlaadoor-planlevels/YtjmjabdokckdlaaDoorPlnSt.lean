/- plan: one's own numbers, put in their order. -/
import Derived.Test.YtjmjabdokckdlaaDoorPlnZ
import Derived.Test.YtjmjabdokckdlaaDoorSh
import Derived.Sort.OwnSortedInts
namespace Go.Proofs.YtjmjabdokckdlaaDoor
open Go.RowKit Go.Shelf Go.Sort
set_option linter.unusedVariables false
set_option linter.unusedSimpArgs false

theorem sort_own (b : Nat) (v : Value) (zs : List Int) (w : World) (hown : w.ownsRow b 3 1 v zs.length (zs.map (Value.int .i64))) (hne : 0 < zs.length) (hlen : zs.length ≤ 1000000) (hb : b ≤ w.heap.size) :
    Calls Tryd.prog 69 #[v] w fun e w' => e = .returned (.tuple #[]) ∧ w'.ownsRow b 3 1 v zs.length ((zs.mergeSort fun x y => decide (x ≤ y)).map (Value.int .i64)) ∧ Below b w w' ∧ w.heap.size ≤ w'.heap.size ∧ ∀ k, k < w.heap.size → v.ownBlock ≠ some k → w'.heap[k]? = w.heap[k]? := by
  rcases hown.2 with ⟨rfl, hn⟩ | ⟨g, cap, cur, rfl, hbg, hg, hnc, hcm, hcs, htake⟩
  · omega
  · have hH : Holds (Value.int .i64) w g 0 zs.toArray := holds_of_blockI hg (by simpa using htake)
    have hlt : g < w.heap.size := (Array.getElem?_eq_some_iff.1 hg).1
    refine (Tryd.slices_Sort_int g 0 cap zs w hH hlt (by omega)).mono ?_
    rintro e w' ⟨he, n, os, rfl⟩
    have hgb := grownBy_sortedI (w := w) (g := g) (n := n) (os := os) (zs.mergeSort fun x y => decide (x ≤ y)).toArray
    have hB := (Below.refl b w).grown hgb hb fun j hj => by cases hj; exact hbg
    refine ⟨he, ?_, hB, ?_, fun k hk hq => hgb.block k hk (fun h => hq h.symm)⟩
    · exact ownsRow_sortedI (w := w) (n := n) (os := os) (ss := zs) (ts := zs.mergeSort fun x y => decide (x ≤ y)) (List.length_mergeSort _) hbg hg (by omega) hcm hcs
    · have := hgb.size; omega
end Go.Proofs.YtjmjabdokckdlaaDoor
