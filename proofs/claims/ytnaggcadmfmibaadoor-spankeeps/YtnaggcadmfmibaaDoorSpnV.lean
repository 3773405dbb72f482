/- slices.Clone; (*grid).rows. -/
import Derived.Test.YtnaggcadmfmibaaDoorSpnQ
import Derived.Deep.AppendLies
import Derived.Deep.RegionLawGrows
import Derived.Laws.Cover3
namespace Go.Proofs.YtnaggcadmfmibaaDoor
open Go.RowKit
set_option linter.unusedVariables false
set_option linter.unusedSimpArgs false

theorem infoSet3 : (Tryd.prog.info? 47).map (fun i => (i.zero, i.size, i.bytes)) = some (some (.int .i64 0), 1, 8) := by kernel_rfl
theorem infoRow3 : (Tryd.prog.info? 78).map (fun i => (i.zero, i.size, i.bytes)) = some (some (.slice none 0 0), 1, 24) := by kernel_rfl
/-- a row's values -/
def rwV (n : Nat) (f : Nat → Nat) : List Value := (List.range n).map fun c => Value.int .i64 (f c : Nat)
theorem rwV_get (n : Nat) (f : Nat → Nat) (c : Nat) (h : c < n) : (rwV n f)[c]? = some (.int .i64 (f c : Nat)) := by
  unfold rwV; rw [List.getElem?_map, List.getElem?_range h]; rfl
theorem rwV_len (n : Nat) (f : Nat → Nat) : (rwV n f).length = n := by unfold rwV; simp
set_option maxRecDepth 100000 in
set_option maxHeartbeats 4000000 in
theorem clone_any (ad : Addr) (n cap : Nat) (f : Nat → Nat) (w : World) (h1 : 1 ≤ n) (h6 : n ≤ 6) (h : ∀ k, k < n → w.cell? (ad.add k) = some (.int .i64 (f k : Nat))) :
    Calls Tryd.prog 52 #[.slice (some ad) n cap] w fun e w' => ∃ g c, e = .returned (.slice (some ⟨g, 0, none⟩) n c) ∧ w'.ownsRow w.heap.size 47 1 (.slice (some ⟨g, 0, none⟩) n c) n (rwV n f) ∧ Below w.heap.size w w' := by
  have H := hide h
  obtain ⟨i0, hi, hz0, hz1, hz2⟩ := info_parts infoSet3
  clear h
  go_enter Tryd.func52, Tryd.ntmps52
  have hcmp : ∀ w, Sem.run Tryd.prog (binOp .eql 78 (.slice (some ad) n cap) (.slice none 0 0)) w = .ok (.bool false) w := fun w => by
    simp only [binOp]
    simp [run_equal_slice_nil w 78 47 (some ad) n cap Tryd.underlying78]
  have hown : (w.alloc (.cells #[] 47)).ownsRow w.heap.size 47 1 (.slice (some ⟨w.heap.size, 0, none⟩) 0 0) 0 [] :=
    ⟨rfl, .inr ⟨w.heap.size, 0, #[], rfl, Nat.le_refl _, heap_alloc_last _ _, Nat.le_refl _, by unfold maxLen; omega, rfl, rfl⟩⟩
  have hb0 : Below w.heap.size w (w.alloc (.cells #[] 47)) := (Below.refl _ w).alloc (Nat.le_refl _) _
  have hnews : ∀ j u, (rwV n f)[j]? = some u → (w.alloc (.cells #[] 47)).cell? (ad.add j) = some u := fun j u hu => by
    rcases Nat.lt_or_ge j n with hl | hl
    · rw [rwV_get n f j hl] at hu
      rw [hb0.cell (lt_of_cell (H.out j hl)), H.out j hl]; exact hu
    · rw [List.getElem?_eq_none (by rw [rwV_len]; exact hl)] at hu; cases hu
  have hone : ∀ u ∈ rwV n f, u.oneCell' = true := fun u hu => by unfold rwV at hu; obtain ⟨c, _, rfl⟩ := List.mem_map.1 hu; rfl
  have hbase : w.heap.size ≤ (w.alloc (.cells #[] 47)).heap.size := by simp
  have hlen : (rwV n f).length = n * 1 := by rw [rwV_len]; omega
  have HH := hide (And.intro hown (And.intro hnews (And.intro hone (And.intro hbase (And.intro hlen hb0)))))
  clear hown hnews hone hbase hlen hb0
  go_wp2_with (first | (at_builtin; refine wpList_append_lies _ rfl (.tmp 5) (.tmp 6) 78 rfl w.heap.size 47 i0 (.int .i64 0) 1 8 Tryd.underlying78 hi hz0 hz1 hz2 rfl (by decide) _ 0 [] rfl HH.out.1 ad n cap (rwV n f) rfl HH.out.2.2.2.2.1 HH.out.2.1 HH.out.2.2.1 (by omega) (by unfold maxLen; omega) (by omega) HH.out.2.2.2.1 _ rfl ?_; intro g c w1 hown' hgrow hat hlt))
  have hB := hide (HH.out.2.2.2.2.2.grown hgrow HH.out.2.2.2.1 (fun j hj => (HH.out.1.lt j hj).1))
  have HO := hide hown'
  clear hown' hgrow hat hlt HH hcmp
  go_wp2
  go_ret
  refine ⟨g, c, by simp, ?_, hB.out⟩
  simpa using HO.out
end Go.Proofs.YtnaggcadmfmibaaDoor
