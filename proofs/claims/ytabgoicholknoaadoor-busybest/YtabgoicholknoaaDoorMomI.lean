/- moments: notAhead, Room. -/
import Derived.Test.YtabgoicholknoaaDoorMomH
namespace Go.Proofs.YtabgoicholknoaaDoor
open Go.RowKit Go.Shelf Go.Sort
set_option linter.unusedVariables false
set_option linter.unusedSimpArgs false

theorem count_split (p : Nat → Bool) : ∀ (n : Nat), (∀ a b, a ≤ b → b < n → p a = true → p b = true) → (List.range n).countP (fun i => !p i) ≤ n ∧ (∀ j, j < (List.range n).countP (fun i => !p i) → p j = false) ∧ (∀ j, (List.range n).countP (fun i => !p i) ≤ j → j < n → p j = true)
  | 0, _ => by simp
  | n + 1, hm => by
    obtain ⟨h1, h2, h3⟩ := count_split p n (fun a b hab hb => hm a b hab (by omega))
    rw [List.range_succ, List.countP_append, List.countP_singleton]
    generalize (List.range n).countP (fun i => !p i) = k at h1 h2 h3
    by_cases hp : p n = true
    · rw [hp]
      simp only [Bool.not_true, Bool.false_eq_true, if_false, Nat.add_zero]
      refine ⟨by omega, h2, fun j hj hjn => ?_⟩
      rcases Nat.lt_or_ge j n with h | h
      · exact h3 j hj h
      · obtain rfl : j = n := by omega
        exact hp
    · have hpf : p n = false := by simpa using hp
      have hk : k = n := by
        rcases Nat.lt_or_ge k n with h | h
        · exact absurd (hm k n (by omega) (by omega) (h3 k (Nat.le_refl _) h)) hp
        · omega
      subst hk
      rw [hpf]
      simp only [Bool.not_false, if_true]
      refine ⟨by omega, fun j hj => ?_, fun j hj hjn => by omega⟩
      rcases Nat.lt_or_ge j k with h | h
      · exact h2 j h
      · obtain rfl : j = k := by omega
        exact hpf
theorem invL_to {L : List (Int × Int)} (h : InvL L) (i j : Nat) (hij : i < j) (hj : j < L.length) : (L.getD i (0, 0)).2 < (L.getD j (0, 0)).1 := by
  rw [List.getD_eq_getElem?_getD, List.getD_eq_getElem?_getD, List.getElem?_eq_getElem hj, List.getElem?_eq_getElem (by omega)]
  exact List.pairwise_iff_getElem.1 h.2 i j (by omega) hj hij
theorem invL_at {L : List (Int × Int)} (h : InvL L) (j : Nat) (hj : j < L.length) : -1152921504606846976 ≤ (L.getD j (0, 0)).1 ∧ (L.getD j (0, 0)).1 < (L.getD j (0, 0)).2 ∧ (L.getD j (0, 0)).2 ≤ 1152921504606846976 := by
  rw [List.getD_eq_getElem?_getD, List.getElem?_eq_getElem hj]
  exact h.1 _ (List.getElem_mem hj)
/-- the spans L lie in the block g -/
def At2 (w : World) (g : Nat) (L : List (Int × Int)) : Prop := ∀ j, j < L.length → w.cell? ⟨g, j * 2, none⟩ = some (.int .i64 (L.getD j (0, 0)).1) ∧ w.cell? ⟨g, j * 2 + 1, none⟩ = some (.int .i64 (L.getD j (0, 0)).2)
theorem At2.below {w w' : World} {g : Nat} {L : List (Int × Int)} (h : At2 w g L) (hg : g < w.heap.size) (hB : Below w.heap.size w w') : At2 w' g L := fun j hj =>
  ⟨(hB.cell (p := ⟨g, j * 2, none⟩) hg).trans (h j hj).1, (hB.cell (p := ⟨g, j * 2 + 1, none⟩) hg).trans (h j hj).2⟩
set_option maxHeartbeats 2000000 in
theorem notAhead_any (L : List (Int × Int)) (hL : InvL L) (hlen : L.length ≤ 1000000) (g c : Nat) (hc : L.length ≤ c) (t : Int) (w : World) (hg : g < w.heap.size) (hA : At2 w g L) :
    Calls Tryd.prog 65 #[.agg #[.slice (some ⟨g, 0, none⟩) L.length c], .int .i64 t] w fun e w' => ∃ k, k ≤ L.length ∧ (∀ j, j < k → (L.getD j (0, 0)).2 ≤ t) ∧ (∀ j, k ≤ j → j < L.length → t < (L.getD j (0, 0)).2) ∧ (∃ o, (k < c → o = k * 2) ∧ e = .returned (.slice (some ⟨g, o, none⟩) (L.length - k) (c - k))) ∧ Below w.heap.size w w' := by
  have hmono : ∀ a b, a ≤ b → b < L.length → decide (t < (L.getD a (0, 0)).2) = true → decide (t < (L.getD b (0, 0)).2) = true := fun a b hab hb ha => by
    simp only [decide_eq_true_eq] at ha ⊢
    rcases Nat.lt_or_ge a b with h | h
    · have h1 := invL_to hL a b h hb
      have h2 := invL_at hL b hb
      omega
    · obtain rfl : a = b := by omega
      exact ha
  have hsp := count_split (fun i => decide (t < (L.getD i (0, 0)).2)) L.length hmono
  have hb1 : Below w.heap.size w (w.alloc (.cells #[.slice (some ⟨g, 0, none⟩) L.length c] 30)) := (Below.refl _ w).alloc (Nat.le_refl _) _
  have hb2 : Below w.heap.size w ((w.alloc (.cells #[.slice (some ⟨g, 0, none⟩) L.length c] 30)).alloc (.cells #[.int .i64 t] 22)) := hb1.alloc (by simp) _
  have x1 : Boxed ((w.alloc (.cells #[.slice (some ⟨g, 0, none⟩) L.length c] 30)).alloc (.cells #[.int .i64 t] 22)) w.heap.size 30 (.slice (some ⟨g, 0, none⟩) L.length c) := (Boxed.new _ _ _).alloc _
  have x2 : Boxed ((w.alloc (.cells #[.slice (some ⟨g, 0, none⟩) L.length c] 30)).alloc (.cells #[.int .i64 t] 22)) (w.heap.size + 1) 22 (.int .i64 t) := by have := Boxed.new (w.alloc (.cells #[.slice (some ⟨g, 0, none⟩) L.length c] 30)) 22 (.int .i64 t); rwa [World.size_alloc] at this
  have hA2 := hA.below hg hb2
  have hz : ((w.alloc (.cells #[.slice (some ⟨g, 0, none⟩) L.length c] 30)).alloc (.cells #[.int .i64 t] 22)).heap.size = w.heap.size + 2 := by simp
  have HS := Any.sort_Search Tryd.searchN 77 #[.pointer (some ⟨w.heap.size, 0, none⟩), .pointer (some ⟨w.heap.size + 1, 0, none⟩)] L.length (fun i => decide (t < (L.getD i (0, 0)).2)) ((w.alloc (.cells #[.slice (some ⟨g, 0, none⟩) L.length c] 30)).alloc (.cells #[.int .i64 t] 22)) (enters_of Tryd.func77 (by kernel_rfl) rfl) (by omega)
    (fun m os i hi => closN i g c L.length w.heap.size (w.heap.size + 1) t _ _ hi hlen
      ((cell?_grow _ _ _ (by show w.heap.size < ((World.alloc _ _).heap.size); rw [hz]; omega)).trans x1.cell)
      ((cell?_grow _ _ _ (by show w.heap.size + 1 < ((World.alloc _ _).heap.size); rw [hz]; omega)).trans x2.cell)
      ((cell?_grow _ _ _ (by show g < ((World.alloc _ _).heap.size); rw [hz]; omega)).trans (hA2 i hi).2)) hmono
  change Calls Tryd.prog 76 _ _ _ at HS
  generalize (List.range L.length).countP (fun i => !decide (t < (L.getD i (0, 0)).2)) = k at hsp HS
  obtain ⟨hk, hlo, hhi⟩ := hsp
  have hki : (k : Int) ≤ L.length := by omega
  have hkc : (k : Int) ≤ c := by omega
  have hkc2 : (L.length : Int) ≤ c := by omega
  have HSH := hide HS
  have HB := hide hb2
  have HX1 := hide x1
  have HZ := hide hz
  clear HS hb1 hb2 x1 x2 hA2 hA hmono hz
  go_enter Tryd.func65, Tryd.ntmps65
  go_wp2_with (go_at_call 76; refine HSH.out.mono ?_; rintro e w1 ⟨rfl, q, os, rfl⟩; have hcc := (cell?_grow (World.drewN ((w.alloc (.cells #[.slice (some ⟨g, 0, none⟩) L.length c] 30)).alloc (.cells #[.int .i64 t] 22)) q) os ⟨w.heap.size, 0, none⟩ (by show w.heap.size < ((World.alloc _ _).heap.size); rw [HZ.out]; omega)).trans HX1.out.cell)
  all_goals
    (try (have hck : c = k := by assumption); (try subst hck))
    go_ret
    first
      | refine ⟨k, by omega, fun j hj => by simpa using hlo j hj, fun j h1 h2 => by simpa using hhi j h1 h2, ?_, ?_⟩
      | refine ⟨c, by omega, fun j hj => by simpa using hlo j hj, fun j h1 h2 => by simpa using hhi j h1 h2, ?_, ?_⟩
    · first
        | exact ⟨0, fun h => by omega, by simp⟩
        | exact ⟨k * 2, fun _ => rfl, by simp⟩
    · exact HB.out.trans ⟨rfl, rfl, rfl, by rw [size_grow]; exact Nat.le_add_right _ _, fun j hj => heap_grow_old _ _ (by show j < ((World.alloc _ _).heap.size); rw [HZ.out]; have := HZ.out; omega)⟩
end Go.Proofs.YtabgoicholknoaaDoor
