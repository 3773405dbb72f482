/- moments: notAhead. -/
import Derived.Test.YtabgoicholknoaaDoorMomG
import Derived.Shelf.SlSorted.Search
namespace Go.Proofs.YtabgoicholknoaaDoor
open Go.RowKit Go.Shelf Go.Sort
set_option linter.unusedVariables false
set_option linter.unusedSimpArgs false

theorem invL_jn1 (acc : List (Int × Int)) (x : Int × Int) (h : InvL acc) (h1 : -1152921504606846976 ≤ x.1) (h2 : x.1 < x.2) (h3 : x.2 ≤ 1152921504606846976) : InvL (jn1 0 acc x) := by
  unfold jn1
  split
  · exact ⟨fun p hp => by rw [List.mem_singleton] at hp; subst hp; exact ⟨h1, h2, h3⟩, List.pairwise_singleton _ _⟩
  · rename_i h0
    obtain ⟨pr, y, rfl⟩ : ∃ pr y, acc = pr ++ [y] := ⟨acc.dropLast, acc.getLast (by intro e; subst e; exact h0 rfl), (List.dropLast_concat_getLast _).symm⟩
    have hy : (pr ++ [y]).getD ((pr ++ [y]).length - 1) (0, 0) = y := by simp
    rw [hy]
    have hyb := h.1 y (by simp)
    have hpw := List.pairwise_append.1 h.2
    split
    · have ht : (pr ++ [y]).take ((pr ++ [y]).length - 1) = pr := by simp
      rw [ht]
      refine ⟨fun p hp => ?_, List.pairwise_append.2 ⟨hpw.1, List.pairwise_singleton _ _, fun a ha b hb => ?_⟩⟩
      · rcases List.mem_append.1 hp with hp | hp
        · exact h.1 p (List.mem_append_left _ hp)
        · rw [List.mem_singleton] at hp; subst hp; simp only; omega
      · rw [List.mem_singleton] at hb; subst hb
        exact hpw.2.2 a ha y (by simp)
    · rename_i hg
      have hw : wrap64 (x.1 - y.2) = x.1 - y.2 := by rw [wrap64_id] <;> omega
      rw [hw] at hg
      refine ⟨fun p hp => ?_, List.pairwise_append.2 ⟨h.2, List.pairwise_singleton _ _, fun a ha b hb => ?_⟩⟩
      · rcases List.mem_append.1 hp with hp | hp
        · exact h.1 p hp
        · rw [List.mem_singleton] at hp; subst hp; exact ⟨h1, h2, h3⟩
      · rw [List.mem_singleton] at hb; subst hb
        rcases List.mem_append.1 ha with ha | ha
        · have := hpw.2.2 a ha y (by simp); omega
        · rw [List.mem_singleton] at ha; subst ha; omega
theorem invL_jnF : ∀ (zs acc : List (Int × Int)), InvL acc → (∀ p ∈ zs, -1152921504606846976 ≤ p.1 ∧ p.1 < p.2 ∧ p.2 ≤ 1152921504606846976) → InvL (zs.foldl (jn1 0) acc)
  | [], acc, h, _ => h
  | x :: zs, acc, h, hz => by
    have hx := hz x (by simp)
    exact invL_jnF zs (jn1 0 acc x) (invL_jn1 acc x h hx.1 hx.2.1 hx.2.2) (fun p hp => hz p (by simp [hp]))
theorem lyF_in : ∀ (zs acc : List (Int × Int)), (∀ p ∈ acc, -1152921504606846976 ≤ p.1 ∧ p.1 < p.2 ∧ p.2 ≤ 1152921504606846976) → ∀ p ∈ zs.foldl (fun acc x => ly acc (clp x)) acc, -1152921504606846976 ≤ p.1 ∧ p.1 < p.2 ∧ p.2 ≤ 1152921504606846976
  | [], acc, h => h
  | x :: zs, acc, h => by
    refine lyF_in zs (ly acc (clp x)) fun p hp => ?_
    unfold ly at hp
    split at hp
    · exact h p hp
    · rename_i hne
      rcases List.mem_append.1 hp with hp | hp
      · exact h p hp
      · rw [List.mem_singleton] at hp; subst hp
        unfold clp at hne ⊢
        simp only at hne ⊢
        omega
theorem invL_of (zs zs' : List (Int × Int)) (hp : zs'.Perm (lyL zs)) : InvL (jnL 0 zs') :=
  invL_jnF zs' [] ⟨fun p hp => by simp at hp, List.Pairwise.nil⟩ fun p hq => lyF_in zs [] (fun p hp => by simp at hp) p (hp.mem_iff.1 hq)

set_option maxHeartbeats 1000000 in
theorem closN (i : Nat) (g c len B1 B2 : Nat) (t u : Int) (W : World) (hi : i < len) (hlen : len ≤ 1000000) (h1 : W.cell? ⟨B1, 0, none⟩ = some (.slice (some ⟨g, 0, none⟩) len c)) (h2 : W.cell? ⟨B2, 0, none⟩ = some (.int .i64 t)) (h3 : W.cell? ⟨g, i * 2 + 1, none⟩ = some (.int .i64 u)) :
    Calls Tryd.prog 77 #[.int .i64 i, .pointer (some ⟨B1, 0, none⟩), .pointer (some ⟨B2, 0, none⟩)] W fun e w' => e = .returned (.bool (decide (t < u))) ∧ ∃ q os', w' = grow (W.drewN q) os' := by
  have hii : (i : Int) < len := by omega
  go_enter Tryd.func77, Tryd.ntmps77
  go_wp2
  go_quiet (fail)
  go_wp2
  go_ret
  exact ⟨rfl, _, #[], by rw [grow_empty]⟩
end Go.Proofs.YtabgoicholknoaaDoor
