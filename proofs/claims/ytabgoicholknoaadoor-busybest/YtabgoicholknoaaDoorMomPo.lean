/- Sets of times: the times of Of. -/
import Derived.Test.YtabgoicholknoaaDoorMomP
import Derived.Test.YtabgoicholknoaaDoorMomK
namespace Go.Proofs.YtabgoicholknoaaDoor
open Go.RowKit Go.Shelf
set_option linter.unusedVariables false
set_option linter.unusedSimpArgs false

/-- the times of Of -/
theorem jn_spec : ∀ (zs acc : List (Int × Int)), InvL acc → (∀ p ∈ zs, -1152921504606846976 ≤ p.1 ∧ p.1 < p.2 ∧ p.2 ≤ 1152921504606846976) → zs.Pairwise (fun a b => a.1 ≤ b.1) → (∀ a ∈ acc, ∀ b ∈ zs, a.1 ≤ b.1) → ∀ t, InS (zs.foldl (jn1 0) acc) t ↔ InS acc t ∨ InS zs t
  | [], acc, _, _, _, _, t => ⟨.inl, fun h => h.elim id fun h => (inS_nil t h).elim⟩
  | x :: zs, acc, ha, hz, hs, hb, t => by
    have bx := hz x (List.mem_cons_self ..)
    have hs' := List.pairwise_cons.1 hs
    show InS (zs.foldl (jn1 0) (jn1 0 acc x)) t ↔ _
    have key : InvL (jn1 0 acc x) ∧ (∀ a ∈ jn1 0 acc x, ∀ b ∈ zs, a.1 ≤ b.1) ∧ (InS (jn1 0 acc x) t ↔ InS acc t ∨ (x.1 ≤ t ∧ t < x.2)) := by
      refine ⟨invL_jn1 acc x ha bx.1 bx.2.1 bx.2.2, ?_⟩
      unfold jn1
      split
      · rename_i h0
        obtain rfl : acc = [] := List.eq_nil_of_length_eq_zero h0
        exact ⟨fun a h b hb' => by rw [List.mem_singleton] at h; subst h; exact hs'.1 b hb', by rw [inS_one]; exact ⟨.inr, fun h => h.elim (fun h => (inS_nil t h).elim) id⟩⟩
      · rename_i h0
        obtain ⟨pr, y, rfl⟩ : ∃ pr y, acc = pr ++ [y] := ⟨acc.dropLast, acc.getLast (by intro e; subst e; exact h0 rfl), (List.dropLast_concat_getLast _).symm⟩
        have hy : (pr ++ [y]).getD ((pr ++ [y]).length - 1) (0, 0) = y := by simp
        have ht : (pr ++ [y]).take ((pr ++ [y]).length - 1) = pr := by simp
        rw [hy]
        have by' := ha.1 y (by simp)
        have hyx := hb y (by simp) x (List.mem_cons_self ..)
        have hw : wrap64 (x.1 - y.2) = x.1 - y.2 := by rw [wrap64_id] <;> omega
        rw [hw]
        split
        · rw [ht]
          refine ⟨fun a h b hb' => ?_, ?_⟩
          · rcases List.mem_append.1 h with h | h
            · exact hb a (List.mem_append_left _ h) b (List.mem_cons_of_mem _ hb')
            · rw [List.mem_singleton] at h; subst h; exact hb y (by simp) b (List.mem_cons_of_mem _ hb')
          · rw [inS_app, inS_app, inS_one, inS_one]
            show InS pr t ∨ (y.1 ≤ t ∧ t < max y.2 x.2) ↔ _
            constructor
            · rintro (h | h)
              · exact .inl (.inl h)
              · by_cases hc : t < y.2
                · exact .inl (.inr ⟨h.1, hc⟩)
                · exact .inr ⟨by omega, by omega⟩
            · rintro ((h | h) | h)
              · exact .inl h
              · exact .inr ⟨h.1, by omega⟩
              · exact .inr ⟨by omega, by omega⟩
        · refine ⟨fun a h b hb' => ?_, by rw [inS_app _ [x], inS_one]⟩
          rcases List.mem_append.1 h with h | h
          · exact hb a h b (List.mem_cons_of_mem _ hb')
          · rw [List.mem_singleton] at h; subst h; exact hs'.1 b hb'
    rw [jn_spec zs _ key.1 (fun p hp => hz p (List.mem_cons_of_mem _ hp)) hs'.2 key.2.1 t, key.2.2, inS_cons]
    exact or_assoc
theorem lyF_in2 : ∀ (zs acc : List (Int × Int)) (t : Int), InS (zs.foldl (fun acc x => ly acc (clp x)) acc) t ↔ InS acc t ∨ (-1152921504606846976 ≤ t ∧ t < 1152921504606846976 ∧ InS zs t)
  | [], acc, t => ⟨.inl, fun h => h.elim id fun h => (inS_nil t h.2.2).elim⟩
  | x :: zs, acc, t => by
    show InS (zs.foldl (fun acc x => ly acc (clp x)) (ly acc (clp x))) t ↔ _
    rw [lyF_in2 zs _ t, inS_ly, inS_cons]
    have : ((clp x).1 ≤ t ∧ t < (clp x).2) ↔ (-1152921504606846976 ≤ t ∧ t < 1152921504606846976 ∧ x.1 ≤ t ∧ t < x.2) := by unfold clp; simp only; omega
    rw [this]
    constructor
    · rintro ((h | ⟨h1, h2, h3⟩) | ⟨h1, h2, h3⟩)
      · exact .inl h
      · exact .inr ⟨h1, h2, .inl h3⟩
      · exact .inr ⟨h1, h2, .inr h3⟩
    · rintro (h | ⟨h1, h2, h3 | h3⟩)
      · exact .inl (.inl h)
      · exact .inl (.inr ⟨h1, h2, h3⟩)
      · exact .inr ⟨h1, h2, h3⟩
theorem ofL_in (zs zs' : List (Int × Int)) (hp : zs'.Perm (lyL zs)) (hs : ∀ i j, i < j → j < zs'.length → (zs'.getD i (0, 0)).1 ≤ (zs'.getD j (0, 0)).1) (t : Int) : InS (jnL 0 zs') t ↔ -1152921504606846976 ≤ t ∧ t < 1152921504606846976 ∧ InS zs t := by
  have h1 := lyF_in2 zs [] t
  have h2 : InS zs' t ↔ InS (lyL zs) t := ⟨fun ⟨p, h, h'⟩ => ⟨p, hp.mem_iff.1 h, h'⟩, fun ⟨p, h, h'⟩ => ⟨p, hp.mem_iff.2 h, h'⟩⟩
  have h3 := jn_spec zs' [] invL_nil (fun p hq => lyF_in zs [] (fun p hp => by simp at hp) p (hp.mem_iff.1 hq)) (List.pairwise_iff_getElem.2 fun i j hi hj hij => by
    have := hs i j hij hj
    rwa [List.getD_eq_getElem?_getD, List.getD_eq_getElem?_getD, List.getElem?_eq_getElem hi, List.getElem?_eq_getElem hj] at this) (fun a ha => by simp at ha) t
  unfold jnL
  rw [h3, h2]
  unfold lyL
  rw [h1]
  exact ⟨fun h => h.elim (fun h => (inS_nil t h).elim) fun h => h.elim (fun h => (inS_nil t h).elim) id, fun h => .inr (.inr h)⟩
end Go.Proofs.YtabgoicholknoaaDoor
