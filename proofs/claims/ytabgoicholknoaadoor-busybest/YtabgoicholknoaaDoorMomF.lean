/- moments: slices.SortFunc over spans. -/
import Derived.Test.YtabgoicholknoaaDoorMomE
import Derived.Test.YtabgoicholknoaaDoorSo
import Derived.Shelf.SlSortCmp.WholeK
import Derived.Shelf.SlSortCmp.NoneTotal
namespace Go.Proofs.YtabgoicholknoaaDoor
open Go.RowKit Go.Shelf Go.Sort Go.Lib
set_option linter.unusedVariables false
set_option linter.unusedSimpArgs false

/-- how two spans stand: by their beginnings -/
def cfS (x y : Int × Int) : Int := Lib.compareInt x.1 y.1
def encS (x : Int × Int) : List Value := [.int .i64 x.1, .int .i64 x.2]
theorem cfS_lt (x y : Int × Int) : ltOf cfS x y = decide (x.1 < y.1) := by
  unfold ltOf cfS Lib.compareInt
  by_cases h1 : x.1 < y.1
  · simp [h1]
  · by_cases h2 : y.1 < x.1 <;> simp [h1, h2]
theorem cfS_swo : SWO (ltOf cfS) where
  irrefl x := by rw [cfS_lt]; simp
  trans x y z h1 h2 := by rw [cfS_lt] at *; simp at *; omega
  ntrans x y z h1 h2 := by rw [cfS_lt] at *; simp at *; omega
theorem isAggS : ∀ w, (isAgg 42).run Tryd.prog w = .ok true w := fun w => by simp [isAgg, Tryd.underlying42, go_sem]
theorem sizeOfS : ∀ w, (Go.sizeOf 42).run Tryd.prog w = .ok 2 w := fun w => by
  obtain ⟨i0, hi, hz0, hz1, hz2⟩ := info_parts infoSpanM
  simp [Go.sizeOf, hi, hz1, go_sem]
  rfl
theorem closS (x y : Int × Int) (W : World) : Calls Tryd.prog 19 #[.agg #[.int .i64 x.1, .int .i64 x.2], .agg #[.int .i64 y.1, .int .i64 y.2]] W fun e w' => e = .returned (.int .i64 (cfS x y)) ∧ ∃ q os', w' = grow (W.drewN q) os' := by
  have hcon : ∀ W', Calls Tryd.prog 20 #[.int .i64 x.1, .int .i64 y.1] W' fun e w' => e = .returned (.int .i64 (cfS x y)) ∧ w' = W' := fun W' => (ccmp x.1 y.1 W').mono fun e w' ⟨c, he, hw, hc⟩ => ⟨by
    rw [he, show cfS x y = c from ?_]
    unfold cfS Lib.compareInt
    split
    · omega
    · split <;> omega, hw⟩
  generalize cfS x y = r at hcon ⊢
  go_enter Tryd.func19, Tryd.ntmps19
  go_wp2_with (go_at_call 20; refine (hcon _).mono ?_; rintro e w' ⟨rfl, rfl⟩)
  go_ret
  exact ⟨rfl, 0, _, by rw [alloc_eq_grow, alloc_eq_grow, grow_grow]; rfl⟩
theorem clZ_flat (zs : List (Int × Int)) : (clZ zs).toArray = flatK encS 2 zs.toArray := by
  apply Array.ext
  · rw [size_flatK]; simp [clZ_len]
  · intro j h1 h2
    have hj : j < zs.length * 2 := by simpa [clZ_len] using h1
    have hd := clZ_get zs (j / 2) (by omega)
    have e : (flatK encS 2 zs.toArray)[j]! = (flatK encS 2 zs.toArray)[j] := getElem!_pos _ j h2
    rw [← e, get_flatK _ _ _ j (by simpa using hj)]
    have hz : zs.toArray[j / 2]! = zs.getD (j / 2) (0, 0) := by
      rw [getElem!_pos _ (j / 2) (by simp; omega), List.getD_eq_getElem?_getD, List.getElem?_eq_getElem (by omega)]; simp
    rw [hz]
    rcases Nat.mod_two_eq_zero_or_one j with hm | hm
    · have hj2 : j = j / 2 * 2 := by omega
      have h := hd.1
      rw [← hj2] at h
      rw [hm, List.getElem_toArray]
      rw [List.getElem?_eq_getElem (by simpa using h1)] at h
      exact Option.some.inj h
    · have hj2 : j = j / 2 * 2 + 1 := by omega
      have h := hd.2
      rw [← hj2] at h
      rw [hm, List.getElem_toArray]
      rw [List.getElem?_eq_getElem (by simpa using h1)] at h
      exact Option.some.inj h
theorem holds_own {w : World} {b g cap : Nat} {zs : List (Int × Int)} (h : w.ownsRow b 42 2 (.slice (some ⟨g, 0, none⟩) zs.length cap) zs.length (clZ zs)) : HoldsK encS 2 w g 0 zs.toArray := by
  unfold HoldsK
  rw [← clZ_flat]
  intro j hj
  have hj' : j < (clZ zs).length := by simpa using hj
  rw [Nat.zero_add]
  refine ⟨?_, h.frozenAt j⟩
  rw [World.ownsRow.cellAt h j (by rw [clZ_len] at hj'; exact hj'), getElem!_pos _ j hj, List.getElem?_eq_getElem hj']
  simp
theorem sortW_below (b : Nat) (w : World) (g n : Nat) (d : Array (Int × Int)) (os : Array Obj) (hg : b ≤ g) (hb : b ≤ w.heap.size) : Below b w (sortWorldK encS 2 w g 0 n d os) := by
  refine ⟨rfl, rfl, rfl, size_sortWorldK_c _ _ _ _ _ _ _ _, fun k hk => ?_⟩
  unfold sortWorldK grow putRowK putRow mapBlock Sort.ahead
  simp only
  rw [Array.getElem?_append_left (by simp; omega), Array.getElem?_modify, if_neg (by omega)]
set_option maxHeartbeats 1000000 in
/-- sorted by their beginnings: as many as before, in the same place -/
theorem sort_any (b : Nat) (v : Value) (zs : List (Int × Int)) (w : World) (hown : w.ownsRow b 42 2 v zs.length (clZ zs)) (hlen : zs.length ≤ 1000000) (hb : b ≤ w.heap.size) :
    Calls Tryd.prog 18 #[v, .func (.func 19) #[] #[]] w fun e w' => e = .returned (.tuple #[]) ∧ (∃ zs', zs'.length = zs.length ∧ zs'.Perm zs ∧ (∀ i j, i < j → j < zs.length → (zs'.getD i (0, 0)).1 ≤ (zs'.getD j (0, 0)).1) ∧ SpsB w'.heap.size w' v zs') ∧ Below b w w' := by
  have hfrz := hown
  rcases hown.2 with ⟨rfl, hn⟩ | ⟨g, cap, cur, rfl, hbg, hg, hnc, hcm, hcs, htake⟩
  · have h0 : zs = [] := List.eq_nil_of_length_eq_zero hn
    subst h0
    have h := AnyF.slices_SortFunc_none Tryd.sortSpans none 0 (.func (.func 19) #[] #[]) w
    change Calls Tryd.prog 18 _ _ _ at h
    exact h.mono fun e w' ⟨he, hw⟩ => ⟨he, ⟨[], rfl, .refl _, fun i j _ hj => absurd hj (by simp), .inl ⟨rfl, rfl⟩⟩, by rw [hw]; exact Below.refl _ _⟩
  · have hgl : g < w.heap.size := (Array.getElem?_eq_some_iff.1 hg).1
    have eg : ∀ args w, (callFunc 19 args).run Tryd.prog w = .ok (.enter 19 args) w := enters_of Tryd.func19 (by kernel_rfl) rfl
    have hH := holds_own hown
    have h := AnyQ.slices_SortFunc Tryd.sortSpans 2 isAggS sizeOfS encS (fun _ => rfl) (fun x v hv => by simp [encS] at hv; rcases hv with rfl | rfl <;> rfl) cfS cfS_swo 19 #[] g 0 cap zs.toArray w eg (fun _ _ _ _ x y => closS x y _) hH hgl (by simp; omega)
    change Calls Tryd.prog 18 #[.slice (some ⟨g, 0, none⟩) zs.length cap, .func (.func 19) #[] #[]] w _ at h
    refine h.mono ?_
    rintro e w' ⟨he, d', n, os, hp, hs, rfl⟩
    have hsz : d'.size = zs.length := hp.1
    have hper : d'.toList.Perm zs := by
      have h3 := hp.2.2
      rw [show zs.toArray.size = d'.size from hsz.symm, Array.extract_size] at h3
      rw [hsz, show zs.length = zs.toArray.size from rfl, Array.extract_size] at h3
      exact h3
    have hH' := holdsK_sortWorldK_c encS 2 w g 0 zs.toArray d' n os hH hgl (by simpa using hsz)
    refine ⟨he, ⟨d'.toList, by simpa using hsz, hper, fun i j hij hj => ?_, .inr ⟨g, 0, cap, by simp [hsz], ?_, fun j hj => ?_⟩⟩, sortW_below b w g n d' os hbg hb⟩
    · have h4 := hs i j (Nat.zero_le _) hij hj
      rw [cfS_lt] at h4
      have g1 : ∀ k, k < zs.length → d'[k]! = d'.toList.getD k (0, 0) := fun k hk => by
        rw [getElem!_pos _ k (by omega), List.getD_eq_getElem?_getD, List.getElem?_eq_getElem (by simp; omega)]; simp
      rw [g1 i (by omega), g1 j hj] at h4
      simpa using h4
    · exact Nat.lt_of_lt_of_le hgl (size_sortWorldK_c _ _ _ _ _ _ _ _)
    · have hj' : j < d'.size := by simpa using hj
      have h0 := (hH'.cell hj' (show 0 < 2 by omega)).1
      have h1 := (hH'.cell hj' (show 1 < 2 by omega)).1
      have hz : d'[j]! = d'.toList.getD j (0, 0) := by
        rw [getElem!_pos _ j hj', List.getD_eq_getElem?_getD, List.getElem?_eq_getElem hj]; simp
      rw [hz] at h0 h1
      exact ⟨h0, h1⟩
end Go.Proofs.YtabgoicholknoaaDoor
