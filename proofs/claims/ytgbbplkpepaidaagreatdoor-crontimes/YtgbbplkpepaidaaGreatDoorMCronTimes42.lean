/- package cron: fitting; the minutes of a day; what Next finds. -/
import Derived.Test.YtgbbplkpepaidaaGreatDoorMCronTimes38
import Derived.Test.YtgbbplkpepaidaaGreatDoorMCronTimes36
import Derived.Test.YtgbbplkpepaidaaGreatDoorMCronTimes41
namespace Go.Proofs.YtgbbplkpepaidaaGreatDoor
open Go.RowKit Go.Shelf
set_option linter.unusedVariables false
set_option linter.unusedSimpArgs false
attribute [local go_sem] Oper.semAt_some

theorem fitting_any (A : CAd) (x : Crn.C) (a z : Int) (w : World) :
    Calls Tryz.prog 28 #[crV A x, .int .i64 a, .int .i64 z] w fun e w' => e = .returned (.func (.func 46) #[] #[.pointer (some ⟨w.heap.size + 1, 0, none⟩), .pointer (some ⟨w.heap.size + 1 + 1, 0, none⟩), .pointer (some ⟨w.heap.size, 0, none⟩)]) ∧ w' = ((w.alloc (crO A x)).alloc (.cells #[.int .i64 a] 3)).alloc (.cells #[.int .i64 z] 3) := by
  go_enter Tryz.func28, Tryz.ntmps28
  go_wp2
  go_ret
  exact ⟨rfl, rfl⟩
/-- the minute of a day that the lists' places tell -/
def mt (x : Crn.C) (i j : Nat) : Int := x.ho.getD i 0 * 60 + x.mi.getD j 0
/-- no minute of the day d lies behind t -/
def Dn (x : Crn.C) (t d : Int) : Prop := ∀ i j, i < x.ho.length → j < x.mi.length → d * 86400 + mt x i j * 60 ≤ t
/-- the first one that does -/
def Fr (x : Crn.C) (t d r : Int) : Prop := ∃ i j, i < x.ho.length ∧ j < x.mi.length ∧ r = d * 86400 + mt x i j * 60 ∧ t < r ∧ ∀ i' j', i' < x.ho.length → j' < x.mi.length → (i' < i ∨ i' = i ∧ j' < j) → d * 86400 + mt x i' j' * 60 ≤ t
theorem anyN_at {b : Nat → Bool} {n k : Nat} (hk : k < n) (h : b k = true) : anyN b n = true := by
  unfold anyN
  rw [Crn.allB_no (k := k) (by rw [h]; rfl) n hk]
  rfl
theorem anyN_ex {b : Nat → Bool} {n : Nat} (h : anyN b n = true) : ∃ k, k < n ∧ b k = true := by
  by_cases hx : ∃ k, k < n ∧ b k = true
  · exact hx
  · have : Crn.allB (fun k => !b k) n = true := by
      clear h
      induction n with
      | zero => rfl
      | succ n ih =>
        unfold Crn.allB
        rw [ih fun ⟨k, hk, hb⟩ => hx ⟨k, by omega, hb⟩]
        have : b n = false := by
          cases hb : b n
          · rfl
          · exact absurd ⟨n, by omega, hb⟩ hx
        rw [this]; rfl
    unfold anyN at h
    rw [this] at h
    cases h
theorem memB_at (l : List Int) {k : Nat} (hk : k < l.length) : memB l (l.getD k 0) = true := anyN_at hk (by simp)
theorem memB_ex {l : List Int} {v : Int} (h : memB l v = true) : ∃ k, k < l.length ∧ l.getD k 0 = v := by
  obtain ⟨k, hk, hb⟩ := anyN_ex h
  exact ⟨k, hk, by simpa using hb⟩
theorem rises_lt {lo hi : Int} {l : List Int} (h : Crn.rises lo hi l = true) : ∀ {j i : Nat}, i < j → j < l.length → l.getD i 0 < l.getD j 0
  | 0, i, h1, _ => by omega
  | j + 1, i, h1, h2 => by
    have h3 := of_decide_eq_true (show decide _ = true from Crn.allB_yes h (j + 1) h2)
    have h4 := h3.2.2.resolve_left (by omega)
    rw [show j + 1 - 1 = j by omega] at h4
    by_cases e : i = j
    · subst e; exact h4
    · have := rises_lt h (j := j) (i := i) (by omega) (by omega)
      omega
theorem rises_bd {lo hi : Int} {l : List Int} (h : Crn.rises lo hi l = true) {k : Nat} (hk : k < l.length) : lo ≤ l.getD k 0 ∧ l.getD k 0 ≤ hi := Crn.okR_bd (Crn.allB_yes h k hk)
theorem Dn.no {x : Crn.C} {f : Int → Bool} {t d m : Int} (h : Dn x t d) : ¬ Ft x f t d m := fun ⟨_, h1, h2, h3⟩ => by
  obtain ⟨i, hi, ei⟩ := memB_ex h2
  obtain ⟨j, hj, ej⟩ := memB_ex h3
  have := h i j hi hj
  unfold mt at this
  rw [ei, ej] at this
  omega
/-- the code's answer where there is one -/
theorem nx_some {x : Crn.C} {f : Int → Bool} {t a z y r : Int} {n : Nat} {p : List Int} (hm : Crn.rises 0 59 x.mi = true) (hh : Crn.rises 0 23 x.ho = true) (hn : a + n = z + 1) (h : p ++ [y] <+: fl f a n) (hp : ∀ d ∈ p, Dn x t d) (hf : Fr x t y r) : Nx x f t a z r 0 := by
  obtain ⟨l1, l2, l3, l4⟩ := fl_last h
  obtain ⟨i, j, hi, hj, hr, ht, hlex⟩ := hf
  have bi := rises_bd hh hi
  have bj := rises_bd hm hj
  refine .inl ⟨rfl, y, mt x i j, l2, by omega, by unfold mt; omega, by unfold mt; omega, ⟨l1, by omega, ?_, ?_⟩, hr, fun d' m' e1 e2 e3 e4 e5 => ?_⟩
  · have : mt x i j / 60 = x.ho.getD i 0 := by unfold mt; omega
    rw [this]; exact memB_at _ hi
  · have : mt x i j % 60 = x.mi.getD j 0 := by unfold mt; omega
    rw [this]; exact memB_at _ hj
  · rcases e4 with e4 | ⟨rfl, e4⟩
    · exact Dn.no (hp d' (l4 d' e1 e4 e5.1)) e5
    · obtain ⟨_, g1, g2, g3⟩ := e5
      obtain ⟨i', hi', ei'⟩ := memB_ex g2
      obtain ⟨j', hj', ej'⟩ := memB_ex g3
      have := hlex i' j' hi' hj' (by
        unfold mt at e4
        rcases Nat.lt_trichotomy i' i with h1 | h1 | h1
        · exact .inl h1
        · subst h1
          rcases Nat.lt_trichotomy j' j with h2 | h2 | h2
          · exact .inr ⟨rfl, h2⟩
          · subst h2; omega
          · have := rises_lt hm h2 hj'; omega
        · have := rises_lt hh h1 hi'
          have := rises_bd hm hj'
          omega)
      unfold mt at this
      rw [ei', ej'] at this
      omega
theorem nx_none {x : Crn.C} {f : Int → Bool} {t a z : Int} {n : Nat} (hn : a + n = z + 1) (hp : ∀ d ∈ fl f a n, Dn x t d) : Nx x f t a z 0 12 := by
  refine .inr ⟨rfl, rfl, fun d' m' e1 e2 e3 e4 e5 => ?_⟩
  have hd : d' < z + 1 := by omega
  exact Dn.no (hp d' ((fl_mem f a d' n).2 ⟨e5.1, e1, by omega⟩)) e5
/-- there is one answer -/
theorem nx_one {x : Crn.C} {f : Int → Bool} {t a z r k r' k' : Int} (h : Nx x f t a z r k) (h' : Nx x f t a z r' k') : r = r' ∧ k = k' := by
  rcases h with ⟨rfl, d, m, d1, d2, m1, m2, hf, hr, hn⟩ | ⟨rfl, rfl, hn⟩ <;> rcases h' with ⟨rfl, d', m', d1', d2', m1', m2', hf', hr', hn'⟩ | ⟨rfl, rfl, hn'⟩
  · refine ⟨?_, rfl⟩
    rcases Int.lt_trichotomy d d' with h | h | h
    · exact absurd hf (hn' d m d1 m1 m2 (.inl h))
    · subst h
      rcases Int.lt_trichotomy m m' with h | h | h
      · exact absurd hf (hn' d m d1 m1 m2 (.inr ⟨rfl, h⟩))
      · subst h; rw [hr, hr']
      · exact absurd hf' (hn d m' d1' m1' m2' (.inr ⟨rfl, h⟩))
    · exact absurd hf' (hn d' m' d1' m1' m2' (.inl h))
  · exact absurd hf (hn' d m d1 m1 m2 (.inl (by omega)))
  · exact absurd hf' (hn d' m' d1' m1' m2' (.inl (by omega)))
  · exact ⟨rfl, rfl⟩
/-- a range over an iterator of numbers whose variable is no box -/
theorem rf_one {n : Nat} {a0 z0 : Int} {P : Program} {g : Operand} {p q : Tmp} {assign body : Code} {Q : Exit → Act → World → Prop} {a : Act} {w : World}
    (h1 : 1 ≤ n) {gf : Nat} {lb : Array Value} (hg : a.eval g = .func (.func gf) #[] lb) (eg : ∀ args w, (callFunc gf args).run P w = .ok (.enter gf args) w)
    {Kp : World → World → Prop} {S Sp : List (Dy a0 z0) → Prop} {N : Nat} (hseq : SeqStopsK Fence.wide (n - 1) P gf lb (fun y : Dy a0 z0 => #[Value.int .i64 y.1]) Kp S Sp N w)
    (hKt : ∀ {A B C : World}, Kp A B → Kp B C → Kp A C) (hKb : ∀ (W : World) (l : Nat) (o o' : Obj), w.heap.size ≤ l → W.heap[l]? = some o → o.isCells = false → o.isWalk = false → Kp W (W.putObj l o')) (hKr : ∀ W, Kp W W)
    (I : List (Dy a0 z0) → World → Prop) (Ix : Code → List (Dy a0 z0) → World → Prop) (hI : OwnFrom w.heap.size I) (hIx : ∀ c, OwnFrom w.heap.size (Ix c)) (h0 : I [] w)
    (hassign : ∀ (l : Nat) (pre : List (Dy a0 z0)) (y : Dy a0 z0) (W : World) (K : Act → World → Prop), I pre W → K { tmps := (a.tmps.setIfInBounds p (.int .i64 y.1)).setIfInBounds q (.int .i64 y.1), defers := [] } W →
      assign.wpIn (Fence.wide.inRound l) (n - 1 - 1) P (Exit.then K (fun _ _ _ => False)) { tmps := a.tmps.setIfInBounds p (.int .i64 y.1), defers := [] } W)
    (hbody : ∀ (l : Nat) (pre : List (Dy a0 z0)) (y : Dy a0 z0) (W : World), w.heap.size ≤ l → (∃ r, W.heap[l]? = some (.loop r)) → I pre W → pre.length < N → body.wpIn (Fence.wide.inRound l) (n - 1 - 1) P (ownPostG w.heap.size Kp I Ix (pre ++ [y]) W) { tmps := (a.tmps.setIfInBounds p (.int .i64 y.1)).setIfInBounds q (.int .i64 y.1), defers := [] } W)
    (hdone : ∀ (D : Nat) (xs : List (Dy a0 z0)) (W : World), w.heap.size ≤ D → S xs → I xs W → W.heap[D]? = some (.deferred (some [])) → Q .normal { a with defers := { target := .collected D, args := #[] } :: a.defers } W)
    (hstop : ∀ (D : Nat) (c : Code) (pre : List (Dy a0 z0)) (W : World), w.heap.size ≤ D → Sp pre → Ix c pre W → W.heap[D]? = some (.deferred (some [])) → c.wpIn Fence.wide n P Q { a with defers := { target := .collected D, args := #[] } :: a.defers } W) :
    (Code.rangeFunc g #[p] assign body).wpIn Fence.wide n P Q a w :=
  wpIn_rangeFunc_ownH rfl h1 hg trivial eg hseq hKt hKb (Below.refl _ _) (fun _ => rfl) I Ix hI hIx h0
    (fun y a' W => a' = { tmps := (a.tmps.setIfInBounds p (.int .i64 y.1)).setIfInBounds q (.int .i64 y.1), defers := [] }) (fun _ _ _ _ _ _ hs _ _ => hs)
    (fun l pre y W K hi hK => by
      have h := hassign l pre y W K hi (hK _ _ (KeepsFrom.refl _ _) (hKr W) hi rfl)
      have e : (#[p].zip #[Value.int .i64 y.1]).foldl (fun (t : Array Value) (x : Tmp × Value) => t.setIfInBounds x.1 x.2) a.tmps = a.tmps.setIfInBounds p (.int .i64 y.1) := by simp
      rw [← e] at h
      exact h)
    (fun l pre y a' W hl hr hi e hlen => by subst e; exact hbody l pre y W hl hr hi hlen) hdone hstop
end Go.Proofs.YtgbbplkpepaidaaGreatDoor
