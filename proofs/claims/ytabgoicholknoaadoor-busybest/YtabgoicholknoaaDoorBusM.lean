/- busy: plain mathematics: when a set meets a span, which room is taken, who is missing, the best meeting. -/
import Derived.Test.YtabgoicholknoaaDoorMomP
import Derived.Test.YtabgoicholknoaaDoorBusL
namespace Go.Proofs.YtabgoicholknoaaDoor
set_option linter.unusedVariables false
set_option linter.unusedSimpArgs false

/-- something of the set lies within len seconds from t on -/
def bz (t n : Int) (L : List (Int × Int)) : Bool := L.any fun p => decide (max p.1 t < min p.2 (t + n))
theorem bz_iff (t n : Int) (L : List (Int × Int)) : bz t n L = true ↔ ∃ u, t ≤ u ∧ u < t + n ∧ InS L u := by
  unfold bz InS
  rw [List.any_eq_true]
  constructor
  · rintro ⟨p, hp, h⟩
    have h := of_decide_eq_true h
    exact ⟨max p.1 t, by omega, by omega, p, hp, by omega, by omega⟩
  · rintro ⟨u, h1, h2, p, hp, h3, h4⟩
    exact ⟨p, hp, decide_eq_true (by omega)⟩
theorem bz_not (t n : Int) (L : List (Int × Int)) : bz t n L = false ↔ ∀ u, t ≤ u → u < t + n → ¬ InS L u := by
  rw [← Bool.not_eq_true, bz_iff]
  exact ⟨fun h u h1 h2 h3 => h ⟨u, h1, h2, h3⟩, fun h ⟨u, h1, h2, h3⟩ => h u h1 h2 h3⟩

/-- the room that is taken: its number and its seats -/
abbrev RmS := Option (Int × Int)
def rmL (seats : Int) (free : List (Int × Int) → Bool) (acc : RmS) (i : Int) (r : Int × List (Int × Int)) : RmS :=
  match acc with
  | none => if seats ≤ r.1 ∧ free r.2 = true then some (i, r.1) else none
  | some a => if seats ≤ r.1 ∧ r.1 < a.2 ∧ free r.2 = true then some (i, r.1) else some a
def rmLs (seats : Int) (free : List (Int × Int) → Bool) : RmS → Int → List (Int × List (Int × Int)) → RmS
  | acc, _, [] => acc
  | acc, i, r :: rs => rmLs seats free (rmL seats free acc i r) (i + 1) rs
def rmR (seats : Int) (free : List (Int × Int) → Bool) (i : Int) (r : Int × List (Int × Int)) (acc : RmS) : RmS :=
  match acc with
  | none => if seats ≤ r.1 ∧ free r.2 = true then some (i, r.1) else none
  | some a => if seats ≤ r.1 ∧ r.1 ≤ a.2 ∧ free r.2 = true then some (i, r.1) else some a
def rmRs (seats : Int) (free : List (Int × Int) → Bool) : Int → List (Int × List (Int × Int)) → RmS
  | _, [] => none
  | i, r :: rs => rmR seats free i r (rmRs seats free (i + 1) rs)
def rmC : RmS → RmS → RmS
  | none, b => b
  | some a, none => some a
  | some a, some b => if b.2 < a.2 then some b else some a
theorem rmLs_R (seats : Int) (free : List (Int × Int) → Bool) : ∀ (rs : List (Int × List (Int × Int))) (acc : RmS) (i : Int), rmLs seats free acc i rs = rmC acc (rmRs seats free i rs)
  | [], acc, i => by cases acc <;> rfl
  | r :: rs, acc, i => by
    rw [rmLs, rmRs, rmLs_R seats free rs]
    cases acc with
    | none =>
      cases hR : rmRs seats free (i + 1) rs with
      | none =>
        by_cases h : seats ≤ r.1 ∧ free r.2 = true
        · simp [rmL, rmR, rmC, h]
        · simp [rmL, rmR, rmC, h]
      | some b =>
        by_cases h1 : seats ≤ r.1 <;> by_cases h2 : free r.2 = true <;> by_cases h3 : r.1 ≤ b.2 <;>
          simp [rmL, rmR, rmC, h1, h2, h3] <;> (try omega)
        all_goals (first | (rw [if_neg (by omega)]) | (rw [if_pos (by omega)]) | skip)
    | some a =>
      cases hR : rmRs seats free (i + 1) rs with
      | none =>
        by_cases h1 : seats ≤ r.1 <;> by_cases h2 : free r.2 = true <;> by_cases h3 : r.1 < a.2 <;>
          simp [rmL, rmR, rmC, h1, h2, h3]
      | some b =>
        by_cases h1 : seats ≤ r.1 <;> by_cases h2 : free r.2 = true <;> by_cases h3 : r.1 < a.2 <;> by_cases h4 : r.1 ≤ b.2 <;>
          by_cases h5 : b.2 < a.2 <;> by_cases h6 : b.2 < r.1 <;>
          simp [rmL, rmR, rmC, h1, h2, h3, h4, h5, h6] <;> omega
/-- the number of the room: -1 where there is none -/
def rmN (r : RmS) : Int := match r with | none => -1 | some a => a.1
def rmAt (seats : Int) (free : List (Int × Int) → Bool) (rs : List (Int × List (Int × Int))) : Int := rmN (rmLs seats free none 0 rs)
theorem rmAt_R (seats : Int) (free : List (Int × Int) → Bool) (rs : List (Int × List (Int × Int))) : rmAt seats free rs = rmN (rmRs seats free 0 rs) := by
  unfold rmAt; rw [rmLs_R]; rfl

/-- a meeting: when, in which room, who is missing -/
abbrev Mt := Option (Int × Int × List Int)
def bst (acc : Mt) (t : Int) (ok : Bool) (rm : Int) (ms : List Int) : Mt :=
  match acc with
  | none => if ok = true then some (t, rm, ms) else none
  | some a => if ok = true ∧ ms.length < a.2.2.length then some (t, rm, ms) else some a
theorem bst_no (acc : Mt) (t : Int) (rm : Int) (ms : List Int) : bst acc t false rm ms = acc := by cases acc <;> simp [bst]

/-- what is looked for -/
structure Wn where
  len : Int
  step : Int
  from' : Int
  to' : Int
  must : List Int
  should : List Int
  seats : Int
/-- a person's times, by number -/
def psn (Ps : List (List (Int × Int))) (i : Int) : List (Int × Int) := Ps.getD i.toNat []
def Wn.bad (W : Wn) (Ps : List (List (Int × Int))) (t i : Int) : Bool := bz t W.len (psn Ps i)
def Wn.okM (W : Wn) (Ps : List (List (Int × Int))) (t : Int) : Bool := W.must.all fun i => !W.bad Ps t i
def Wn.ms (W : Wn) (Ps : List (List (Int × Int))) (t : Int) : List Int := msP (W.bad Ps t) W.should
def Wn.rm (W : Wn) (Rs : List (Int × List (Int × Int))) (t : Int) : Int := if W.seats = 0 then -1 else rmAt W.seats (fun L => !bz t W.len L) Rs
def Wn.okR (W : Wn) (Rs : List (Int × List (Int × Int))) (t : Int) : Bool := decide (W.seats = 0) || decide (0 ≤ W.rm Rs t)
def Wn.fnd (W : Wn) (Ps : List (List (Int × Int))) (Rs : List (Int × List (Int × Int))) (acc : Mt) (t : Int) : Mt := bst acc t (W.okM Ps t && W.okR Rs t) (W.rm Rs t) (W.ms Ps t)
def Wn.at' (W : Wn) (i : Nat) : Int := W.from' + i * W.step
def Wn.fndN (W : Wn) (Ps : List (List (Int × Int))) (Rs : List (Int × List (Int × Int))) : Nat → Mt
  | 0 => none
  | n + 1 => W.fnd Ps Rs (W.fndN Ps Rs n) (W.at' n)
/-- how many meetings there may be -/
def Wn.many (W : Wn) : Nat := if W.to' - W.from' - W.len < 0 then 0 else ((W.to' - W.from' - W.len) / W.step + 1).toNat
theorem Wn.many_iff (W : Wn) (hs : 0 < W.step) (i : Nat) : i < W.many ↔ W.at' i + W.len ≤ W.to' := by
  unfold Wn.many Wn.at'
  have hi : (0 : Int) ≤ i * W.step := Int.mul_nonneg (by omega) (by omega)
  split
  · constructor
    · intro h; omega
    · intro h; omega
  · rename_i h
    have hq : 0 ≤ (W.to' - W.from' - W.len) / W.step := Int.ediv_nonneg (by omega) (by omega)
    have e : i < ((W.to' - W.from' - W.len) / W.step + 1).toNat ↔ (i : Int) ≤ (W.to' - W.from' - W.len) / W.step := by omega
    rw [e, Int.le_ediv_iff_mul_le hs]
    constructor <;> (intro h2; omega)
/-- each is one of so many people, and none stands twice -/
def okW (n : Int) : List Int → List Int → Bool
  | _, [] => true
  | seen, x :: l => if x < 0 ∨ n ≤ x ∨ x ∈ seen then false else okW n (seen ++ [x]) l
theorem okW_iff (n : Int) : ∀ (l seen : List Int), okW n seen l = true ↔ (∀ x ∈ l, 0 ≤ x ∧ x < n ∧ x ∉ seen) ∧ l.Nodup
  | [], seen => by simp [okW]
  | x :: l, seen => by
    rw [okW]
    split
    · rename_i h
      constructor
      · intro e; cases e
      · rintro ⟨h1, -⟩
        have := h1 x (by simp)
        rcases h with h | h | h
        · omega
        · omega
        · exact (this.2.2 h).elim
    · rename_i h
      rw [okW_iff n l, List.nodup_cons]
      constructor
      · rintro ⟨h1, h2⟩
        refine ⟨fun y hy => ?_, fun hx => ?_, h2⟩
        · rcases List.mem_cons.1 hy with e | e
          · subst e; exact ⟨by omega, by omega, fun k => h (.inr (.inr k))⟩
          · have := h1 y e; exact ⟨this.1, this.2.1, fun k => this.2.2 (by simp [k])⟩
        · have := h1 x hx; exact this.2.2 (by simp)
      · rintro ⟨h1, h2, h3⟩
        refine ⟨fun y hy => ?_, h3⟩
        have := h1 y (by simp [hy])
        refine ⟨this.1, this.2.1, fun k => ?_⟩
        rcases List.mem_append.1 k with k | k
        · exact this.2.2 k
        · rw [List.mem_singleton] at k; subst k; exact h2 hy
theorem okW_app (n : Int) : ∀ (l m seen : List Int), okW n seen (l ++ m) = (okW n seen l && okW n (seen ++ l) m)
  | [], m, seen => by simp [okW]
  | x :: l, m, seen => by
    rw [List.cons_append, okW, okW]
    split
    · rfl
    · rw [okW_app n l m, List.append_assoc]; rfl
/-- what may be: it is asked first (11.2) -/
def Wn.chk (W : Wn) (people : Int) : Int :=
  if W.len < 1 ∨ 34560000 < W.len ∨ W.step < 1 ∨ W.seats < 0 then 1
  else if W.to' < W.from' ∨ W.from' < -345600086399 ∨ 345600086399 < W.to' then 4
  else if 10000 < (W.to' - W.from') / W.step then 6
  else if okW people [] (W.must ++ W.should) = true then 0 else 1
structure Wn.Good (W : Wn) (people : Int) : Prop where
  l1 : 1 ≤ W.len
  l2 : W.len ≤ 34560000
  s1 : 1 ≤ W.step
  e1 : 0 ≤ W.seats
  ft : W.from' ≤ W.to'
  f1 : -345600086399 ≤ W.from'
  t1 : W.to' ≤ 345600086399
  n1 : (W.to' - W.from') / W.step ≤ 10000
  ok : okW people [] (W.must ++ W.should) = true
theorem Wn.chk_iff (W : Wn) (people : Int) : W.chk people = 0 ↔ W.Good people := by
  unfold Wn.chk
  constructor
  · intro h
    split at h
    · omega
    · split at h
      · omega
      · split at h
        · omega
        · split at h
          · exact ⟨by omega, by omega, by omega, by omega, by omega, by omega, by omega, by omega, by assumption⟩
          · omega
  · intro h
    obtain ⟨h1, h2, h3, h4, h5, h6, h7, h8, h9⟩ := h
    rw [if_neg (by omega), if_neg (by omega), if_neg (by omega), if_pos h9]
theorem Wn.Good.mem {W : Wn} {people : Int} (h : W.Good people) {x : Int} (hx : x ∈ W.must ∨ x ∈ W.should) : 0 ≤ x ∧ x < people := by
  have := ((okW_iff people _ _).1 h.ok).1 x (by simpa using hx)
  exact ⟨this.1, this.2.1⟩
theorem Wn.Good.nodup {W : Wn} {people : Int} (h : W.Good people) : W.should.Nodup :=
  ((okW_iff people _ _).1 h.ok).2.sublist (List.sublist_append_right _ _)
theorem Wn.Good.many_le {W : Wn} {people : Int} (h : W.Good people) : W.many ≤ 10001 := by
  unfold Wn.many
  split
  · omega
  · have h1 := h.s1
    have : (W.to' - W.from' - W.len) / W.step ≤ (W.to' - W.from') / W.step := Int.ediv_le_ediv (by omega) (by have := h.l1; omega)
    have := h.n1
    omega
/-- what the best meeting is: one of those that may be; none that may be has fewer missing, and none that is sooner no more -/
theorem Wn.fndN_spec (W : Wn) (Ps : List (List (Int × Int))) (Rs : List (Int × List (Int × Int))) : ∀ n : Nat,
    (W.fndN Ps Rs n = none → ∀ i < n, (W.okM Ps (W.at' i) && W.okR Rs (W.at' i)) = false) ∧
    (∀ a, W.fndN Ps Rs n = some a → ∃ k < n, a = (W.at' k, W.rm Rs (W.at' k), W.ms Ps (W.at' k)) ∧ (W.okM Ps (W.at' k) && W.okR Rs (W.at' k)) = true ∧
      (∀ i < n, (W.okM Ps (W.at' i) && W.okR Rs (W.at' i)) = true → a.2.2.length ≤ (W.ms Ps (W.at' i)).length ∧ (i < k → a.2.2.length < (W.ms Ps (W.at' i)).length)))
  | 0 => ⟨fun _ i h => absurd h (by omega), fun a h => by simp [Wn.fndN] at h⟩
  | n + 1 => by
    obtain ⟨h1, h2⟩ := Wn.fndN_spec W Ps Rs n
    rw [Wn.fndN, Wn.fnd]
    cases hA : W.fndN Ps Rs n with
    | none =>
      have h1 := h1 hA
      cases hb : (W.okM Ps (W.at' n) && W.okR Rs (W.at' n)) with
      | false =>
        refine ⟨fun _ i hi => ?_, fun a h => by simp [bst] at h⟩
        by_cases e : i = n
        · subst e; exact hb
        · exact h1 i (by omega)
      | true =>
        refine ⟨fun h => by simp [bst] at h, fun a h => ?_⟩
        simp only [bst, if_true, Option.some.injEq] at h
        refine ⟨n, by omega, h.symm, hb, fun i hi hi2 => ?_⟩
        by_cases e : i = n
        · subst e; subst h; exact ⟨Nat.le_refl _, fun h => by omega⟩
        · have := h1 i (by omega); rw [this] at hi2; cases hi2
    | some a =>
      obtain ⟨k, hk, ha, hok, hall⟩ := h2 a hA
      cases hb : (W.okM Ps (W.at' n) && W.okR Rs (W.at' n)) with
      | false =>
        rw [bst_no]
        refine ⟨fun h => by simp at h, fun a' h => ?_⟩
        obtain rfl := (Option.some.injEq _ _).mp h
        refine ⟨k, by omega, ha, hok, fun i hi hi2 => ?_⟩
        by_cases e : i = n
        · subst e; rw [hb] at hi2; cases hi2
        · exact hall i (by omega) hi2
      | true =>
        by_cases hl : (W.ms Ps (W.at' n)).length < a.2.2.length
        · simp only [bst, hl, and_self, if_true]
          refine ⟨fun h => by simp at h, fun a' h => ?_⟩
          simp only [Option.some.injEq] at h
          refine ⟨n, by omega, h.symm, hb, fun i hi hi2 => ?_⟩
          subst h
          by_cases e : i = n
          · subst e; exact ⟨Nat.le_refl _, fun h => by omega⟩
          · have := (hall i (by omega) hi2).1
            exact ⟨by simp only; omega, fun _ => by simp only; omega⟩
        · simp only [bst, hl, and_false, if_false]
          refine ⟨fun h => by simp at h, fun a' h => ?_⟩
          obtain rfl := (Option.some.injEq _ _).mp h
          refine ⟨k, by omega, ha, hok, fun i hi hi2 => ?_⟩
          by_cases e : i = n
          · subst e; exact ⟨by omega, fun h => by omega⟩
          · exact hall i (by omega) hi2
end Go.Proofs.YtabgoicholknoaaDoor
