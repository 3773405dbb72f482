/- Spans: the plain mathematics: the thirteen ways, what follows of two of them, ranks. -/
namespace Spn
set_option linter.unusedVariables false
set_option linter.unusedSimpArgs false

/-- how the span from a to b lies to the span from c to d -/
def way (a b c d : Int) : Nat :=
  if b < c then 0 else if b = c then 1 else if a = d then 11 else if d < a then 12 else
  if a < c then (if b < d then 2 else if b = d then 7 else 8)
  else if a = c then (if b < d then 3 else if b = d then 6 else 9)
  else (if b < d then 4 else if b = d then 5 else 10)
theorem way_lt (a b c d : Int) : way a b c d < 13 := by
  unfold way
  repeat' split
  all_goals decide
/-- turned round -/
theorem way_back (a b c d : Int) (h : a < b) (k : c < d) : way c d a b = 12 - way a b c d := by
  rcases Int.lt_trichotomy b c with h1 | h1 | h1
  · simp only [way, h1, if_true, show ¬ d < a by omega, show ¬ d = a by omega, show ¬ c = b by omega, if_false]
  · simp only [way, h1, Int.lt_irrefl, if_true, show ¬ d < a by omega, show ¬ d = a by omega, if_false]
  rcases Int.lt_trichotomy a d with h2 | h2 | h2
  · have g1 : ¬ b < c := by omega
    have g2 : ¬ b = c := by omega
    have g3 : ¬ a = d := by omega
    have g4 : ¬ d < a := by omega
    have g5 : ¬ d = a := by omega
    have g6 : ¬ c = b := by omega
    simp only [way, g1, g2, g3, g4, g5, g6, if_false]
    rcases Int.lt_trichotomy a c with g | g | g <;> rcases Int.lt_trichotomy b d with f | f | f
    · simp only [g, f, if_true, show ¬ c < a by omega, show ¬ c = a by omega, show ¬ d < b by omega, show ¬ d = b by omega, if_false]
    · simp only [g, f, Int.lt_irrefl, if_true, show ¬ c < a by omega, show ¬ c = a by omega, if_false]
    · simp only [g, f, if_true, show ¬ c < a by omega, show ¬ c = a by omega, show ¬ b < d by omega, show ¬ b = d by omega, if_false]
    · simp only [g, f, Int.lt_irrefl, if_true, show ¬ d < b by omega, show ¬ d = b by omega, if_false]
    · simp only [g, f, Int.lt_irrefl, if_true, if_false]
    · simp only [g, f, Int.lt_irrefl, if_true, show ¬ b < d by omega, show ¬ b = d by omega, if_false]
    · simp only [g, f, if_true, show ¬ a < c by omega, show ¬ a = c by omega, show ¬ d < b by omega, show ¬ d = b by omega, if_false]
    · simp only [g, f, Int.lt_irrefl, if_true, show ¬ a < c by omega, show ¬ a = c by omega, if_false]
    · simp only [g, f, if_true, show ¬ a < c by omega, show ¬ a = c by omega, show ¬ b < d by omega, show ¬ b = d by omega, if_false]
  · simp only [way, h2, Int.lt_irrefl, if_true, show ¬ b < c by omega, show ¬ b = c by omega, if_false]
  · simp only [way, h2, if_true, show ¬ b < c by omega, show ¬ b = c by omega, show ¬ a = d by omega, if_false]
/-- what follows of two ways -/
def folT : List (List Nat) := [
  [0x0001, 0x0001, 0x0001, 0x0001, 0x001f, 0x001f, 0x0001, 0x0001, 0x0001, 0x0001, 0x001f, 0x001f, 0x1fff],
  [0x0001, 0x0001, 0x0001, 0x0002, 0x001c, 0x001c, 0x0002, 0x0001, 0x0001, 0x0002, 0x001c, 0x00e0, 0x1f00],
  [0x0001, 0x0001, 0x0007, 0x0004, 0x001c, 0x001c, 0x0004, 0x0007, 0x0187, 0x0184, 0x07fc, 0x0700, 0x1f00],
  [0x0001, 0x0001, 0x0007, 0x0008, 0x0010, 0x0010, 0x0008, 0x0007, 0x0187, 0x0248, 0x0430, 0x0800, 0x1000],
  [0x0001, 0x0001, 0x001f, 0x0010, 0x0010, 0x0010, 0x0010, 0x001f, 0x1fff, 0x1c30, 0x1c30, 0x1000, 0x1000],
  [0x0001, 0x0002, 0x001c, 0x0010, 0x0010, 0x0020, 0x0020, 0x00e0, 0x1f00, 0x1c00, 0x1c00, 0x1000, 0x1000],
  [0x0001, 0x0002, 0x0004, 0x0008, 0x0010, 0x0020, 0x0040, 0x0080, 0x0100, 0x0200, 0x0400, 0x0800, 0x1000],
  [0x0001, 0x0002, 0x0004, 0x0004, 0x001c, 0x00e0, 0x0080, 0x0080, 0x0100, 0x0100, 0x0700, 0x0700, 0x1f00],
  [0x0187, 0x0184, 0x0184, 0x0184, 0x07fc, 0x0700, 0x0100, 0x0100, 0x0100, 0x0100, 0x0700, 0x0700, 0x1f00],
  [0x0187, 0x0184, 0x0184, 0x0248, 0x0430, 0x0400, 0x0200, 0x0100, 0x0100, 0x0200, 0x0400, 0x0800, 0x1000],
  [0x0187, 0x0184, 0x07fc, 0x0430, 0x0430, 0x0400, 0x0400, 0x0700, 0x1f00, 0x1c00, 0x1c00, 0x1000, 0x1000],
  [0x0187, 0x0248, 0x0430, 0x0430, 0x0430, 0x0800, 0x0800, 0x0800, 0x1000, 0x1000, 0x1000, 0x1000, 0x1000],
  [0x1fff, 0x1c30, 0x1c30, 0x1c30, 0x1c30, 0x1000, 0x1000, 0x1000, 0x1000, 0x1000, 0x1000, 0x1000, 0x1000]]
def fol (x y : Nat) : Nat := (folT.getD x []).getD y 0
theorem fol_lt (x y : Nat) (hx : x < 13) (hy : y < 13) : fol x y < 8192 := by
  have h : ∀ x : Fin 13, ∀ y : Fin 13, fol x.1 y.1 < 8192 := by decide +kernel
  exact h ⟨x, hx⟩ ⟨y, hy⟩
/-- the spans with ends from 0 to 5 -/
def sp6 : List (Nat × Nat) := [(0, 1), (0, 2), (0, 3), (0, 4), (0, 5), (1, 2), (1, 3), (1, 4), (1, 5), (2, 3), (2, 4), (2, 5), (3, 4), (3, 5), (4, 5)]
def wayP (u v : Nat × Nat) : Nat := way u.1 u.2 v.1 v.2
theorem mem_sp6 (a b : Nat) (h : a < b) (k : b < 6) : (a, b) ∈ sp6 := by
  have g : ∀ a : Fin 6, ∀ b : Fin 6, a < b → (a.1, b.1) ∈ sp6 := by decide +kernel
  exact g ⟨a, by omega⟩ ⟨b, k⟩ h
theorem all3 : (sp6.all fun a => sp6.all fun b => sp6.all fun c => (fol (wayP a b) (wayP b c)).testBit (wayP a c)) = true := by decide +kernel

/-! ranks -/
def rank (E : List Int) (v : Int) : Nat := E.countP fun e => decide (e < v)
theorem rank_le (E : List Int) {v w : Int} (h : v ≤ w) : rank E v ≤ rank E w := by
  unfold rank
  induction E with
  | nil => simp
  | cons e E ih =>
    rw [List.countP_cons, List.countP_cons]
    by_cases h1 : e < v
    · rw [if_pos (by simpa using h1), if_pos (by simp; omega)]; omega
    · rw [if_neg (by simpa using h1)]; omega
theorem rank_lt {E : List Int} {v w : Int} (hv : v ∈ E) (h : v < w) : rank E v < rank E w := by
  induction E with
  | nil => cases hv
  | cons e E ih =>
    have hm := rank_le E (Int.le_of_lt h)
    unfold rank at *
    rw [List.countP_cons, List.countP_cons]
    rcases List.mem_cons.1 hv with rfl | hv
    · rw [if_neg (by simp), if_pos (by simpa using h)]; omega
    · have := ih hv
      by_cases h1 : e < v
      · rw [if_pos (by simpa using h1), if_pos (by simp; omega)]; omega
      · rw [if_neg (by simpa using h1)]; omega
theorem rank_bd {E : List Int} {v : Int} (hv : v ∈ E) : rank E v < E.length := by
  induction E with
  | nil => cases hv
  | cons e E ih =>
    have hl : rank E v ≤ E.length := List.countP_le_length
    unfold rank at *
    rw [List.countP_cons, List.length_cons]
    rcases List.mem_cons.1 hv with rfl | hv
    · rw [if_neg (by simp)]; omega
    · have := ih hv; split <;> omega
theorem rank_iff {E : List Int} {v w : Int} (hv : v ∈ E) (hw : w ∈ E) : ((rank E v : Int) < rank E w ↔ v < w) ∧ ((rank E v : Int) = rank E w ↔ v = w) := by
  rcases Int.lt_trichotomy v w with h | h | h
  · have := rank_lt hv h; omega
  · subst h; omega
  · have := rank_lt hw h; omega
theorem way_rank {E : List Int} {a b c d : Int} (ha : a ∈ E) (hb : b ∈ E) (hc : c ∈ E) (hd : d ∈ E) : way (rank E a) (rank E b) (rank E c) (rank E d) = way a b c d := by
  unfold way
  simp only [(rank_iff hb hc).1, (rank_iff hb hc).2, (rank_iff ha hd).2, (rank_iff hd ha).1, (rank_iff ha hc).1, (rank_iff ha hc).2, (rank_iff hb hd).1, (rank_iff hb hd).2]
/-- what follows holds -/
theorem comp (a b c d e f : Int) (h1 : a < b) (h2 : c < d) (h3 : e < f) : (fol (way a b c d) (way c d e f)).testBit (way a b e f) = true := by
  have m : ∀ x ∈ [a, b, c, d, e, f], rank [a, b, c, d, e, f] x < 6 := fun x hx => rank_bd hx
  have ra := m a (by simp); have rb := m b (by simp); have rc := m c (by simp); have rd := m d (by simp); have re := m e (by simp); have rf := m f (by simp)
  have l1 := rank_lt (E := [a, b, c, d, e, f]) (v := a) (by simp) h1
  have l2 := rank_lt (E := [a, b, c, d, e, f]) (v := c) (by simp) h2
  have l3 := rank_lt (E := [a, b, c, d, e, f]) (v := e) (by simp) h3
  rw [← way_rank (E := [a, b, c, d, e, f]) (a := a) (b := b) (c := c) (d := d) (by simp) (by simp) (by simp) (by simp),
    ← way_rank (E := [a, b, c, d, e, f]) (a := c) (b := d) (c := e) (d := f) (by simp) (by simp) (by simp) (by simp),
    ← way_rank (E := [a, b, c, d, e, f]) (a := a) (b := b) (c := e) (d := f) (by simp) (by simp) (by simp) (by simp)]
  generalize rank [a, b, c, d, e, f] a = A at *
  generalize rank [a, b, c, d, e, f] b = B at *
  generalize rank [a, b, c, d, e, f] c = C at *
  generalize rank [a, b, c, d, e, f] d = D at *
  generalize rank [a, b, c, d, e, f] e = X at *
  generalize rank [a, b, c, d, e, f] f = Y at *
  have k := all3
  rw [List.all_eq_true] at k
  have k1 := k _ (mem_sp6 A B l1 rb)
  rw [List.all_eq_true] at k1
  have k2 := k1 _ (mem_sp6 C D l2 rd)
  rw [List.all_eq_true] at k2
  exact k2 _ (mem_sp6 X Y l3 rf)
/-! what all spans with six ends show -/
def fin1 (u v : Nat × Nat) (q : Nat) (l : List (Nat × Nat)) (s : Nat) : Nat := l.foldl (fun s w => if wayP v w = q then s ||| 2 ^ wayP u w else s) s
def fin2 (u : Nat × Nat) (p q : Nat) (l : List (Nat × Nat)) (s : Nat) : Nat := l.foldl (fun s v => if wayP u v = p then fin1 u v q sp6 s else s) s
def fin3 (p q : Nat) (l : List (Nat × Nat)) (s : Nat) : Nat := l.foldl (fun s u => fin2 u p q sp6 s) s
theorem fin_fol (p q : Nat) (hp : p < 13) (hq : q < 13) : fin3 p q sp6 0 = fol p q := by
  have h : ∀ p : Fin 13, ∀ q : Fin 13, fin3 p.1 q.1 sp6 0 = fol p.1 q.1 := by decide +kernel
  exact h ⟨p, hp⟩ ⟨q, hq⟩
end Spn
