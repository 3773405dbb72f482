namespace Go.Proofs.YtafaacliphdndaaGreatDoor.Alm

def gleap (y : Int) : Bool := decide (y % 4 = 0 ∧ (y % 100 ≠ 0 ∨ y % 400 = 0))

def leap (c y : Int) : Bool :=
  if c = 1 then gleap y
  else if c = 2 then decide (y % 4 = 0)
  else if c = 3 then decide (y % 4 = 3)
  else if c = 4 then decide (y % 4 = 3)
  else if c = 5 then decide ((14 + 11 * y) % 30 < 11)
  else if c = 6 then decide (((y - 474) % 2820 + 512) * 682 % 2816 < 682)
  else if c = 7 then decide ((7 * y + 1) % 19 < 7)
  else if c = 8 then gleap (y + 78)
  else if c = 9 then gleap y && decide (y % 4000 ≠ 0)
  else false

def l01 (c y : Int) : Int := if leap c y then 1 else 0

def moonD (y : Int) : Int := 29 * ((235 * y - 234) / 19) + (12084 + 13753 * ((235 * y - 234) / 19)) / 25920
def moon (y : Int) : Int := if 3 * (moonD y + 1) % 7 < 3 then moonD y + 1 else moonD y
def heb (y : Int) : Int :=
  if moon (y + 1) - moon y = 356 then moon y + 2
  else if moon y - moon (y - 1) = 382 then moon y + 1
  else moon y
def hlen (y : Int) : Int := heb (y + 1) - heb y

def gahead (y : Int) : Int := (y - 1) / 4 - (y - 1) / 100 + (y - 1) / 400
def pcyc (y : Int) : Int := (y - 474) % 2820 + 512
def pahead (y : Int) : Int := (y - 474) / 2820 * 683 + 682 * (pcyc y - 1) / 2816

/-- the day with which a year begins -/
def start (c y : Int) : Int :=
  if c = 1 then -719162 + 365 * (y - 1) + gahead y
  else if c = 2 then -719164 + 365 * (y - 1) + (y - 1) / 4
  else if c = 3 then -615558 + 365 * (y - 1) + y / 4
  else if c = 4 then -716367 + 365 * (y - 1) + y / 4
  else if c = 5 then -492148 + 354 * (y - 1) + ((14 + 11 * (y - 1)) / 30)
  else if c = 6 then -492267 + 365 * (y - 1) + (pahead y - pahead 1)
  else if c = 7 then -2092590 + heb y
  else if c = 8 then -690593 + 365 * (y - 1) + (gahead (y + 78) - gahead 79)
  else if c = 9 then -64748 + 365 * (y - 1) + (gahead y - (y - 1) / 4000)
  else -991950 + 365 * (y - 1)

def base (c : Int) : Int := if c = 5 then 354 else 365
def ylen (c y : Int) : Int := if c = 7 then hlen y else base c + l01 c y

theorem gahead_succ (y : Int) : gahead (y + 1) = gahead y + (if gleap y then 1 else 0) := by
  unfold gahead gleap
  simp only [decide_eq_true_eq]
  split <;> omega

theorem pahead_succ (y : Int) : pahead (y + 1) = pahead y + (if (pcyc y * 682 % 2816 < 682) then 1 else 0) := by
  unfold pahead pcyc
  by_cases h : (y - 474) % 2820 = 2819
  · have h1 : (y + 1 - 474) % 2820 = 0 := by omega
    have h2 : (y + 1 - 474) / 2820 = (y - 474) / 2820 + 1 := by omega
    rw [h1, h2, h]; simp; omega
  · have h1 : (y + 1 - 474) % 2820 = (y - 474) % 2820 + 1 := by omega
    have h2 : (y + 1 - 474) / 2820 = (y - 474) / 2820 := by omega
    rw [h1, h2]
    generalize (y - 474) % 2820 = r
    generalize (y - 474) / 2820 = q
    have e1 : 682 * (r + 1 + 512 - 1) / 2816 = 31 * (r + 512) / 128 := by omega
    have e2 : 682 * (r + 512 - 1) / 2816 = (31 * (r + 512) - 31) / 128 := by omega
    have e3 : (r + 512) * 682 % 2816 < 682 ↔ 31 * (r + 512) % 128 < 31 := by
      have : (r + 512) * 682 % 2816 = 22 * (31 * (r + 512) % 128) := by omega
      rw [this]; omega
    rw [e1, e2]
    simp only [e3]
    generalize 31 * (r + 512) = t
    split <;> omega

/-! the Hebrew years -/
def hM (y : Int) : Int := (235 * y - 234) / 19
theorem hM_succ (y : Int) : hM (y + 1) = hM y + (if (7 * y + 1) % 19 < 7 then 13 else 12) := by
  unfold hM
  have e1 : (235 * (y + 1) - 234) / 19 = 12 * y + (7 * y + 1) / 19 := by omega
  have e2 : (235 * y - 234) / 19 = 12 * y - 12 + (7 * y + 1 - 7) / 19 := by omega
  rw [e1, e2]
  generalize 7 * y + 1 = t
  split <;> omega
theorem moonD_eq (y : Int) : moonD y = (12084 + 765433 * hM y) / 25920 := by
  unfold moonD hM; generalize (235 * y - 234) / 19 = m; omega
theorem moonD_succ (y : Int) : (if (7 * y + 1) % 19 < 7 then moonD (y + 1) = moonD y + 383 ∨ moonD (y + 1) = moonD y + 384 else moonD (y + 1) = moonD y + 354 ∨ moonD (y + 1) = moonD y + 355) := by
  have h := hM_succ y
  rw [moonD_eq, moonD_eq]
  split at h <;> rename_i h1 <;> simp only [h1, if_true, if_false] <;> rw [h] <;> generalize hM y = m <;> omega

def bump (d : Int) : Int := if 3 * (d + 1) % 7 < 3 then d + 1 else d
theorem moon_bump (y : Int) : moon y = bump (moonD y) := rfl
def fixed (e0 e1 e2 : Int) : Int := if e2 - e1 = 356 then e1 + 2 else if e1 - e0 = 382 then e1 + 1 else e1
theorem heb_fixed (y : Int) : heb y = fixed (moon (y - 1)) (moon y) (moon (y + 1)) := rfl

def nn (w a b c : Int) : Int := fixed (bump (w + a)) (bump (w + a + b)) (bump (w + a + b + c)) - fixed (bump w) (bump (w + a)) (bump (w + a + b))
theorem bump_shift (d k : Int) : bump (d + 7 * k) = bump d + 7 * k := by
  unfold bump
  have : 3 * (d + 7 * k + 1) % 7 = 3 * (d + 1) % 7 := by omega
  rw [this]; split <;> omega
theorem fixed_shift (a b c z : Int) : fixed (a + z) (b + z) (c + z) = fixed a b c + z := by
  unfold fixed; (repeat' split) <;> omega
theorem nn_shift (w k a b c : Int) : nn (w + 7 * k) a b c = nn w a b c := by
  unfold nn
  have e1 : w + 7 * k + a = w + a + 7 * k := by omega
  have e2 : w + a + 7 * k + b = w + a + b + 7 * k := by omega
  have e3 : w + a + b + 7 * k + c = w + a + b + c + 7 * k := by omega
  rw [e1, e2, e3, bump_shift, bump_shift, bump_shift, bump_shift, fixed_shift, fixed_shift]; omega
def com : List Int := [354, 355]
def lea : List Int := [383, 384]
theorem nn_table : (∀ w ∈ [(0:Int),1,2,3,4,5,6], (∀ a ∈ com, ∀ b ∈ com, ∀ c ∈ com, b + c ≠ 710 → nn w a b c ∈ [353,354,355]) ∧ (∀ a ∈ lea, ∀ b ∈ com, ∀ c ∈ com, b + c ≠ 710 → nn w a b c ∈ [353,354,355]) ∧
    (∀ a ∈ com, ∀ b ∈ com, ∀ c ∈ lea, nn w a b c ∈ [353,354,355]) ∧ (∀ a ∈ lea, ∀ b ∈ com, ∀ c ∈ lea, nn w a b c ∈ [353,354,355]) ∧ (∀ a ∈ com, ∀ b ∈ lea, ∀ c ∈ com, nn w a b c ∈ [383,384,385])) := by decide +kernel

theorem step_core (d0 d1 d2 d3 : Int) (a b c : Bool)
    (h0 : d1 - d0 ∈ (if a then lea else com)) (h1 : d2 - d1 ∈ (if b then lea else com)) (h2 : d3 - d2 ∈ (if c then lea else com))
    (hab : ¬ (a = true ∧ b = true)) (hbc : ¬ (b = true ∧ c = true)) (hs : d2 - d1 + (d3 - d2) ≠ 710) :
    fixed (bump d1) (bump d2) (bump d3) - fixed (bump d0) (bump d1) (bump d2) ∈ (if b then [383,384,385] else [353,354,355] : List Int) := by
  have e : fixed (bump d1) (bump d2) (bump d3) - fixed (bump d0) (bump d1) (bump d2) = nn (d0 % 7) (d1 - d0) (d2 - d1) (d3 - d2) := by
    have := nn_shift (d0 % 7) (d0 / 7) (d1 - d0) (d2 - d1) (d3 - d2)
    rw [← this]
    unfold nn
    have e0 : d0 % 7 + 7 * (d0 / 7) = d0 := by omega
    have e1 : d0 + (d1 - d0) = d1 := by omega
    have e2 : d1 + (d2 - d1) = d2 := by omega
    have e3 : d2 + (d3 - d2) = d3 := by omega
    rw [e0, e1, e2, e3]
  rw [e]
  have hw : d0 % 7 ∈ [(0:Int),1,2,3,4,5,6] := by simp; omega
  obtain ⟨t1, t2, t3, t4, t5⟩ := nn_table _ hw
  cases a <;> cases b <;> cases c <;> simp at h0 h1 h2 hab hbc ⊢
  · simpa using t1 _ h0 _ h1 _ h2 hs
  · simpa using t3 _ h0 _ h1 _ h2
  · simpa using t5 _ h0 _ h1 _ h2
  · simpa using t2 _ h0 _ h1 _ h2 hs
  · simpa using t4 _ h0 _ h1 _ h2

theorem moonD_mem (y : Int) : moonD (y + 1) - moonD y ∈ (if decide ((7 * y + 1) % 19 < 7) then lea else com) := by
  have h := moonD_succ y
  by_cases h1 : (7 * y + 1) % 19 < 7
  · simp only [h1, if_true] at h; simp only [h1, decide_true, if_true, lea, List.mem_cons, List.not_mem_nil, or_false]; omega
  · simp only [h1, if_false] at h; simp [h1, com]; omega

theorem hlen_mem (y : Int) : hlen y ∈ (if decide ((7 * y + 1) % 19 < 7) then [383,384,385] else [353,354,355] : List Int) := by
  have h0 := moonD_mem (y - 1)
  have h1 := moonD_mem y
  have h2 := moonD_mem (y + 1)
  have e1 : y - 1 + 1 = y := by omega
  have e2 : y + 1 - 1 = y := by omega
  have t1 : 7 * (y - 1) + 1 = 7 * y + 1 - 7 := by omega
  have t2 : 7 * (y + 1) + 1 = 7 * y + 1 + 7 := by omega
  rw [e1] at h0
  have hab : ¬ (decide ((7 * (y - 1) + 1) % 19 < 7) = true ∧ decide ((7 * y + 1) % 19 < 7) = true) := by
    rw [t1]; generalize 7 * y + 1 = t; simp only [decide_eq_true_eq]; omega
  have hbc : ¬ (decide ((7 * y + 1) % 19 < 7) = true ∧ decide ((7 * (y + 1) + 1) % 19 < 7) = true) := by
    rw [t2]; generalize 7 * y + 1 = t; simp only [decide_eq_true_eq]; omega
  have hs : moonD (y + 1) - moonD y + (moonD (y + 1 + 1) - moonD (y + 1)) ≠ 710 := by
    have i1 := hM_succ y
    have i2 := hM_succ (y + 1)
    rw [t2] at i2 hbc
    rw [moonD_eq (y + 1 + 1), moonD_eq (y + 1), moonD_eq y, i2, i1]
    generalize hM y = m
    generalize 7 * y + 1 = t at *
    simp only [decide_eq_true_eq] at hbc
    (repeat' split) <;> omega
  have k := step_core (moonD (y - 1)) (moonD y) (moonD (y + 1)) (moonD (y + 1 + 1)) _ _ _ h0 h1 h2 hab hbc hs
  unfold hlen
  rw [heb_fixed, heb_fixed, e2, moon_bump, moon_bump, moon_bump, moon_bump]
  exact k

theorem start_succ (c y : Int) (h1 : 1 ≤ c) (h2 : c ≤ 10) : start c (y + 1) = start c y + ylen c y := by
  have hc : c = 1 ∨ c = 2 ∨ c = 3 ∨ c = 4 ∨ c = 5 ∨ c = 6 ∨ c = 7 ∨ c = 8 ∨ c = 9 ∨ c = 10 := by omega
  rcases hc with rfl | rfl | rfl | rfl | rfl | rfl | rfl | rfl | rfl | rfl
  · have := gahead_succ y
    simp [start, ylen, base, l01, leap]; omega
  · simp [start, ylen, base, l01, leap]; split <;> omega
  · simp [start, ylen, base, l01, leap]; split <;> omega
  · simp [start, ylen, base, l01, leap]; split <;> omega
  · simp [start, ylen, base, l01, leap]; split <;> omega
  · have := pahead_succ y
    simp [start, ylen, base, l01, leap]; unfold pcyc at this; omega
  · simp [start, ylen, hlen]; omega
  · have := gahead_succ (y + 78)
    have e : y + 1 + 78 = y + 78 + 1 := by omega
    simp only [start, ylen, base, l01, leap, e]; simp; omega
  · have := gahead_succ y
    simp [start, ylen, base, l01, leap]
    unfold gleap at *
    simp only [decide_eq_true_eq] at *
    split at this <;> split <;> omega
  · simp [start, ylen, base, l01, leap]; omega


/-! ### lengths of months -/
def hl (y : Int) : List Int :=
  let n := hlen y
  let a : Int := if n = 355 ∨ n = 385 then 30 else 29
  let b : Int := if n = 353 ∨ n = 383 then 29 else 30
  if (7 * y + 1) % 19 < 7 then [30, a, b, 29, 30, 30, 29, 30, 29, 30, 29, 30, 29] else [30, a, b, 29, 30, 29, 30, 29, 30, 29, 30, 29]

def lens (c y : Int) : List Int :=
  if c = 1 ∨ c = 2 then [31, 28 + l01 c y, 31, 30, 31, 30, 31, 31, 30, 31, 30, 31]
  else if c = 5 then [30, 29, 30, 29, 30, 29, 30, 29, 30, 29, 30, 29 + l01 c y]
  else if c = 6 then [31, 31, 31, 31, 31, 31, 30, 30, 30, 30, 30, 29 + l01 c y]
  else if c = 8 then [30 + l01 c y, 31, 31, 31, 31, 31, 30, 30, 30, 30, 30, 30]
  else if c = 7 then hl y
  else [30, 30, 30, 30, 30, 30, 30, 30, 30, 30, 30, 30, 5 + l01 c y]

/-- how many days the month has -/
def mlen (c y m : Int) : Int := (lens c y).getD (m - 1).toNat 0
/-- the days of the first k months -/
def cum (c y : Int) (k : Nat) : Int := ((lens c y).take k).sum
def months (c y : Int) : Nat := (lens c y).length

theorem l01_bd (c y : Int) : 0 ≤ l01 c y ∧ l01 c y ≤ 1 := by unfold l01; split <;> omega
theorem hlen_bd (y : Int) : 353 ≤ hlen y ∧ hlen y ≤ 385 := by
  have h := hlen_mem y
  split at h <;> simp at h <;> omega
theorem ylen_bd (c y : Int) : 353 ≤ ylen c y ∧ ylen c y ≤ 385 := by
  have h := l01_bd c y
  have k := hlen_bd y
  unfold ylen base; (repeat' split) <;> omega
theorem hl_sum (y : Int) : (hl y).sum = hlen y := by
  have h := hlen_mem y
  unfold hl
  by_cases hy : (7 * y + 1) % 19 < 7
  · simp only [hy, decide_true, if_true, List.mem_cons, List.not_mem_nil, or_false] at h ⊢
    rcases h with h | h | h <;> simp [h]
  · simp only [hy, decide_false, if_false, List.mem_cons, List.not_mem_nil, or_false, Bool.false_eq_true] at h ⊢
    rcases h with h | h | h <;> simp [h]
theorem lens_sum (c y : Int) : (lens c y).sum = ylen c y := by
  unfold lens ylen base
  (repeat' split) <;> first | (simp at *; omega) | (simp [hl_sum]) | (exfalso; omega) | (simp [*]; done) | (simp; omega)
theorem months_bd (c y : Int) : 12 ≤ months c y ∧ months c y ≤ 13 := by
  unfold months lens hl; (repeat' split) <;> simp
theorem lens_mem (c y x : Int) (h : x ∈ lens c y) : 5 ≤ x ∧ x ≤ 31 := by
  have k := l01_bd c y
  unfold lens hl at h
  (repeat' split at h) <;> simp at h <;> omega
theorem cum_all (c y : Int) : cum c y (months c y) = ylen c y := by
  unfold cum months; rw [List.take_length, lens_sum]
theorem cum_succ (c y : Int) (k : Nat) (h : k < months c y) : cum c y (k + 1) = cum c y k + mlen c y (k + 1) := by
  unfold cum mlen
  have e : ((k : Int) + 1 - 1).toNat = k := by omega
  rw [e, List.take_succ_eq_append_getElem h, List.sum_append]
  simp [List.getD_eq_getElem?_getD, List.getElem?_eq_getElem h]
theorem mlen_bd (c y m : Int) (h1 : 1 ≤ m) (h2 : m ≤ months c y) : 5 ≤ mlen c y m ∧ mlen c y m ≤ 31 := by
  have hk : (m - 1).toNat < (lens c y).length := by unfold months at h2; omega
  apply lens_mem c y
  unfold mlen
  rw [List.getD_eq_getElem?_getD, List.getElem?_eq_getElem hk]
  simp
theorem cum_bd (c y : Int) (k : Nat) (h : k ≤ months c y) : 5 * (k : Int) ≤ cum c y k ∧ cum c y k ≤ 31 * (k : Int) := by
  induction k with
  | zero => simp [cum]
  | succ k ih =>
    have := ih (by omega)
    have e := cum_succ c y k (by omega)
    have b := mlen_bd c y (k + 1) (by omega) (by omega)
    omega
theorem cum_le (c y : Int) (k : Nat) (h : k ≤ months c y) : cum c y k ≤ ylen c y := by
  have hn : ∀ j : Nat, k + j ≤ months c y → cum c y k ≤ cum c y (k + j) := by
    intro j
    induction j with
    | zero => intro _; exact Int.le_refl _
    | succ j ih =>
      intro hj
      have e := cum_succ c y (k + j) (by omega)
      have b := mlen_bd c y ((k + j : Nat) + 1) (by omega) (by omega)
      have := ih (by omega)
      have e2 : k + (j + 1) = k + j + 1 := by omega
      rw [e2]; omega
  have := hn (months c y - k) (by omega)
  have e2 : k + (months c y - k) = months c y := by omega
  rw [e2, cum_all] at this
  exact this

/-! ### a date and its day -/
structure IsDate (c day y m d : Int) : Prop where
  m1 : 1 ≤ m
  m2 : m ≤ months c y
  d1 : 1 ≤ d
  d2 : d ≤ mlen c y m
  eq : day = start c y + cum c y (m - 1).toNat + d - 1

theorem start_mono (c a : Int) (h1 : 1 ≤ c) (h2 : c ≤ 10) (k : Nat) : start c a + 353 * k ≤ start c (a + k) := by
  induction k with
  | zero => simp
  | succ k ih =>
    have e := start_succ c (a + k) h1 h2
    have b := ylen_bd c (a + k)
    have e2 : a + ((k + 1 : Nat) : Int) = a + k + 1 := by omega
    rw [e2, e]; omega
theorem start_lt (c a b : Int) (h1 : 1 ≤ c) (h2 : c ≤ 10) (h : a < b) : start c a + 353 * (b - a) ≤ start c b := by
  have := start_mono c a h1 h2 (b - a).toNat
  have e : a + ((b - a).toNat : Int) = b := by omega
  rw [e] at this; omega
theorem year_unique (c day a b : Int) (h1 : 1 ≤ c) (h2 : c ≤ 10) (ha : start c a ≤ day) (ha' : day < start c (a + 1)) (hb : start c b ≤ day) (hb' : day < start c (b + 1)) : a = b := by
  rcases Int.lt_trichotomy a b with h | h | h
  · by_cases e : a + 1 = b
    · rw [e] at ha'; omega
    · have := start_lt c (a + 1) b h1 h2 (by omega); omega
  · exact h
  · by_cases e : b + 1 = a
    · rw [e] at hb'; omega
    · have := start_lt c (b + 1) a h1 h2 (by omega); omega
theorem IsDate.year {c day y m d : Int} (h1 : 1 ≤ c) (h2 : c ≤ 10) (h : IsDate c day y m d) : start c y ≤ day ∧ day < start c (y + 1) := by
  obtain ⟨m1, m2, d1, d2, e⟩ := h
  have b1 := cum_bd c y (m - 1).toNat (by omega)
  have b2 := cum_le c y ((m - 1).toNat + 1) (by omega)
  have e2 := cum_succ c y (m - 1).toNat (by omega)
  have e3 : (((m - 1).toNat : Nat) : Int) + 1 = m := by omega
  rw [e3] at e2
  have s := start_succ c y h1 h2
  omega
theorem cum_mono (c y : Int) (a b : Nat) (h : a ≤ b) (hb : b ≤ months c y) : cum c y a ≤ cum c y b := by
  obtain ⟨j, rfl⟩ : ∃ j, b = a + j := ⟨b - a, by omega⟩
  clear h
  induction j with
  | zero => exact Int.le_refl _
  | succ j ih =>
    have e := cum_succ c y (a + j) (by omega)
    have b := mlen_bd c y ((a + j : Nat) + 1) (by omega) (by omega)
    have := ih (by omega)
    have e2 : a + (j + 1) = a + j + 1 := by omega
    rw [e2]; omega
theorem IsDate.unique {c day y m d y' m' d' : Int} (h1 : 1 ≤ c) (h2 : c ≤ 10) (h : IsDate c day y m d) (k : IsDate c day y' m' d') : y = y' ∧ m = m' ∧ d = d' := by
  have a := h.year h1 h2
  have b := k.year h1 h2
  obtain rfl := year_unique c day y y' h1 h2 a.1 a.2 b.1 b.2
  obtain ⟨m1, m2, d1, d2, e⟩ := h
  obtain ⟨n1, n2, f1, f2, g⟩ := k
  have e2 := cum_succ c y (m - 1).toNat (by omega)
  have g2 := cum_succ c y (m' - 1).toNat (by omega)
  have e3 : (((m - 1).toNat : Nat) : Int) + 1 = m := by omega
  have g3 : (((m' - 1).toNat : Nat) : Int) + 1 = m' := by omega
  rw [e3] at e2; rw [g3] at g2
  have hm : m = m' := by
    rcases Int.lt_trichotomy m m' with hl | hl | hl
    · have := cum_mono c y ((m - 1).toNat + 1) (m' - 1).toNat (by omega) (by omega); omega
    · exact hl
    · have := cum_mono c y ((m' - 1).toNat + 1) (m - 1).toNat (by omega) (by omega); omega
  subst hm
  exact ⟨rfl, rfl, by omega⟩

theorem start_lo (c : Int) (h1 : 1 ≤ c) (h2 : c ≤ 10) : start c (-20000) ≤ -4000400 := by
  have hc : c = 1 ∨ c = 2 ∨ c = 3 ∨ c = 4 ∨ c = 5 ∨ c = 6 ∨ c = 7 ∨ c = 8 ∨ c = 9 ∨ c = 10 := by omega
  rcases hc with rfl | rfl | rfl | rfl | rfl | rfl | rfl | rfl | rfl | rfl <;> decide +kernel
theorem start_hi (c : Int) (h1 : 1 ≤ c) (h2 : c ≤ 10) : 4000400 ≤ start c 20000 := by
  have hc : c = 1 ∨ c = 2 ∨ c = 3 ∨ c = 4 ∨ c = 5 ∨ c = 6 ∨ c = 7 ∨ c = 8 ∨ c = 9 ∨ c = 10 := by omega
  rcases hc with rfl | rfl | rfl | rfl | rfl | rfl | rfl | rfl | rfl | rfl <;> decide +kernel
theorem start_bd (c y : Int) (h1 : 1 ≤ c) (h2 : c ≤ 10) (hy1 : -40000 ≤ y) (hy2 : y ≤ 40000) : -40000000 ≤ start c y ∧ start c y ≤ 40000000 := by
  have lo : -40000000 ≤ start c (-40000) ∧ start c 40000 ≤ 40000000 := by
    have hc : c = 1 ∨ c = 2 ∨ c = 3 ∨ c = 4 ∨ c = 5 ∨ c = 6 ∨ c = 7 ∨ c = 8 ∨ c = 9 ∨ c = 10 := by omega
    rcases hc with rfl | rfl | rfl | rfl | rfl | rfl | rfl | rfl | rfl | rfl <;> decide +kernel
  have a := start_mono c (-40000) h1 h2 (y + 40000).toNat
  have b := start_mono c y h1 h2 (40000 - y).toNat
  have e1 : -40000 + ((y + 40000).toNat : Int) = y := by omega
  have e2 : y + ((40000 - y).toNat : Int) = 40000 := by omega
  rw [e1] at a; rw [e2] at b; omega

/-! ### the rounds of years -/
def rYears (c : Int) : Int := if c = 1 ∨ c = 8 then 400 else if c = 9 then 4000 else if c = 2 ∨ c = 3 ∨ c = 4 then 4 else if c = 5 then 30 else if c = 6 then 2820 else if c = 10 then 1 else 0
def rDays (c : Int) : Int := if c = 1 ∨ c = 8 then 146097 else if c = 9 then 1460969 else if c = 2 ∨ c = 3 ∨ c = 4 then 1461 else if c = 5 then 10631 else if c = 6 then 1029983 else if c = 10 then 365 else 0
theorem gahead_round (y k : Int) : gahead (y + 400 * k) = gahead y + 97 * k := by unfold gahead; omega
theorem start_round (c y k : Int) (h1 : 1 ≤ c) (h2 : c ≤ 10) (h7 : c ≠ 7) : start c (y + rYears c * k) = start c y + rDays c * k := by
  have hc : c = 1 ∨ c = 2 ∨ c = 3 ∨ c = 4 ∨ c = 5 ∨ c = 6 ∨ c = 8 ∨ c = 9 ∨ c = 10 := by omega
  rcases hc with rfl | rfl | rfl | rfl | rfl | rfl | rfl | rfl | rfl
  · have := gahead_round y k
    simp [start, rYears, rDays]; omega
  · simp [start, rYears, rDays]; omega
  · simp [start, rYears, rDays]; omega
  · simp [start, rYears, rDays]; omega
  · simp [start, rYears, rDays]; omega
  · have e : (y + 2820 * k - 474) % 2820 = (y - 474) % 2820 := by omega
    have e2 : (y + 2820 * k - 474) / 2820 = (y - 474) / 2820 + k := by omega
    simp [start, rYears, rDays, pahead, pcyc, e, e2]; omega
  · have := gahead_round (y + 78) k
    have e : y + 400 * k + 78 = y + 78 + 400 * k := by omega
    simp [start, rYears, rDays, e]; omega
  · have := gahead_round y (10 * k)
    have e : y + 400 * (10 * k) = y + 4000 * k := by omega
    rw [e] at this
    simp [start, rYears, rDays]; omega
  · simp [start, rYears, rDays]; omega
def first (c : Int) : Int :=
  if c = 1 then -719162 else if c = 2 then -719164 else if c = 3 then -615558 else if c = 4 then -716367 else if c = 5 then -492148 else if c = 6 then -492267 else if c = 7 then -2092590 else if c = 8 then -690593 else if c = 9 then -64748 else -991950
theorem start_first (c : Int) (h1 : 1 ≤ c) (h2 : c ≤ 10) : start c 1 = first c := by
  have hc : c = 1 ∨ c = 2 ∨ c = 3 ∨ c = 4 ∨ c = 5 ∨ c = 6 ∨ c = 7 ∨ c = 8 ∨ c = 9 ∨ c = 10 := by omega
  rcases hc with rfl | rfl | rfl | rfl | rfl | rfl | rfl | rfl | rfl | rfl <;> decide +kernel

/-! ### the first guess of a year -/
theorem heb_hi (y : Int) : heb y ≤ moonD y + 3 := by
  rw [heb_fixed, moon_bump, moon_bump, moon_bump]; unfold fixed bump; (repeat' split) <;> omega
theorem moonD_hi (y : Int) (h : 0 ≤ y) : moonD y + 3 ≤ 366 * y := by
  rw [moonD_eq]; unfold hM; omega
theorem moonD_lo (y : Int) (h : y ≤ -1) : moonD y + 3 ≤ 354 * (y + 2) := by
  rw [moonD_eq]; unfold hM; omega
theorem guess_hi (c y : Int) (h1 : 1 ≤ c) (h2 : c ≤ 10) (h : 0 ≤ y) : start c y ≤ first c + 366 * y := by
  have hc : c = 1 ∨ c = 2 ∨ c = 3 ∨ c = 4 ∨ c = 5 ∨ c = 6 ∨ c = 7 ∨ c = 8 ∨ c = 9 ∨ c = 10 := by omega
  rcases hc with rfl | rfl | rfl | rfl | rfl | rfl | rfl | rfl | rfl | rfl
  · simp [start, first, gahead]; omega
  · simp [start, first]; omega
  · simp [start, first]; omega
  · simp [start, first]; omega
  · simp [start, first]; omega
  · skip
    simp [start, first, pahead, pcyc]; omega
  · have a := heb_hi y
    have b := moonD_hi y h
    simp [start, first]; omega
  · have : gahead 79 = 19 := by decide
    simp [start, first, this]; unfold gahead; omega
  · simp [start, first, gahead]; omega
  · simp [start, first]; omega
theorem guess_lo (c y : Int) (h1 : 1 ≤ c) (h2 : c ≤ 10) (h : y ≤ -3) : start c y ≤ first c + 354 * (y + 2) := by
  have hc : c = 1 ∨ c = 2 ∨ c = 3 ∨ c = 4 ∨ c = 5 ∨ c = 6 ∨ c = 7 ∨ c = 8 ∨ c = 9 ∨ c = 10 := by omega
  rcases hc with rfl | rfl | rfl | rfl | rfl | rfl | rfl | rfl | rfl | rfl
  · simp [start, first, gahead]; omega
  · simp [start, first]; omega
  · simp [start, first]; omega
  · simp [start, first]; omega
  · simp [start, first]; omega
  · skip
    simp [start, first, pahead, pcyc]; omega
  · have a := heb_hi y
    have b := moonD_lo y (by omega)
    simp [start, first]; omega
  · have : gahead 79 = 19 := by decide
    simp [start, first, this]; unfold gahead; omega
  · simp [start, first, gahead]; omega
  · simp [start, first]; omega

/-! ### how great the moon's numbers are -/
theorem moonD_bd (y : Int) (h1 : -100002 ≤ y) (h2 : y ≤ 100002) : -40000000 ≤ moonD y ∧ moonD y ≤ 40000000 := by
  rw [moonD_eq]; unfold hM; omega
theorem moon_bd (y : Int) (h1 : -100002 ≤ y) (h2 : y ≤ 100002) : -40000000 ≤ moon y ∧ moon y ≤ 40000001 := by
  have := moonD_bd y h1 h2
  unfold moon; split <;> omega
theorem heb_bd (y : Int) (h1 : -100001 ≤ y) (h2 : y ≤ 100001) : -40000000 ≤ heb y ∧ heb y ≤ 40000003 := by
  have := moon_bd y (by omega) (by omega)
  unfold heb; (repeat' split) <;> omega
end Go.Proofs.YtafaacliphdndaaGreatDoor.Alm
