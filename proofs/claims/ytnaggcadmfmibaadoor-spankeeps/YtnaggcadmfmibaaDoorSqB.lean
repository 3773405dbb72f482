/- package span: the search's block and its states; tightest. -/
import Derived.Test.YtnaggcadmfmibaaDoorSqA
import Derived.Test.YtnaggcadmfmibaaDoorSqM
namespace Go.Proofs.YtnaggcadmfmibaaDoor
open Go.RowKit
set_option linter.unusedVariables false
set_option linter.unusedSimpArgs false

theorem cntB_no' {p : Nat → Bool} {m : Nat} : ∀ n, (∀ k, m ≤ k → k < n → p k = false) → cntB p n ≤ m
  | 0, _ => by unfold cntB; omega
  | n + 1, h => by
    have h1 := cntB_no' n (fun k hk hn => h k hk (by omega))
    have h2 := cntB_le p n
    unfold cntB
    rcases Nat.lt_or_ge n m with hl | hl
    · split <;> omega
    · rw [h n hl (by omega)]; simpa using h1
/-- a state's cells -/
def stA (A : Nat → Nat → Nat) (C : Nat → Bool) : Array Value := (((List.range 12).map fun j => Value.int .u64 (A (j / 2) (j % 2) : Nat)) ++ (List.range 6).map fun j => Value.bool (C j)).toArray
theorem stA_size (A : Nat → Nat → Nat) (C : Nat → Bool) : (stA A C).size = 18 := by simp [stA]
theorem stA_w (A : Nat → Nat → Nat) (C : Nat → Bool) (i j : Nat) (hi : i < 6) (hj : j < 2) : (stA A C)[i * 2 + j]? = some (.int .u64 (A i j : Nat)) := by
  unfold stA
  rw [List.getElem?_toArray, List.getElem?_append_left (by simp; omega), List.getElem?_map, List.getElem?_range (by omega)]
  simp only [Option.map_some]
  rw [show (i * 2 + j) / 2 = i by omega, show (i * 2 + j) % 2 = j by omega]
theorem stA_c (A : Nat → Nat → Nat) (C : Nat → Bool) (i : Nat) (hi : i < 6) : (stA A C)[12 + i]? = some (.bool (C i)) := by
  unfold stA
  rw [List.getElem?_toArray, List.getElem?_append_right (by simp), List.getElem?_map, List.length_map, List.length_range, show 12 + i - 12 = i by omega, List.getElem?_range hi]
  rfl
theorem stA_at (j : Nat) (hj : j < 18) : (∃ a b, a < 6 ∧ b < 2 ∧ j = a * 2 + b) ∨ ∃ a, a < 6 ∧ j = 12 + a := by
  rcases Nat.lt_or_ge j 12 with h | h
  · exact .inl ⟨j / 2, j % 2, by omega, by omega, by omega⟩
  · exact .inr ⟨j - 12, by omega, by omega⟩
theorem stA_setw (A : Nat → Nat → Nat) (C : Nat → Bool) (i j v : Nat) (hi : i < 6) (hj : j < 2) : (stA A C).setIfInBounds (i * 2 + j) (.int .u64 (v : Nat)) = stA (upd A i j v) C := by
  apply Array.ext_getElem?
  intro k
  rw [Array.getElem?_setIfInBounds]
  rcases Nat.lt_or_ge k 18 with hk | hk
  · rcases stA_at k hk with ⟨a, b, ha, hb, he⟩ | ⟨a, ha, he⟩
    · rw [he, stA_w _ _ a b ha hb, stA_w _ _ a b ha hb]
      unfold upd
      by_cases h : a = i ∧ b = j
      · obtain ⟨rfl, rfl⟩ := h
        rw [if_pos rfl, if_pos (by rw [stA_size]; omega), if_pos ⟨rfl, rfl⟩]
      · rw [if_neg (by omega), if_neg h]
    · rw [he, stA_c _ _ a ha, stA_c _ _ a ha, if_neg (by omega)]
  · rw [Array.getElem?_eq_none (by rw [stA_size]; omega), Array.getElem?_eq_none (by rw [stA_size]; omega)]
    split
    · rw [if_neg (by rw [stA_size]; omega)]
    · rfl
theorem stA_setc (A : Nat → Nat → Nat) (C : Nat → Bool) (i : Nat) (hi : i < 6) : (stA A C).setIfInBounds (12 + i) (.bool true) = stA A (chC C i) := by
  apply Array.ext_getElem?
  intro k
  rw [Array.getElem?_setIfInBounds]
  rcases Nat.lt_or_ge k 18 with hk | hk
  · rcases stA_at k hk with ⟨a, b, ha, hb, he⟩ | ⟨a, ha, he⟩
    · rw [he, stA_w _ _ a b ha hb, stA_w _ _ a b ha hb, if_neg (by omega)]
    · rw [he, stA_c _ _ a ha, stA_c _ _ a ha]
      unfold chC
      by_cases h : a = i
      · subst h
        rw [if_pos rfl, if_pos (by rw [stA_size]; omega), if_pos rfl]
      · rw [if_neg (by omega), if_neg h]
  · rw [Array.getElem?_eq_none (by rw [stA_size]; omega), Array.getElem?_eq_none (by rw [stA_size]; omega)]
    split
    · rw [if_neg (by rw [stA_size]; omega)]
    · rfl
theorem stA_one (A : Nat → Nat → Nat) (C : Nat → Bool) : (stA A C).all (·.oneCell') = true := by
  rw [Array.all_eq_true_iff_forall_mem]
  intro v hv
  unfold stA at hv
  simp only [List.mem_toArray, List.mem_append, List.mem_map] at hv
  rcases hv with ⟨j, _, rfl⟩ | ⟨j, _, rfl⟩ <;> rfl
theorem infoState : (Tryd.prog.info? 63).map (·.size) = some 18 := by kernel_rfl
/-- a state in a block -/
def Sta (B : Nat) (A : Nat → Nat → Nat) (C : Nat → Bool) (X : World) : Prop := X.heap[B]? = some (.cells (stA A C) 63 (0, 0))
theorem Sta.w {B : Nat} {A : Nat → Nat → Nat} {C : Nat → Bool} {X : World} (h : Sta B A C X) (i : Nat) (hi : i < 6) :
    (X.cell? ⟨B, i * 2, none⟩ = some (.int .u64 (A i 0 : Nat)) ∧ X.frozen? ⟨B, i * 2, none⟩ = false) ∧ X.cell? ⟨B, i * 2 + 1, none⟩ = some (.int .u64 (A i 1 : Nat)) ∧ X.frozen? ⟨B, i * 2 + 1, none⟩ = false :=
  ⟨⟨(cell_of_row _ _ _ _ _ (0, 0) h).trans (stA_w A C i 0 hi (by omega)), frozen_of_row _ _ _ _ _ h⟩, (cell_of_row _ _ _ _ _ (0, 0) h).trans (stA_w A C i 1 hi (by omega)), frozen_of_row _ _ _ _ _ h⟩
theorem Sta.c {B : Nat} {A : Nat → Nat → Nat} {C : Nat → Bool} {X : World} (h : Sta B A C X) (i : Nat) (hi : i < 6) :
    X.cell? ⟨B, 12 + i, none⟩ = some (.bool (C i)) ∧ X.frozen? ⟨B, 12 + i, none⟩ = false :=
  ⟨(cell_of_row _ _ _ _ _ (0, 0) h).trans (stA_c A C i hi), frozen_of_row _ _ _ _ _ h⟩
theorem Sta.lt {B : Nat} {A : Nat → Nat → Nat} {C : Nat → Bool} {X : World} (h : Sta B A C X) : B < X.heap.size := lt_of_cell (p := ⟨B, 12, none⟩) (h.c 0 (by omega)).1
theorem Sta.step {B : Nat} {A : Nat → Nat → Nat} {C : Nat → Bool} {X X' : World} (h : Sta B A C X) (hb : Below X.heap.size X X') : Sta B A C X' := (hb.block _ h.lt).trans h
theorem Sta.whole {B : Nat} {A : Nat → Nat → Nat} {C : Nat → Bool} {X : World} (h : Sta B A C X) : X.rangeAt B 0 (stA A C).toList := fun j v hv => by
  rw [Nat.zero_add, cell_of_row _ _ _ _ _ (0, 0) h]
  simpa using hv
theorem sta_new (X : World) (A : Nat → Nat → Nat) (C : Nat → Bool) : Sta X.heap.size A C (X.alloc (.cells (stA A C) 63)) := heap_alloc_last _ _
/-- the search's block -/
structure SRC (s n M : Nat) (N : Nat → Nat → Nat) (fr to : Nat → Nat) (X : World) : Prop where
  sz : X.cell? ⟨s, 0, none⟩ = some (.int .i64 n)
  sp : ∃ g c, X.cell? ⟨s, 1, none⟩ = some (.slice (some ⟨g, 0, none⟩) M c) ∧ ∀ a, a < M → X.cell? ⟨g, a * 2, none⟩ = some (.int .i64 (fr a)) ∧ X.cell? ⟨g, a * 2 + 1, none⟩ = some (.int .i64 (to a))
  lets : ∀ i k, i < n → k < n → ∃ q c, ∃ L : Nat → Nat → Nat, X.cell? ⟨s, 2 + i * 6 + k, none⟩ = some (.slice (some ⟨q, 0, none⟩) M c) ∧
    ∀ a, a < M → X.cell? ⟨q, a * 2, none⟩ = some (.int .u64 (L a 0 : Nat)) ∧ X.cell? ⟨q, a * 2 + 1, none⟩ = some (.int .u64 (L a 1 : Nat)) ∧ (∀ j, L a j < 18446744073709551616) ∧ ∀ b, b < 128 → mb (L a) b = (decide (b < M) && RS N fr to i k a b)
theorem cell_step {X X' : World} {p : Addr} {v : Value} (h : X.cell? p = some v) (hb : Below X.heap.size X X') : X'.cell? p = some v := (hb.cell (lt_of_cell h)).trans h
theorem SRC.step {s n M : Nat} {N : Nat → Nat → Nat} {fr to : Nat → Nat} {X X' : World} (h : SRC s n M N fr to X) (hb : Below X.heap.size X X') : SRC s n M N fr to X' :=
  ⟨cell_step h.sz hb, by obtain ⟨p, c, h1, h2⟩ := h.sp; exact ⟨p, c, cell_step h1 hb, fun a ha => ⟨cell_step (h2 a ha).1 hb, cell_step (h2 a ha).2 hb⟩⟩, fun i k hi hk => by
    obtain ⟨q, c, L, h1, h2⟩ := h.lets i k hi hk
    exact ⟨q, c, L, cell_step h1 hb, fun a ha => ⟨cell_step (h2 a ha).1 hb, cell_step (h2 a ha).2.1 hb, (h2 a ha).2.2⟩⟩⟩
theorem SRC.lt {s n M : Nat} {N : Nat → Nat → Nat} {fr to : Nat → Nat} {X : World} (h : SRC s n M N fr to X) : s < X.heap.size := lt_of_cell (p := ⟨s, 0, none⟩) h.sz
set_option maxRecDepth 100000 in
set_option maxHeartbeats 4000000 in
theorem tight_any (s n M : Nat) (N : Nat → Nat → Nat) (fr to : Nat → Nat) (A : Nat → Nat → Nat) (C : Nat → Bool) (w : World) (h1 : 1 ≤ n) (h6 : n ≤ 6) (hM : M ≤ 66)
    (hA : ∀ i j, A i j < 18446744073709551616) (hc : ∀ i, i < n → cntB (mb (A i)) 128 ≤ M) (h : SRC s n M N fr to w) :
    Calls Tryd.prog 58 #[.pointer (some ⟨s, 0, none⟩), .agg (stA A C)] w fun e w' => ∃ (t : Nat) (ok : Bool), e = .returned (.tuple #[.int .i64 t, .bool ok]) ∧ Below w.heap.size w w' ∧
      ((ok = true ∧ t < n ∧ C t = false) ∨ (ok = false ∧ ∀ k, k < n → C k = true)) := by
  have hb0 : Below w.heap.size w (w.alloc (.cells (stA A C) 63)) := (Below.refl _ w).alloc (Nat.le_refl _) _
  have hs := hide (sta_new w A C)
  have hr := hide (h.step hb0)
  have hsz := hr.out.sz
  obtain ⟨p, c, hsp, _⟩ := hr.out.sp
  have HA := hide hA
  have HC := hide hc
  have HB0 := hide hb0
  clear hA hc hb0 h
  go_enter Tryd.func58, Tryd.ntmps58
  go_wp2_with fail
  generalize hD : w.heap.size = D at *
  have HDE := hide hD
  clear hD
  generalize w.alloc (.cells (stA A C) 63) = W1 at *
  go_quiet (fail)
  have hb1 := below_dr HB0.out nq
  have hs1 : Sta D A C (W1.drewN nq) := hs.out
  have hr1 : SRC s n M N fr to (W1.drewN nq) := hr.out.step (below_dr (Below.refl _ W1) nq)
  clear hsp hsz HB0 hs hr
  generalize W1.drewN nq = W2 at *
  have HB := hide hb1
  have HS := hide hs1
  have HR := hide hr1
  have hsz := hr1.sz
  clear hb1 hs1 hr1
  go_wp2_with fail
  clear hsz
  go_loopw [6, 7, 20] (fun a b i wr => ∃ r t f : Nat, r ≤ n ∧ a = .int .i64 t ∧ b = .int .i64 f ∧ i = .int .i64 r ∧ ((f ≤ M ∧ t < n ∧ C t = false) ∨ (f = M + 1 ∧ t = 0 ∧ ∀ k, k < r → C k = true)) ∧ Sta D A C wr ∧ SRC s n M N fr to wr ∧ Below D w wr) (fun _ _ i _ => n - (intOf i).toNat)
  case atStart => exact ⟨0, 0, M + 1, by omega, rfl, by go_num, rfl, .inr ⟨rfl, rfl, fun k hk => by omega⟩, HS.out, HR.out, HB.out⟩
  case round =>
    clear HS HR HB
    obtain ⟨r, t, f, hr, rfl, rfl, rfl, hd, hst, hsr, hb⟩ := hrel
    have HS := hide hst
    have HR := hide hsr
    have HB := hide hb
    have HDD := hide hd
    by_cases hlt : r < n
    · have hri : (r : Int) < n := by omega
      have hri6 : (r : Int) < 6 := by omega
      obtain ⟨⟨hc0, hf0⟩, hc1, hf1⟩ := hst.w r (by omega)
      have KC := hide (fun W => mcount_any (A r) W (HA.out r))
      have hcm := HC.out r hlt
      generalize cntB (mb (A r)) 128 = m at *
      clear hst hsr hb hd
      go_wp2_with fail
      refine (KC.out _).mono ?_
      rintro e W3 ⟨rfl, hb3⟩
      clear hc0 hf0 hc1 hf1
      have hst := HS.out.step hb3
      have HS3 := hide hst
      have HR3 := hide (HR.out.step hb3)
      have HB3 := hide (HB.out.trans (hb3.mono (by have := HB.out.size; have := HDE.out; omega)))
      obtain ⟨hcc, hcf⟩ := hst.c r (by omega)
      clear hst hb3 HS HR HB
      generalize hcr : C r = cr at *
      have HCR := hide hcr
      clear hcr
      by_cases hmf : m < f
      · have hmi : (m : Int) < f := by omega
        cases cr
        · go_wp2_with fail
          go_roundw
          case rel => exact ⟨r + 1, r, m, by omega, rfl, rfl, by go_num, .inl ⟨hcm, hlt, HCR.out⟩, HS3.out, HR3.out, HB3.out⟩
          case measure => simp [intOf]; omega
        · go_wp2_with fail
          go_roundw
          case rel => exact ⟨r + 1, t, f, by omega, rfl, rfl, by go_num, HDD.out.imp id (fun ⟨g1, g2, g3⟩ => ⟨g1, g2, fun k hk => by
            rcases Nat.lt_or_ge k r with hl | hl
            · exact g3 k hl
            · have : k = r := by omega
              rw [this]; exact HCR.out⟩), HS3.out, HR3.out, HB3.out⟩
          case measure => simp [intOf]; omega
      · have hmi : ¬ (m : Int) < f := by omega
        have hdd := HDD.out.resolve_right (fun h => by omega)
        cases cr
        · go_wp2_with fail
          go_roundw
          case rel => exact ⟨r + 1, t, f, by omega, rfl, rfl, by go_num, .inl hdd, HS3.out, HR3.out, HB3.out⟩
          case measure => simp [intOf]; omega
        · go_wp2_with fail
          go_roundw
          case rel => exact ⟨r + 1, t, f, by omega, rfl, rfl, by go_num, .inl hdd, HS3.out, HR3.out, HB3.out⟩
          case measure => simp [intOf]; omega
    · have hrn : r = n := by omega
      have hni : (n : Int) ≤ r := by omega
      obtain ⟨p, c, hsp, _⟩ := hsr.sp
      clear hst hsr hb
      go_wp2_with fail
      go_quiet (fail)
      have hbq := below_dr HB.out nq
      go_wp2_with fail
      go_ret2
      refine ⟨t, _, rfl, by rw [HDE.out]; exact hbq, ?_⟩
      rcases hd with ⟨g1, g2, g3⟩ | ⟨g1, g2, g3⟩
      · exact .inl ⟨by simpa using g1, g2, g3⟩
      · exact .inr ⟨by simp; omega, fun k hk => g3 k (by omega)⟩
end Go.Proofs.YtnaggcadmfmibaaDoor
