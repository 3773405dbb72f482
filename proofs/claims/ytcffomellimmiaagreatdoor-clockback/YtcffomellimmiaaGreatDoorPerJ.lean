/- A period's text is read as the period. -/
import Derived.Test.YtcffomellimmiaaGreatDoorPerC
import Derived.Test.YtcffomellimmiaaGreatDoorPerI
namespace Go.Proofs.YtcffomellimmiaaGreatDoor
open Go.RowKit Go.Shelf
set_option linter.unusedVariables false
set_option linter.unusedSimpArgs false

def opt (v : Nat) : Option Nat := if v = 0 then none else some v
theorem opt_val (v : Nat) : (opt v).getD 0 = v := by unfold opt; split <;> simp [*]
theorem opt_ptL (v : Nat) (c : UInt8) : (pt v c).data.toList = ptL (opt v) c := by
  unfold pt opt
  split
  · simp [ptL]
  · rw [Tx.data_app]; simp [ptL]
theorem pbody_days (y m n d : Nat) : (pbody y m n d 0).data.toList = 80 :: segL (ps1 (opt y) (opt m) (opt n) (opt d)) := by
  unfold pbody
  rw [if_pos rfl]
  simp only [Tx.data_app, opt_ptL, ps1, segL]
  simp
theorem pbody_secs (y m n d s : Nat) (h : s ≠ 0) : (pbody y m n d s).data.toList = 80 :: (segL (ps1 (opt y) (opt m) (opt n) (opt d)) ++ 84 :: segL (ps2 (opt (s / 3600)) (opt (s % 3600 / 60)) (opt (s % 60)))) := by
  unfold pbody
  rw [if_neg h]
  simp only [Tx.data_app, opt_ptL, ps1, ps2, segL]
  simp
theorem ptL_ne (v : Nat) (c : UInt8) (h : v ≠ 0) : ptL (opt v) c ≠ [] := by
  unfold opt; rw [if_neg h]; simp [ptL]
theorem segL_ne1 (y m n d : Nat) (h : ¬ (y = 0 ∧ m = 0 ∧ n = 0 ∧ d = 0)) : segL (ps1 (opt y) (opt m) (opt n) (opt d)) ≠ [] := by
  intro e
  simp only [ps1, segL, List.append_eq_nil_iff] at e
  obtain ⟨e1, e2, e3, e4, _⟩ := e
  apply h
  refine ⟨?_, ?_, ?_, ?_⟩
  · exact Classical.byContradiction fun g => ptL_ne _ _ g e1
  · exact Classical.byContradiction fun g => ptL_ne _ _ g e2
  · exact Classical.byContradiction fun g => ptL_ne _ _ g e3
  · exact Classical.byContradiction fun g => ptL_ne _ _ g e4
theorem segL_ne2 (a b c : Nat) (h : ¬ (a = 0 ∧ b = 0 ∧ c = 0)) : segL (ps2 (opt a) (opt b) (opt c)) ≠ [] := by
  intro e
  simp only [ps2, segL, List.append_eq_nil_iff] at e
  obtain ⟨e1, e2, e3, _⟩ := e
  apply h
  refine ⟨?_, ?_, ?_⟩
  · exact Classical.byContradiction fun g => ptL_ne _ _ g e1
  · exact Classical.byContradiction fun g => ptL_ne _ _ g e2
  · exact Classical.byContradiction fun g => ptL_ne _ _ g e3
theorem opt_some {v x : Nat} (h : opt v = some x) : v = x := by
  unfold opt at h; split at h
  · cases h
  · exact Option.some.inj h
/-- has a part of a period's text more than eight digits? -/
def Bg (y m n d s : Nat) : Prop := 99999999 < y ∨ 99999999 < m ∨ 99999999 < n ∨ 99999999 < d ∨ 99999999 < s / 3600
theorem big1 {y m n d : Nat} (s : Nat) (h : ∃ p ∈ ps1 (opt y) (opt m) (opt n) (opt d), ∃ v, p.1 = some v ∧ 99999999 < v) : Bg y m n d s := by
  obtain ⟨p, hp, v, hv, hb⟩ := h
  simp only [ps1, List.mem_cons, List.not_mem_nil, or_false] at hp
  unfold Bg
  rcases hp with rfl | rfl | rfl | rfl <;> have := opt_some hv <;> omega
theorem big2 {y m n d s : Nat} (h : ∃ p ∈ ps1 (opt y) (opt m) (opt n) (opt d) ++ ps2 (opt (s / 3600)) (opt (s % 3600 / 60)) (opt (s % 60)), ∃ v, p.1 = some v ∧ 99999999 < v) : Bg y m n d s := by
  obtain ⟨p, hp, v, hv, hb⟩ := h
  rw [List.mem_append] at hp
  rcases hp with hp | hp
  · exact big1 s ⟨p, hp, v, hv, hb⟩
  · simp only [ps2, List.mem_cons, List.not_mem_nil, or_false] at hp
    unfold Bg
    rcases hp with rfl | rfl | rfl <;> have := opt_some hv <;> omega
/-- the reader's period, at a period's text -/
theorem rperiod_any (b : Nat) (s : ByteArray) (k y m n d x : Nat) (W : World) (h : Rd b s k W) (hs : s.size ≤ 1000000000) (hT : Tx.Seg s k (pbody y m n d x).data.toList) (hend : s.size = k + (pbody y m n d x).size) (hz : ¬ (y = 0 ∧ m = 0 ∧ n = 0 ∧ d = 0 ∧ x = 0)) :
    Calls Tryz.prog 55 #[.pointer (some ⟨b, 0, none⟩)] W fun e w' =>
      (¬ Bg y m n d x ∧ e = .returned (.tuple #[.agg #[.int .i64 y, .int .i64 m, .int .i64 n, .int .i64 d, .int .i64 x], .nilIface]) ∧ Rd b s s.size w' ∧ Mv b W w') ∨ (Bg y m n d x ∧ PErr b W e w') := by
  rw [Tx.size_len (pbody y m n d x)] at hend
  by_cases h0 : x = 0
  · subst h0
    rw [pbody_days] at hT hend
    rw [List.length_cons] at hend
    have he : k + 1 + (segL (ps1 (opt y) (opt m) (opt n) (opt d))).length = s.size := by omega
    have hne := segL_ne1 y m n d (fun g => hz ⟨g.1, g.2.1, g.2.2.1, g.2.2.2, rfl⟩)
    refine (period_days b s k (opt y) (opt m) (opt n) (opt d) W h hs hT (.inl (by omega)) (Nx.end (by omega)) hne).mono fun e w' g => ?_
    rcases g with ⟨⟨g1, g2, g3, g4⟩, g5, g6, g7⟩ | ⟨g1, g2⟩
    · left
      rw [opt_val] at g1 g2 g3 g4
      rw [he] at g6
      simp only [opt_val] at g5
      refine ⟨?_, by rw [g5]; rfl, g6, g7⟩
      unfold Bg; omega
    · exact .inr ⟨big1 _ g1, g2⟩
  · rw [pbody_secs y m n d x h0] at hT hend
    rw [List.length_cons, List.length_append, List.length_cons] at hend
    have he : k + 1 + (segL (ps1 (opt y) (opt m) (opt n) (opt d))).length + 1 + (segL (ps2 (opt (x / 3600)) (opt (x % 3600 / 60)) (opt (x % 60)))).length = s.size := by omega
    have hne := segL_ne2 (x / 3600) (x % 3600 / 60) (x % 60) (fun g => by omega)
    refine (period_secs b s k (opt y) (opt m) (opt n) (opt d) (opt (x / 3600)) (opt (x % 3600 / 60)) (opt (x % 60)) W h hs hT (.inl (by omega)) hne).mono fun e w' g => ?_
    rcases g with ⟨⟨⟨g1, g2, g3, g4⟩, g8⟩, g5, g6, g7⟩ | ⟨g1, g2⟩
    · left
      rw [opt_val] at g1 g2 g3 g4 g8
      rw [he] at g6
      simp only [opt_val] at g5
      have hx : (3600 : Int) * ((x / 3600 : Nat) : Int) + 60 * ((x % 3600 / 60 : Nat) : Int) + ((x % 60 : Nat) : Int) = x := by omega
      rw [hx] at g5
      refine ⟨?_, g5, g6, g7⟩
      unfold Bg; omega
    · exact .inr ⟨big2 g1, g2⟩
/-- the sign ahead -/
def sgn (bk : Bool) (v : Nat) : Int := if bk then -(v : Int) else v
def stx (bk : Bool) (T : ByteArray) : ByteArray := if bk then ⟨#[45]⟩ ++ T else T
theorem ppback (bk : Bool) (y m n d x : Nat) (h1 : y ≤ 1000000000000) (h2 : m ≤ 1000000000000) (h3 : n ≤ 1000000000000) (h4 : d ≤ 1000000000000) (h5 : x ≤ 1000000000000) (hz : ¬ (y = 0 ∧ m = 0 ∧ n = 0 ∧ d = 0 ∧ x = 0)) :
    (∀ w, Hd w → Calls Tryz.prog 15 #[.string (stx bk (pbody y m n d x))] w fun e w' => ∃ k2 : Int, e = .returned (.tuple #[.agg #[.int .i64 (sgn bk y), .int .i64 (sgn bk m), .int .i64 (sgn bk n), .int .i64 (sgn bk d), .int .i64 (sgn bk x)], .int .i64 0, .int .i64 k2]) ∧ Below w.heap.size w w') ∨
    (Bg y m n d x ∧ ∀ w, Hd w → Calls Tryz.prog 15 #[.string (stx bk (pbody y m n d x))] w fun e w' => ∃ k2 : Int, e = .returned (.tuple #[.agg #[.int .i64 0, .int .i64 0, .int .i64 0, .int .i64 0, .int .i64 0], .int .i64 6, .int .i64 k2]) ∧ Below w.heap.size w w') := by
  have hsz := pbody_size y m n d x h1 h2 h3 h4 h5
  have hS : (stx bk (pbody y m n d x)).size ≤ 1000000000 := by
    unfold stx; split
    · rw [ByteArray.size_append]; have : (⟨#[45]⟩ : ByteArray).size = 1 := rfl; omega
    · omega
  have hend : (stx bk (pbody y m n d x)).size = (if bk then 1 else 0) + (pbody y m n d x).size := by
    unfold stx; cases bk
    · simp
    · rw [if_pos rfl, if_pos rfl, ByteArray.size_append]; rfl
  have hfirst : ∃ L, (pbody y m n d x).data.toList = 80 :: L := by
    by_cases h0 : x = 0
    · subst h0; exact ⟨_, pbody_days y m n d⟩
    · exact ⟨_, pbody_secs y m n d x h0⟩
  have hseg : Tx.Seg (stx bk (pbody y m n d x)) (if bk then 1 else 0) (pbody y m n d x).data.toList := by
    cases bk
    · exact Tx.Seg.whole _
    · exact ⟨[45], [], by unfold stx; rw [if_pos rfl, Tx.data_app]; simp, rfl⟩
  have hnx : Nx (stx bk (pbody y m n d x)) 0 45 bk := by
    obtain ⟨L, hL⟩ := hfirst
    cases bk
    · have : Tx.Seg (stx false (pbody y m n d x)) 0 (80 :: L) := by rw [← hL]; exact hseg
      exact Nx.no this (by decide)
    · have : Tx.Seg (stx true (pbody y m n d x)) 0 (45 :: (80 :: L)) := ⟨[], [], by unfold stx; rw [if_pos rfl, Tx.data_app, hL]; simp, rfl⟩
      exact Nx.yes this
  have hp := fun b W hW => rperiod_any b (stx bk (pbody y m n d x)) (if bk then 1 else 0) y m n d x W hW hS hseg hend hz
  by_cases hb : Bg y m n d x
  · right
    refine ⟨hb, fun w hw => ?_⟩
    refine ppp_gen _ 0 0 0 0 0 6 (fun B => .iface 92 (.pointer (some ⟨B, 0, none⟩))) AtB (fun B X X' h g => h.later g) w hw (fun W => ?_) (fun B X hX hA => tell_at B X hX hA.1) (fun B X hX hA => ?_)
    · refine (pperiod_err _ bk W hS hnx (fun b V hV => (hp b V hV).mono fun e w' g => ?_)).mono fun e w' ⟨B, he, hA, _, hB⟩ => ⟨B, he, hA, hB⟩
      rcases g with ⟨g, _⟩ | ⟨_, g⟩
      · exact absurd hb g
      · exact g
    · obtain ⟨_, ⟨k, hk⟩, _⟩ := hA
      exact (where_at B k X hX hk).mono fun e w' ⟨he, hB⟩ => ⟨k, he, hB⟩
  · left
    intro w hw
    have hpo := pperiod_ok (stx bk (pbody y m n d x)) bk (stx bk (pbody y m n d x)).size y m n d x
    refine ppp_gen _ _ _ _ _ _ 0 (fun _ => .nilIface) (fun _ _ => True) (fun _ _ _ _ _ => trivial) w hw (fun W => ?_) (fun B X hX _ => tell_nil X) (fun B X hX _ => (where_nil X).mono fun e w' ⟨he, hB⟩ => ⟨-1, he, hB⟩)
    refine (hpo W hS (Nat.le_refl _) hnx (by omega) (by omega) (by omega) (by omega) (by omega) (fun b V hV => (hp b V hV).mono fun e w' g => ?_)).mono fun e w' ⟨he, hB⟩ => ⟨0, ?_, trivial, hB⟩
    · rcases g with ⟨_, g⟩ | ⟨g, _⟩
      · exact g
      · exact absurd g hb
    · rw [he]; cases bk <;> simp [sgn]
end Go.Proofs.YtcffomellimmiaaGreatDoor
