/- A stamp's text is read as the stamp. -/
import Derived.Test.YtafaacliphdndaaGreatDoorMClockBack37
import Derived.Test.YtafaacliphdndaaGreatDoorMClockBack41
import Derived.Test.YtafaacliphdndaaGreatDoorMClockBack36
import Derived.Test.YtafaacliphdndaaGreatDoorMClockBack38
import Derived.Test.YtafaacliphdndaaGreatDoorMClockBack35
namespace Go.Proofs.YtafaacliphdndaaGreatDoor
open Go.RowKit Go.Shelf
set_option linter.unusedVariables false
set_option linter.unusedSimpArgs false

def opt (v : Nat) : Option Nat := if v = 0 then none else some v
theorem opt_val (v : Nat) : (opt v).getD 0 = v := by unfold opt; split <;> simp [*]
theorem opt_ptL (v : Nat) (c : UInt8) : (pt v c).data.toList = ptL (opt v) c := by
  unfold pt opt
  split
  · simp [ptL]
  · rw [Tx.data_app]; simp [ptL]
theorem pbody_days (y m n d : Nat) : (pbody y m n d 0).data.toList = 80 :: segL (ps1 (opt y) (opt m) (opt n) (opt d)) := by
  unfold pbody
  rw [if_pos rfl]
  simp only [Tx.data_app, opt_ptL, ps1, segL]
  simp
theorem pbody_secs (y m n d s : Nat) (h : s ≠ 0) : (pbody y m n d s).data.toList = 80 :: (segL (ps1 (opt y) (opt m) (opt n) (opt d)) ++ 84 :: segL (ps2 (opt (s / 3600)) (opt (s % 3600 / 60)) (opt (s % 60)))) := by
  unfold pbody
  rw [if_neg h]
  simp only [Tx.data_app, opt_ptL, ps1, ps2, segL]
  simp
theorem ptL_ne (v : Nat) (c : UInt8) (h : v ≠ 0) : ptL (opt v) c ≠ [] := by
  unfold opt; rw [if_neg h]; simp [ptL]
theorem segL_ne1 (y m n d : Nat) (h : ¬ (y = 0 ∧ m = 0 ∧ n = 0 ∧ d = 0)) : segL (ps1 (opt y) (opt m) (opt n) (opt d)) ≠ [] := by
  intro e
  simp only [ps1, segL, List.append_eq_nil_iff] at e
  obtain ⟨e1, e2, e3, e4, _⟩ := e
  apply h
  refine ⟨?_, ?_, ?_, ?_⟩
  · exact Classical.byContradiction fun g => ptL_ne _ _ g e1
  · exact Classical.byContradiction fun g => ptL_ne _ _ g e2
  · exact Classical.byContradiction fun g => ptL_ne _ _ g e3
  · exact Classical.byContradiction fun g => ptL_ne _ _ g e4
theorem segL_ne2 (a b c : Nat) (h : ¬ (a = 0 ∧ b = 0 ∧ c = 0)) : segL (ps2 (opt a) (opt b) (opt c)) ≠ [] := by
  intro e
  simp only [ps2, segL, List.append_eq_nil_iff] at e
  obtain ⟨e1, e2, e3, _⟩ := e
  apply h
  refine ⟨?_, ?_, ?_⟩
  · exact Classical.byContradiction fun g => ptL_ne _ _ g e1
  · exact Classical.byContradiction fun g => ptL_ne _ _ g e2
  · exact Classical.byContradiction fun g => ptL_ne _ _ g e3
theorem opt_some {v x : Nat} (h : opt v = some x) : v = x := by
  unfold opt at h; split at h
  · cases h
  · exact Option.some.inj h
/-- has a part of a period's text more than eight digits? -/
def Bg (y m n d s : Nat) : Prop := 99999999 < y ∨ 99999999 < m ∨ 99999999 < n ∨ 99999999 < d ∨ 99999999 < s / 3600
theorem big1 {y m n d : Nat} (s : Nat) (h : ∃ p ∈ ps1 (opt y) (opt m) (opt n) (opt d), ∃ v, p.1 = some v ∧ 99999999 < v) : Bg y m n d s := by
  obtain ⟨p, hp, v, hv, hb⟩ := h
  simp only [ps1, List.mem_cons, List.not_mem_nil, or_false] at hp
  unfold Bg
  rcases hp with rfl | rfl | rfl | rfl <;> have := opt_some hv <;> omega
theorem big2 {y m n d s : Nat} (h : ∃ p ∈ ps1 (opt y) (opt m) (opt n) (opt d) ++ ps2 (opt (s / 3600)) (opt (s % 3600 / 60)) (opt (s % 60)), ∃ v, p.1 = some v ∧ 99999999 < v) : Bg y m n d s := by
  obtain ⟨p, hp, v, hv, hb⟩ := h
  rw [List.mem_append] at hp
  rcases hp with hp | hp
  · exact big1 s ⟨p, hp, v, hv, hb⟩
  · simp only [ps2, List.mem_cons, List.not_mem_nil, or_false] at hp
    unfold Bg
    rcases hp with rfl | rfl | rfl <;> have := opt_some hv <;> omega
/-- the reader's period, at a period's text -/
theorem rperiod_any (b : Nat) (s : ByteArray) (k y m n d x : Nat) (W : World) (h : Rd b s k W) (hs : s.size ≤ 1000000000) (hT : Tx.Seg s k (pbody y m n d x).data.toList) (hend : s.size = k + (pbody y m n d x).size) (hz : ¬ (y = 0 ∧ m = 0 ∧ n = 0 ∧ d = 0 ∧ x = 0)) :
    Calls Tryz.prog 66 #[.pointer (some ⟨b, 0, none⟩)] W fun e w' =>
      (¬ Bg y m n d x ∧ e = .returned (.tuple #[.agg #[.int .i64 y, .int .i64 m, .int .i64 n, .int .i64 d, .int .i64 x], .nilIface]) ∧ Rd b s s.size w' ∧ Mv b W w') ∨ (Bg y m n d x ∧ PErr b W e w') := by
  rw [Tx.size_len (pbody y m n d x)] at hend
  by_cases h0 : x = 0
  · subst h0
    rw [pbody_days] at hT hend
    rw [List.length_cons] at hend
    have he : k + 1 + (segL (ps1 (opt y) (opt m) (opt n) (opt d))).length = s.size := by omega
    have hne := segL_ne1 y m n d (fun g => hz ⟨g.1, g.2.1, g.2.2.1, g.2.2.2, rfl⟩)
    refine (period_days b s k (opt y) (opt m) (opt n) (opt d) W h hs hT (.inl (by omega)) (Nx.end (by omega)) hne).mono fun e w' g => ?_
    rcases g with ⟨⟨g1, g2, g3, g4⟩, g5, g6, g7⟩ | ⟨g1, g2⟩
    · left
      rw [opt_val] at g1 g2 g3 g4
      rw [he] at g6
      simp only [opt_val] at g5
      refine ⟨?_, by rw [g5]; rfl, g6, g7⟩
      unfold Bg; omega
    · exact .inr ⟨big1 _ g1, g2⟩
  · rw [pbody_secs y m n d x h0] at hT hend
    rw [List.length_cons, List.length_append, List.length_cons] at hend
    have he : k + 1 + (segL (ps1 (opt y) (opt m) (opt n) (opt d))).length + 1 + (segL (ps2 (opt (x / 3600)) (opt (x % 3600 / 60)) (opt (x % 60)))).length = s.size := by omega
    have hne := segL_ne2 (x / 3600) (x % 3600 / 60) (x % 60) (fun g => by omega)
    refine (period_secs b s k (opt y) (opt m) (opt n) (opt d) (opt (x / 3600)) (opt (x % 3600 / 60)) (opt (x % 60)) W h hs hT (.inl (by omega)) hne).mono fun e w' g => ?_
    rcases g with ⟨⟨⟨g1, g2, g3, g4⟩, g8⟩, g5, g6, g7⟩ | ⟨g1, g2⟩
    · left
      rw [opt_val] at g1 g2 g3 g4 g8
      rw [he] at g6
      simp only [opt_val] at g5
      have hx : (3600 : Int) * ((x / 3600 : Nat) : Int) + 60 * ((x % 3600 / 60 : Nat) : Int) + ((x % 60 : Nat) : Int) = x := by omega
      rw [hx] at g5
      refine ⟨?_, g5, g6, g7⟩
      unfold Bg; omega
    · exact .inr ⟨big2 g1, g2⟩
/-- the sign ahead -/
def sgn (bk : Bool) (v : Nat) : Int := if bk then -(v : Int) else v
def stx (bk : Bool) (T : ByteArray) : ByteArray := if bk then ⟨#[45]⟩ ++ T else T
theorem ppback (bk : Bool) (y m n d x : Nat) (h1 : y ≤ 1000000000000) (h2 : m ≤ 1000000000000) (h3 : n ≤ 1000000000000) (h4 : d ≤ 1000000000000) (h5 : x ≤ 1000000000000) (hz : ¬ (y = 0 ∧ m = 0 ∧ n = 0 ∧ d = 0 ∧ x = 0)) :
    (∀ w, Hd w → Calls Tryz.prog 19 #[.string (stx bk (pbody y m n d x))] w fun e w' => ∃ k2 : Int, e = .returned (.tuple #[.agg #[.int .i64 (sgn bk y), .int .i64 (sgn bk m), .int .i64 (sgn bk n), .int .i64 (sgn bk d), .int .i64 (sgn bk x)], .int .i64 0, .int .i64 k2]) ∧ Below w.heap.size w w') ∨
    (Bg y m n d x ∧ ∀ w, Hd w → Calls Tryz.prog 19 #[.string (stx bk (pbody y m n d x))] w fun e w' => ∃ k2 : Int, e = .returned (.tuple #[.agg #[.int .i64 0, .int .i64 0, .int .i64 0, .int .i64 0, .int .i64 0], .int .i64 6, .int .i64 k2]) ∧ Below w.heap.size w w') := by
  have hsz := pbody_size y m n d x h1 h2 h3 h4 h5
  have hS : (stx bk (pbody y m n d x)).size ≤ 1000000000 := by
    unfold stx; split
    · rw [ByteArray.size_append]; have : (⟨#[45]⟩ : ByteArray).size = 1 := rfl; omega
    · omega
  have hend : (stx bk (pbody y m n d x)).size = (if bk then 1 else 0) + (pbody y m n d x).size := by
    unfold stx; cases bk
    · simp
    · rw [if_pos rfl, if_pos rfl, ByteArray.size_append]; rfl
  have hfirst : ∃ L, (pbody y m n d x).data.toList = 80 :: L := by
    by_cases h0 : x = 0
    · subst h0; exact ⟨_, pbody_days y m n d⟩
    · exact ⟨_, pbody_secs y m n d x h0⟩
  have hseg : Tx.Seg (stx bk (pbody y m n d x)) (if bk then 1 else 0) (pbody y m n d x).data.toList := by
    cases bk
    · exact Tx.Seg.whole _
    · exact ⟨[45], [], by unfold stx; rw [if_pos rfl, Tx.data_app]; simp, rfl⟩
  have hnx : Nx (stx bk (pbody y m n d x)) 0 45 bk := by
    obtain ⟨L, hL⟩ := hfirst
    cases bk
    · have : Tx.Seg (stx false (pbody y m n d x)) 0 (80 :: L) := by rw [← hL]; exact hseg
      exact Nx.no this (by decide)
    · have : Tx.Seg (stx true (pbody y m n d x)) 0 (45 :: (80 :: L)) := ⟨[], [], by unfold stx; rw [if_pos rfl, Tx.data_app, hL]; simp, rfl⟩
      exact Nx.yes this
  have hp := fun b W hW => rperiod_any b (stx bk (pbody y m n d x)) (if bk then 1 else 0) y m n d x W hW hS hseg hend hz
  by_cases hb : Bg y m n d x
  · right
    refine ⟨hb, fun w hw => ?_⟩
    refine ppp_gen _ 0 0 0 0 0 6 (fun B => .iface 106 (.pointer (some ⟨B, 0, none⟩))) AtB (fun B X X' h g => h.later g) w hw (fun W => ?_) (fun B X hX hA => tell_at B X hX hA.1) (fun B X hX hA => ?_)
    · refine (pperiod_err _ bk W hS hnx (fun b V hV => (hp b V hV).mono fun e w' g => ?_)).mono fun e w' ⟨B, he, hA, _, hB⟩ => ⟨B, he, hA, hB⟩
      rcases g with ⟨g, _⟩ | ⟨_, g⟩
      · exact absurd hb g
      · exact g
    · obtain ⟨_, ⟨k, hk⟩, _⟩ := hA
      exact (where_at B k X hX hk).mono fun e w' ⟨he, hB⟩ => ⟨k, he, hB⟩
  · left
    intro w hw
    have hpo := pperiod_ok (stx bk (pbody y m n d x)) bk (stx bk (pbody y m n d x)).size y m n d x
    refine ppp_gen _ _ _ _ _ _ 0 (fun _ => .nilIface) (fun _ _ => True) (fun _ _ _ _ _ => trivial) w hw (fun W => ?_) (fun B X hX _ => tell_nil X) (fun B X hX _ => (where_nil X).mono fun e w' ⟨he, hB⟩ => ⟨-1, he, hB⟩)
    refine (hpo W hS (Nat.le_refl _) hnx (by omega) (by omega) (by omega) (by omega) (by omega) (fun b V hV => (hp b V hV).mono fun e w' g => ?_)).mono fun e w' ⟨he, hB⟩ => ⟨0, ?_, trivial, hB⟩
    · rcases g with ⟨_, g⟩ | ⟨g, _⟩
      · exact g
      · exact absurd g hb
    · rw [he]; cases bk <;> simp [sgn]
end Go.Proofs.YtafaacliphdndaaGreatDoor
namespace Go.Proofs.YtafaacliphdndaaGreatDoor
open Go.RowKit Go.Shelf
set_option linter.unusedVariables false
set_option linter.unusedSimpArgs false

set_option maxHeartbeats 1600000 in
theorem pcper_gen (y m n d s k : Int) (T : ByteArray) (w : World) (hd : Hd w)
    (kc : ∀ W, Below w.heap.size w W → Calls Tryz.prog 40 #[.agg #[.int .i64 y, .int .i64 m, .int .i64 n, .int .i64 d, .int .i64 s]] W fun e w' => e = .returned (.tuple #[.string T, ev k]) ∧ Below W.heap.size W w') :
    Calls Tryz.prog 18 #[.agg #[.int .i64 y, .int .i64 m, .int .i64 n, .int .i64 d, .int .i64 s]] w fun e w' => e = .returned (.tuple #[.string T, .int .i64 k]) ∧ Below w.heap.size w w' := by
  have KT := hide (fun W hW => tell_ev k W hW)
  have KC := hide kc
  have hb0 : Below w.heap.size w (w.alloc (.cells #[.int .i64 y, .int .i64 m, .int .i64 n, .int .i64 d, .int .i64 s] 24)) := (Below.refl _ w).alloc (Nat.le_refl _) _
  clear kc
  generalize ev k = E at *
  go_enter Tryz.func18, Tryz.ntmps18
  go_wp2_with fail
  refine (KC.out _ hb0).mono ?_
  rintro e W ⟨rfl, hb⟩
  have hB := hb0.trans (hb.mono (by simp))
  clear hb hb0
  go_wp2_with fail
  refine (KT.out _ (hd.later hB)).mono ?_
  rintro e W2 ⟨rfl, hb2⟩
  go_wp2
  go_ret2
  exact ⟨rfl, hB.trans (hb2.mono hB.size)⟩
end Go.Proofs.YtafaacliphdndaaGreatDoor
namespace Go.Proofs.YtafaacliphdndaaGreatDoor
open Go.RowKit Go.Shelf
set_option linter.unusedVariables false
set_option linter.unusedSimpArgs false

theorem per_text (bk : Bool) (y m n d x : Nat) (w : World) (ht : Tab w) (h1 : y ≤ 1000000000000) (h2 : m ≤ 1000000000000) (h3 : n ≤ 1000000000000) (h4 : d ≤ 1000000000000) (h5 : x ≤ 1000000000000) (hz : ¬ (y = 0 ∧ m = 0 ∧ n = 0 ∧ d = 0 ∧ x = 0)) :
    Calls Tryz.prog 40 #[.agg #[.int .i64 (sgn bk y), .int .i64 (sgn bk m), .int .i64 (sgn bk n), .int .i64 (sgn bk d), .int .i64 (sgn bk x)]] w fun e w' => e = .returned (.tuple #[.string (stx bk (pbody y m n d x)), .nilIface]) ∧ Below w.heap.size w w' := by
  cases bk
  · simp only [sgn, stx, Bool.false_eq_true, if_false]
    refine ptext_loop y m n d x _ _ w ht (by omega) (by omega) (by omega) (by omega) (by omega) (by omega) ?_ ?_ ?_
    · intro g; exfalso; unfold Neg at g; omega
    · intro g; exfalso; unfold Neg at g; omega
    · intro _; exact ⟨by simp only [Int.toNat_natCast], rfl⟩
  · simp only [sgn, stx, if_true]
    refine ptext_loop (-y) (-m) (-n) (-d) (-x) _ _ w ht (by omega) (by omega) (by omega) (by omega) (by omega) (by omega) ?_ ?_ ?_
    · intro _ g; exfalso; unfold Pos at g; omega
    · intro _ _; exact ⟨by simp only [Int.neg_neg, Int.toNat_natCast], rfl⟩
    · intro g; exfalso; unfold Neg at g; omega
end Go.Proofs.YtafaacliphdndaaGreatDoor
namespace Go.Proofs.YtafaacliphdndaaGreatDoor
open Go.RowKit Go.Shelf
set_option linter.unusedVariables false
set_option linter.unusedSimpArgs false

theorem zero_back (w : World) (hw : Hd w) : Calls Tryz.prog 19 #[.string ⟨#[80, 84, 48, 83]⟩] w fun e w' => ∃ k2 : Int, e = .returned (.tuple #[.agg #[.int .i64 0, .int .i64 0, .int .i64 0, .int .i64 0, .int .i64 0], .int .i64 0, .int .i64 k2]) ∧ Below w.heap.size w w' := by
  have hl : segL (ps2 none none (some 0)) = [48, 83] := by simp [segL, ps2, ptL, Lib.decDigits]
  have hl0 : segL (ps1 none none none none) = [] := by simp [segL, ps1, ptL]
  have hseg : Tx.Seg ⟨#[80, 84, 48, 83]⟩ 0 (80 :: (segL (ps1 none none none none) ++ 84 :: segL (ps2 none none (some 0)))) := by
    rw [hl, hl0]; exact Tx.Seg.whole ⟨#[80, 84, 48, 83]⟩
  have hnx : Nx ⟨#[80, 84, 48, 83]⟩ 0 45 false := Nx.no hseg (by decide)
  have hp := fun b W hW => period_secs b ⟨#[80, 84, 48, 83]⟩ 0 none none none none none none (some 0) W hW (by decide) hseg (.inl (by rw [hl, hl0]; decide)) (by rw [hl]; decide)
  have hpo := pperiod_ok ⟨#[80, 84, 48, 83]⟩ false 4 0 0 0 0 0
  refine ppp_gen _ _ _ _ _ _ 0 (fun _ => .nilIface) (fun _ _ => True) (fun _ _ _ _ _ => trivial) w hw (fun W => ?_) (fun B X hX _ => tell_nil X) (fun B X hX _ => (where_nil X).mono fun e w' ⟨he, hB⟩ => ⟨-1, he, hB⟩)
  refine (hpo W (by decide) (by decide) hnx (by omega) (by omega) (by omega) (by omega) (by omega) (fun b V hV => (hp b V hV).mono fun e w' g => ?_)).mono fun e w' ⟨he, hB⟩ => ⟨0, by rw [he]; rfl, trivial, hB⟩
  rcases g with ⟨_, g5, g6, g7⟩ | ⟨g, _⟩
  · rw [hl, hl0] at g6
    exact ⟨by rw [g5]; rfl, g6, g7⟩
  · exfalso
    obtain ⟨p, hp, v, hv, hb⟩ := g
    simp only [ps1, ps2, List.cons_append, List.nil_append, List.mem_cons, List.not_mem_nil, or_false] at hp
    rcases hp with rfl | rfl | rfl | rfl | rfl | rfl | rfl <;> simp at hv <;> omega
end Go.Proofs.YtafaacliphdndaaGreatDoor
namespace Go.Proofs.YtafaacliphdndaaGreatDoor
open Go.RowKit Go.Shelf
set_option linter.unusedVariables false
set_option linter.unusedSimpArgs false

theorem date_day (day y m d : Int) (d1 : -4000000 ≤ day) (d2 : day ≤ 4000000) (y1 : -20000 ≤ y) (y2 : y ≤ 20000) (hd : Alm.IsDate 1 day y m d) : derr 1 y m d = 0 ∧ dnum 1 y m d = day := by
  have e : dnum 1 y m d = day := by have := hd.eq; unfold dnum; omega
  have := hd.m1; have := hd.m2; have := hd.d1; have := hd.d2
  refine ⟨?_, e⟩
  unfold derr
  rw [e, if_neg (by omega), if_neg (by omega), if_neg (by omega), if_neg (by omega), if_neg (by omega)]
/-- the bytes of a time's text -/
def tL (y : Int) (M D h m x : Nat) : List UInt8 := (yL y ++ 45 :: (Tx.padL M 2 ++ 45 :: Tx.padL D 2)) ++ 84 :: cL h m x
theorem txt_data (y : Int) (M D h m x : Nat) : (Tx.txt y M D h m x).data.toList = tL y M D h m x := by
  unfold Tx.txt tL cL
  simp only [Tx.data_app, yL_data, Tx.pad_data]
  simp
theorem yL_length (y : Int) (y1 : -20000 ≤ y) (y2 : y ≤ 20000) : (yL y).length ≤ 6 := by
  rw [← yL_data, ← Tx.size_len]; exact Tx.ytx_size y y1 y2
theorem tL_length (y : Int) (M D h m x : Nat) (hM : M < 100) (hD : D < 100) (hh : h < 100) (hm : m < 100) (hx : x < 100) : (tL y M D h m x).length = (yL y).length + 6 + 1 + 8 := by
  unfold tL cL
  simp only [List.length_append, List.length_cons, Tx.padL_exact M 2 (by omega) (by omega), Tx.padL_exact D 2 (by omega) (by omega), Tx.padL_exact h 2 (by omega) (by omega), Tx.padL_exact m 2 (by omega) (by omega), Tx.padL_exact x 2 (by omega) (by omega)]
theorem seg_app (T S : ByteArray) : Tx.Seg (T ++ S) 0 (T.data.toList ++ S.data.toList) := ⟨[], [], by rw [Tx.data_app]; simp, rfl⟩

/-- the shape of a stamp's text: what stands behind its time, and what it tells -/
inductive Behind : ByteArray → Int → Int → Prop
  | none : Behind ⟨#[]⟩ 0 0
  | zulu : Behind ⟨#[90]⟩ 1 0
  | pos (k : Nat) (o : Int) (ho : o = k) (hk : k < 86400) (h6 : k % 60 = 0) : Behind (otx 43 k) 2 o
  | neg (k : Nat) (o : Int) (ho : -o = k) (hk : k < 86400) (h6 : k % 60 = 0) : Behind (otx 45 k) 2 o
theorem otx_data (sg : UInt8) (k : Nat) : (otx sg k).data.toList = sg :: (Tx.padL (k / 3600) 2 ++ 58 :: Tx.padL (k % 3600 / 60) 2) := by
  unfold otx
  simp only [Tx.data_app, Tx.pad_data]
  simp
theorem Behind.size {S : ByteArray} {z o : Int} (h : Behind S z o) : S.size ≤ 6 := by
  cases h with
  | none => decide
  | zulu => decide
  | pos k o ho hk h6 => exact Nat.le_of_eq (otx_size _ _ hk)
  | neg k o ho hk h6 => exact Nat.le_of_eq (otx_size _ _ hk)
theorem zone_back (b : Nat) (s S : ByteArray) (q : Nat) (z o : Int) (h : Behind S z o) (hs : s.size ≤ 1000000000) (hseg : Tx.Seg s q S.data.toList) (hend : s.size = q + S.size) (W : World) (hr : Rd b s q W) :
    Calls Tryz.prog 86 #[.pointer (some ⟨b, 0, none⟩), .bool true] W fun e w' => e = .returned (.tuple #[.int .i64 z, .int .i64 o, .nilIface]) ∧ Rd b s (q + S.size) w' ∧ Mv b W w' := by
  cases h with
  | none =>
    have e : (⟨#[]⟩ : ByteArray).size = 0 := rfl
    rw [e] at hend ⊢
    exact rzone_none b s q W hr hs (by omega) (Nx.end (by omega)) (Nx.end (by omega)) (Nx.end (by omega))
  | zulu =>
    exact rzone_zulu b s q W hr hs hseg
  | pos k o ho hk h6 =>
    rw [otx_data] at hseg
    have := rzone_pos b s q _ _ W hr hs hseg (by omega) (by omega)
    rw [show (3600 : Int) * ((k / 3600 : Nat) : Int) + 60 * ((k % 3600 / 60 : Nat) : Int) = o by omega] at this
    rw [otx_size _ _ hk]
    exact this
  | neg k o ho hk h6 =>
    rw [otx_data] at hseg
    have := rzone_neg b s q _ _ W hr hs hseg (by omega) (by omega)
    rw [show -((3600 : Int) * ((k / 3600 : Nat) : Int) + 60 * ((k % 3600 / 60 : Nat) : Int)) = o by omega] at this
    rw [otx_size _ _ hk]
    exact this
/-- Parse of a stamp's text -/
theorem parse_back (t y mo d z o : Int) (M D : Nat) (S : ByteArray) (t1 : -345600000000 ≤ t) (t2 : t ≤ 345600086399) (y1 : -20000 ≤ y) (y2 : y ≤ 20000) (hD : Alm.IsDate 1 (t / 86400) y mo d) (hM : mo = M) (hDD : d = D) (hMb : M < 100) (hDb : D < 100) (hS : Behind S z o) (w : World) :
    Calls Tryz.prog 38 #[.string (Tx.txt y M D ((t % 86400).toNat / 3600) ((t % 86400).toNat % 3600 / 60) ((t % 86400).toNat % 60) ++ S)] w fun e w' => e = .returned (.tuple #[.agg #[.int .i64 t, .int .i64 z, .int .i64 o], .nilIface]) ∧ Below w.heap.size w w' := by
  obtain ⟨he, hv⟩ := date_day (t / 86400) y mo d (by omega) (by omega) y1 y2 hD
  have kd := fun W => day_ok 1 y mo d W he
  rw [hv, hM, hDD] at kd
  have hh : (t % 86400).toNat / 3600 < 24 := by omega
  have hm : (t % 86400).toNat % 3600 / 60 < 60 := by omega
  have hx : (t % 86400).toNat % 60 < 60 := by omega
  have hsum : t = (t / 86400) * 86400 + (3600 * (((t % 86400).toNat / 3600 : Nat) : Int) + 60 * (((t % 86400).toNat % 3600 / 60 : Nat) : Int) + (((t % 86400).toNat % 60 : Nat) : Int)) := by omega
  generalize (t % 86400).toNat / 3600 = h at *
  generalize (t % 86400).toNat % 3600 / 60 = m at *
  generalize (t % 86400).toNat % 60 = x at *
  have hz := Tx.txt_size y M D h m x y1 y2 hMb hDb (by omega) (by omega) (by omega)
  have hz2 := hS.size
  have hsz : (Tx.txt y M D h m x ++ S).size = (yL y).length + 6 + 1 + 8 + S.size := by
    rw [ByteArray.size_append, Tx.size_len (Tx.txt y M D h m x), txt_data, tL_length y M D h m x hMb hDb (by omega) (by omega) (by omega)]
  have hseg := seg_app (Tx.txt y M D h m x) S
  rw [txt_data] at hseg
  have hsegz := hseg.right
  rw [tL_length y M D h m x hMb hDb (by omega) (by omega) (by omega)] at hsegz
  have hb := yL_length y y1 y2
  have hsN : (Tx.txt y M D h m x ++ S).size ≤ 1000000000 := by omega
  refine cparse_steps _ (0 + ((yL y).length + 6) + 1 + 8 + S.size) t z o w hsN (by omega) (fun b W hR => ?_)
  have := rstamp_any b _ 0 (0 + ((yL y).length + 6) + 1 + 8 + S.size) M D h m x y (t / 86400) z o W hR hsN hseg.left y1 y2 hMb hDb hh hm hx (by omega) (by omega) kd (fun W' hR' => zone_back b _ S _ z o hS hsN (by rw [show 0 + ((yL y).length + 6) + 1 + 8 = 0 + ((yL y).length + 6 + 1 + 8) by omega]; exact hsegz) (by omega) W' hR')
  rw [← hsum] at this
  exact this
end Go.Proofs.YtafaacliphdndaaGreatDoor
