/- plan: tasks in memory; isLength, haveAll. -/
import Derived.Test.YtjmjabdokckdlaaDoorPlnM
import Derived.Test.YtjmjabdokckdlaaDoorTell
import Derived.Test.YtjmjabdokckdlaaDoorBase
namespace Go.Proofs.YtjmjabdokckdlaaDoor
open Go.RowKit
set_option linter.unusedVariables false
set_option linter.unusedSimpArgs false

/-- a slice of numbers -/
def NsAt (w : World) (v : Value) (zs : List Int) : Prop := ∃ ad c, v = .slice ad zs.length c ∧ ∀ j, j < zs.length → ∃ g o, ad = some ⟨g, o, none⟩ ∧ w.cell? ⟨g, o + j, none⟩ = some (.int .i64 (zs.getD j 0))
theorem NsAt.below {w w' : World} {v : Value} {zs : List Int} (h : NsAt w v zs) (hB : Below w.heap.size w w') : NsAt w' v zs := by
  obtain ⟨ad, c, rfl, hj⟩ := h
  refine ⟨ad, c, rfl, fun j hl => ?_⟩
  obtain ⟨g, o, e, hc⟩ := hj j hl
  exact ⟨g, o, e, (hB.cell (World.block_lt_of_cell? w _ hc)).trans hc⟩
def lk (l : List Lk) (j : Nat) : Lk := l.getD j ⟨0, 0, 0⟩
theorem lk_at (l : List Lk) (j : Nat) (h : j < l.length) : lk l j = l[j] := by unfold lk; rw [List.getD_eq_getElem?_getD, List.getElem?_eq_getElem h]; rfl
theorem lk_mem (l : List Lk) (j : Nat) (h : j < l.length) : lk l j ∈ l := by rw [lk_at l j h]; exact List.getElem_mem h
/-- a slice of links -/
def LsAt (w : World) (v : Value) (l : List Lk) : Prop := ∃ ad c, v = .slice ad l.length c ∧ ∀ j, j < l.length → ∃ g o, ad = some ⟨g, o, none⟩ ∧ w.cell? ⟨g, o + j * 3, none⟩ = some (.int .i64 (lk l j).t) ∧ w.cell? ⟨g, o + j * 3 + 1, none⟩ = some (.int .i64 (lk l j).k) ∧ w.cell? ⟨g, o + j * 3 + 2, none⟩ = some (.int .i64 (lk l j).g)
theorem LsAt.below {w w' : World} {v : Value} {l : List Lk} (h : LsAt w v l) (hB : Below w.heap.size w w') : LsAt w' v l := by
  obtain ⟨ad, c, rfl, hj⟩ := h
  refine ⟨ad, c, rfl, fun j hl => ?_⟩
  obtain ⟨g, o, e, h0, h1, h2⟩ := hj j hl
  exact ⟨g, o, e, (hB.cell (World.block_lt_of_cell? w _ h0)).trans h0, (hB.cell (World.block_lt_of_cell? w _ h1)).trans h1, (hB.cell (World.block_lt_of_cell? w _ h2)).trans h2⟩
/-- a slice of tasks -/
def TsAt (w : World) (v : Value) (P : List Tk) : Prop := ∃ ad c, v = .slice ad P.length c ∧ ∀ j, j < P.length → ∃ g o lv uv, ad = some ⟨g, o, none⟩ ∧ w.cell? ⟨g, o + j * 4, none⟩ = some (.int .i64 (tk P j).len) ∧ w.cell? ⟨g, o + j * 4 + 1, none⟩ = some (.int .i64 (tk P j).nb) ∧ w.cell? ⟨g, o + j * 4 + 2, none⟩ = some lv ∧ w.cell? ⟨g, o + j * 4 + 3, none⟩ = some uv ∧ LsAt w lv (tk P j).links ∧ NsAt w uv (tk P j).uses
theorem TsAt.below {w w' : World} {v : Value} {P : List Tk} (h : TsAt w v P) (hB : Below w.heap.size w w') : TsAt w' v P := by
  obtain ⟨ad, c, rfl, hj⟩ := h
  refine ⟨ad, c, rfl, fun j hl => ?_⟩
  obtain ⟨g, o, lv, uv, e, h0, h1, h2, h3, hl, hu⟩ := hj j hl
  exact ⟨g, o, lv, uv, e, (hB.cell (World.block_lt_of_cell? w _ h0)).trans h0, (hB.cell (World.block_lt_of_cell? w _ h1)).trans h1, (hB.cell (World.block_lt_of_cell? w _ h2)).trans h2, (hB.cell (World.block_lt_of_cell? w _ h3)).trans h3, hl.below hB, hu.below hB⟩
/-- a row of marks from a block's beginning on -/
def BoAt (q n : Nat) (st : Nat → Bool) (w : World) : Prop := ∀ t, t < n → w.cell? ⟨q, t, none⟩ = some (.bool (st t))
theorem BoAt.below {w w' : World} {q n : Nat} {st : Nat → Bool} (h : BoAt q n st w) (hB : Below w.heap.size w w') : BoAt q n st w' := fun t ht => (hB.cell (World.block_lt_of_cell? w _ (h t ht))).trans (h t ht)
/-- what is told: nothing, or a number -/
def eP (k : Int) : Value := if k = 0 then .nilIface else .iface 24 (.int .i64 k)
theorem tell_eP (k : Int) (W : World) (hW : Hd W) : Calls Tryd.prog 28 #[eP k] W fun e w' => e = .returned (.int .i64 k) ∧ Below W.heap.size W w' := by
  unfold eP
  split
  · rename_i h; subst h; exact tell_nil W
  · exact tell_err k W hW
def okL (n : Int) : Bool := decide (0 ≤ n ∧ n ≤ 1000000)
theorem isLen_any (n : Int) (w : World) : Calls Tryd.prog 66 #[.int .i64 n] w fun e w' => e = .returned (.bool (okL n)) ∧ w' = w := by
  unfold okL
  by_cases h : 0 ≤ n
  · by_cases h2 : n ≤ 1000000
    · go_enter Tryd.func66, Tryd.ntmps66
      go_wp2
      go_ret
      exact ⟨ret_bool (by simp; omega), rfl⟩
    · go_enter Tryd.func66, Tryd.ntmps66
      go_wp2
      go_ret
      exact ⟨ret_bool (by simp; omega), rfl⟩
  · go_enter Tryd.func66, Tryd.ntmps66
    go_wp2
    go_ret
    exact ⟨ret_bool (by simp; omega), rfl⟩
theorem hav_take (st : Nat → Bool) (l : List Lk) (m : Nat) (h : m < l.length) : hav st (l.take (m + 1)) = (hav st (l.take m) && st (lk l m).t.toNat) := by
  unfold hav
  rw [List.take_succ_eq_append_getElem h, List.all_append, lk_at l m h]
  simp
theorem hav_false {st : Nat → Bool} {l : List Lk} {m : Nat} (h : hav st (l.take m) = false) : hav st l = false := by
  cases e : hav st l with
  | false => rfl
  | true =>
    rw [show hav st (l.take m) = true from List.all_eq_true.2 fun x hx => List.all_eq_true.1 e x (List.mem_of_mem_take hx)] at h
    cases h
set_option maxHeartbeats 2000000 in
theorem haveAll_any (q n : Nat) (st : Nat → Bool) (c : Nat) (l : List Lk) (v : Value) (w : World) (hl : LsAt w v l) (hn : ∀ x ∈ l, 0 ≤ x.t ∧ x.t < (n : Int)) (hs : BoAt q n st w) (h60 : l.length ≤ 60) :
    Calls Tryd.prog 67 #[v, .slice (some ⟨q, 0, none⟩) n c] w fun e w' => e = .returned (.bool (hav st l)) ∧ Below w.heap.size w w' := by
  obtain ⟨ad, cap, rfl, hall⟩ := hl
  have HALL := hide hall
  have HS := hide hs
  have HN := hide hn
  clear hall hs hn
  go_enter Tryd.func67, Tryd.ntmps67
  go_wp2_with fail
  go_loopw [9] (fun i wr => ∃ m : Nat, m ≤ l.length ∧ i = .int .i64 m ∧ hav st (l.take m) = true ∧ Below w.heap.size w wr) (fun i _ => l.length - (intOf i).toNat)
  case atStart => exact ⟨0, by omega, rfl, rfl, Below.refl _ _⟩
  case round =>
    obtain ⟨m, hm, rfl, hh, hB⟩ := hrel
    by_cases hlt : m < l.length
    · have hmi : (m : Int) < (l.length : Int) := by omega
      obtain ⟨g, o, rfl, h0, h1, h2⟩ := HALL.out m hlt
      have hx := HN.out _ (lk_mem l m hlt)
      have hs := HS.out (lk l m).t.toNat (by omega)
      have hy0 := (hB.cell (World.block_lt_of_cell? w _ h0)).trans h0
      have hy1 := (hB.cell (World.block_lt_of_cell? w _ h1)).trans h1
      have hy2 := (hB.cell (World.block_lt_of_cell? w _ h2)).trans h2
      have hys := (hB.cell (World.block_lt_of_cell? w _ hs)).trans hs
      have hq : q < wr.heap.size := World.block_lt_of_cell? wr _ hys
      have hst := hav_take st l m hlt
      rw [hh, Bool.true_and] at hst
      obtain ⟨t, ht⟩ : ∃ t : Nat, (lk l m).t = (t : Int) := ⟨(lk l m).t.toNat, by omega⟩
      rw [ht, Int.toNat_natCast] at hys hst
      rw [ht] at hy0 hx
      clear hs h0 h1 h2
      have HB := hide hB
      clear hB
      cases hv : st t with
      | true =>
        rw [hv] at hys hst
        go_wp2_with fail
        go_roundw
        case rel => exact ⟨m + 1, by omega, by go_num, hst, HB.out.alloc HB.out.size _⟩
        case measure => simp [intOf]; omega
      | false =>
        rw [hv] at hys hst
        go_wp2_with fail
        go_ret
        exact ⟨ret_bool (hav_false hst).symm, HB.out.alloc HB.out.size _⟩
    · obtain rfl : m = l.length := by omega
      rw [List.take_length] at hh
      have HB := hide hB
      clear hB
      go_wp2_with fail
      go_ret
      exact ⟨ret_bool hh.symm, HB.out⟩
end Go.Proofs.YtjmjabdokckdlaaDoor
