/- PlanLeast: the law. (Written by gen/plnj.py.) -/
import Derived.Test.YtjmjabdokckdlaaDoorPlnI
namespace Go.Proofs.YtjmjabdokckdlaaDoor
open Go.RowKit Go.Shelf
set_option linter.unusedVariables false
set_option linter.unusedSimpArgs false

/-- one of 500 -/
def pk (n : Int) : Int := if n.tmod 500 < 0 then n.tmod 500 + 500 else n.tmod 500
theorem pk_bd (n : Int) : 0 ≤ pk n ∧ pk n < 500 := by
  unfold pk
  have h1 := Int.tmod_lt_of_pos n (show (0 : Int) < 500 by decide)
  have h2 : -500 < n.tmod 500 := by
    have := Int.lt_tmod_of_pos n (show (0 : Int) < 500 by decide)
    omega
  split <;> omega
theorem pick_any (n : Int) (w : World) : Calls Tryd.prog 26 #[.int .i64 n, .int .i64 500] w fun e w' => e = .returned (.int .i64 (pk n)) ∧ w' = w := by
  have hb := pk_bd n
  unfold pk at hb ⊢
  have h1 := Int.tmod_lt_of_pos n (show (0 : Int) < 500 by decide)
  by_cases h : n.tmod 500 < 0
  · rw [if_pos h] at hb ⊢
    have e1 := wrap64_id (x := n.tmod 500 + 500) (by omega) (by omega)
    go_enter Tryd.func26, Tryd.ntmps26
    go_wp2
    go_ret
    exact ⟨rfl, rfl⟩
  · rw [if_neg h] at hb ⊢
    go_enter Tryd.func26, Tryd.ntmps26
    go_wp2
    go_ret
    exact ⟨rfl, rfl⟩
/-- tasks that wait longer -/
def nbM (P : List Tk) (D : List Int) (i : Nat) : Int := if i < D.length then min 1000000 ((tk P i).nb + pk (D.getD i 0)) else (tk P i).nb
def delP (P : List Tk) (D : List Int) (m : Nat) : List Tk := (List.range m).map fun i => { tk P i with nb := nbM P D i }
theorem delP_len (P : List Tk) (D : List Int) (m : Nat) : (delP P D m).length = m := by unfold delP; rw [List.length_map, List.length_range]
theorem delP_tk (P : List Tk) (D : List Int) (m i : Nat) (h : i < m) : tk (delP P D m) i = { tk P i with nb := nbM P D i } := by
  rw [tk_at _ _ (by rw [delP_len]; exact h)]
  unfold delP
  rw [List.getElem_map, List.getElem_range]
theorem nbM_bd {P : List Tk} (h : Good P) (D : List Int) (i : Nat) (hi : i < P.length) : (tk P i).nb ≤ nbM P D i ∧ nbM P D i ≤ 1000000 := by
  have h1 := h.nb i hi
  have h2 := pk_bd (D.getD i 0)
  unfold nbM
  split <;> omega
/-- the same plan, but that tasks wait longer -/
structure Del (P Q : List Tk) : Prop where
  l : Q.length = P.length
  k : ∀ i, i < P.length → (tk Q i).len = (tk P i).len ∧ (tk Q i).links = (tk P i).links ∧ (tk Q i).uses = (tk P i).uses ∧ (tk P i).nb ≤ (tk Q i).nb ∧ (tk Q i).nb ≤ 1000000
theorem del_of {P : List Tk} (h : Good P) (D : List Int) : Del P (delP P D P.length) :=
  ⟨delP_len _ _ _, fun i hi => by rw [delP_tk P D _ i hi]; exact ⟨rfl, rfl, rfl, nbM_bd h D i hi⟩⟩
theorem Del.pasN {P Q : List Tk} (d : Del P Q) (r : List Nat) : ∀ m, m ≤ P.length → pasN Q r m = pasN P r m
  | 0, _ => rfl
  | m + 1, hm => by
    unfold Go.Proofs.YtjmjabdokckdlaaDoor.pasN
    rw [d.pasN r m (by omega)]
    unfold pas1
    rw [(d.k m (by omega)).2.1]
theorem Del.pas {P Q : List Tk} (d : Del P Q) (r : List Nat) : pas Q r = pas P r := by unfold Go.Proofs.YtjmjabdokckdlaaDoor.pas; rw [d.l]; exact d.pasN r _ (Nat.le_refl _)
theorem Del.ends {P Q : List Tk} (d : Del P Q) {r q : List Nat} (h : Ends Q r q) : Ends P r q := by
  induction h with
  | fin r hh => rw [d.pas]; exact .fin r (by rw [← d.pas]; exact hh)
  | step r q hh _ ih => exact .step r q (by rw [← d.pas]; exact hh) (by rw [← d.pas]; exact ih)
theorem Del.ends' {P Q : List Tk} (d : Del P Q) {r q : List Nat} (h : Ends P r q) : Ends Q r q := by
  induction h with
  | fin r hh => rw [← d.pas]; exact .fin r (by rw [d.pas]; exact hh)
  | step r q hh _ ih => exact .step r q (by rw [d.pas]; exact hh) (by rw [d.pas]; exact ih)
theorem Del.ord {P Q : List Tk} (d : Del P Q) : ord Q = ord P := by
  have e : (fun q => Ends Q [] q) = fun q => Ends P [] q := funext fun q => propext ⟨d.ends, d.ends'⟩
  have e' : Ends Q [] = Ends P [] := e
  exact congrArg (fun S : List Nat → Prop => @dite _ (∃ q, S q) (Classical.propDecidable _) (fun h => Classical.choose h) (fun _ => [])) e'
theorem Del.eTk {P Q : List Tk} (d : Del P Q) (h : Good P) (i : Nat) (hi : i < P.length) : eTk Q i = eTk P i := by
  obtain ⟨k1, k2, k3, k4, k5⟩ := d.k i hi
  have hn := h.nb i hi
  have e1 : okL (tk Q i).nb = true := decide_eq_true ⟨by omega, k5⟩
  have e2 : okL (tk P i).nb = true := decide_eq_true hn
  unfold Go.Proofs.YtjmjabdokckdlaaDoor.eTk
  rw [k1, k2, k3, e1, e2, d.l]
theorem Del.eTkN {P Q : List Tk} (d : Del P Q) (h : Good P) : ∀ m, m ≤ P.length → eTkN Q m = eTkN P m
  | 0, _ => rfl
  | m + 1, hm => by
    unfold Go.Proofs.YtjmjabdokckdlaaDoor.eTkN
    rw [d.eTkN h m (by omega), d.eTk h m (by omega)]
theorem Del.chk {P Q : List Tk} (d : Del P Q) (h : Good P) : chkP Q = chkP P := by
  unfold chkP
  rw [d.l, d.ord, d.eTkN h _ (Nat.le_refl _)]
theorem Del.gp {P Q : List Tk} (d : Del P Q) (h : Good P) (i : Nat) (hi : i < P.length) (x : Lk) (hx : x ∈ (tk P i).links) : gp Q i x = gp P i x := by
  have := h.link i hi x hx
  unfold Go.Proofs.YtjmjabdokckdlaaDoor.gp
  rw [(d.k i hi).1, (d.k x.t.toNat (by omega)).1]
theorem Del.fits {P Q : List Tk} (d : Del P Q) (h : Good P) (s : Sp) (hf : Fits Q s) : Fits P s := fun i hi => by
  obtain ⟨k1, k2, k3, k4, k5⟩ := d.k i hi
  obtain ⟨f1, f2, f3⟩ := hf i (by rw [d.l]; exact hi)
  refine ⟨by rw [← k1]; exact f1, Int.le_trans k4 f2, fun x hx => ?_⟩
  rw [← d.gp h i hi x hx]
  exact f3 x (by rw [k2]; exact hx)
theorem Fit.fits {P : List Tk} (h : Fit P) : Fits P (eS P) := earS_fits h.t h.l
theorem Fit.spbd {P : List Tk} (h : Fit P) : SpBd P.length (eS P) := earS_spbd h.g h.t
/-- what the law holds, of tasks that wait longer -/
theorem least_math {P Q : List Tk} (hP : Fit P) (hQ : Fit Q) (d : Del P Q) : eN P ≤ eN Q ∧ latE P (eN Q) = 0 ∧ (∀ i, i < P.length → (eS P i).1 ≤ (eS Q i).1 ∧ (eS Q i).1 ≤ (lS P (eN Q) i).1 ∧ (lS P (eN Q) i).2 ≤ eN Q ∧ -4000000000000 ≤ (lS P (eN Q) i).1) := by
  have hf := d.fits hP.g _ hQ.fits
  have hle := earS_least hP.g hP.t (fun j => (eS Q j).1) (fun i hi => ⟨(hf i hi).2.1, (hf i hi).2.2⟩)
  have hE : eN P ≤ eN Q := endS_le (eS P) (eN Q) hQ.bd.1 P.length (fun i hi => by
    have a := (hP.fits i hi).1
    have b := (hf i hi).1
    have c := hle i hi
    have e := (endS_ge (eS Q) Q.length).2 i (by rw [d.l]; exact hi)
    have e2 : eN Q = endS Q.length (eS Q) := rfl
    have e3 : eS P i = earS P (ord P) i := rfl
    rw [e3] at a ⊢
    omega)
  have hL := latS_most hP.g (eN Q) hP.t (fun j => (eS Q j).1) (fun i hi => ⟨by
    have b := (hf i hi).1
    have e := (endS_ge (eS Q) Q.length).2 i (by rw [d.l]; exact hi)
    have e2 : eN Q = endS Q.length (eS Q) := rfl
    omega, (hf i hi).2.2⟩)
  refine ⟨hE, ?_, fun i hi => ⟨hle i hi, hL i hi, ?_, ?_⟩⟩
  · have hb := hQ.bd
    have hc : chkP P = 0 := by
      unfold chkP
      have h60 := hP.g.n60
      have hz : eTkN P P.length = 0 := by
        have : ∀ m, m ≤ P.length → eTkN P m = 0 := by
          intro m
          induction m with
          | zero => intro _; rfl
          | succ m ih =>
            intro hm
            unfold eTkN
            rw [if_pos (ih (by omega))]
            unfold eTk
            have c1 : okL (tk P m).len = true := decide_eq_true (hP.g.len m (by omega))
            have c2 : okL (tk P m).nb = true := decide_eq_true (hP.g.nb m (by omega))
            rw [if_pos ⟨c1, c2, (hP.g.cnt m (by omega)).1, (hP.g.cnt m (by omega)).2⟩]
            have c3 : ∀ l : List Lk, (∀ x ∈ l, x ∈ (tk P m).links) → eLks P.length m l = 0 := by
              intro l
              induction l with
              | nil => intro _; rfl
              | cons x l ih =>
                intro hl
                have hx := hP.g.link m (by omega) x (hl x (by simp))
                have : eLk P.length m x = 0 := by
                  unfold eLk
                  rw [if_neg (by omega), if_neg (by omega), if_neg (by omega)]
                unfold eLks
                rw [if_pos this]
                exact ih fun y hy => hl y (by simp [hy])
            have c4 : ∀ l : List Int, (∀ x ∈ l, x ∈ (tk P m).uses) → eUs l = 0 := by
              intro l
              induction l with
              | nil => intro _; rfl
              | cons x l ih =>
                intro hl
                have hx : okL x = true := decide_eq_true (hP.g.use m (by omega) x (hl x (by simp)))
                unfold eUs
                rw [if_pos hx]
                exact ih fun y hy => hl y (by simp [hy])
            rw [if_pos (c3 _ fun _ h => h)]
            exact c4 _ fun _ h => h
        exact this _ (Nat.le_refl _)
      rw [if_neg (by omega), if_pos hz, if_neg (by have := hP.l; omega)]
    unfold latE
    rw [if_pos hc, if_neg (by omega), if_neg (by omega)]
  · have := (latS_shape P (eN Q) (ord P) i)
    have e : lS P (eN Q) i = latS P (eN Q) (ord P) i := rfl
    rw [e]
    omega
  · have := hL i hi
    have h0 := (earS_bd hQ.g hQ.t i).1
    have e : lS P (eN Q) i = latS P (eN Q) (ord P) i := rfl
    have e2 : eS Q i = earS Q (ord Q) i := rfl
    rw [e]
    rw [e2] at this
    omega
/-- the rows' values, told by functions -/
theorem ts_form {w : World} {v : Value} {P : List Tk} (h : TsAt w v P) : ∃ (ad : Option Addr) (c : Nat) (LV UV : Nat → Value), v = .slice ad P.length c ∧ ∀ j, j < P.length → ∃ g o, ad = some ⟨g, o, none⟩ ∧ w.cell? ⟨g, o + j * 4, none⟩ = some (.int .i64 (tk P j).len) ∧ w.cell? ⟨g, o + j * 4 + 1, none⟩ = some (.int .i64 (tk P j).nb) ∧ w.cell? ⟨g, o + j * 4 + 2, none⟩ = some (LV j) ∧ w.cell? ⟨g, o + j * 4 + 3, none⟩ = some (UV j) ∧ LsAt w (LV j) (tk P j).links ∧ NsAt w (UV j) (tk P j).uses := by
  obtain ⟨ad, c, e, hall⟩ := h
  have hx : ∀ j, ∃ x : Value × Value, j < P.length → ∃ g o, ad = some ⟨g, o, none⟩ ∧ w.cell? ⟨g, o + j * 4, none⟩ = some (.int .i64 (tk P j).len) ∧ w.cell? ⟨g, o + j * 4 + 1, none⟩ = some (.int .i64 (tk P j).nb) ∧ w.cell? ⟨g, o + j * 4 + 2, none⟩ = some x.1 ∧ w.cell? ⟨g, o + j * 4 + 3, none⟩ = some x.2 ∧ LsAt w x.1 (tk P j).links ∧ NsAt w x.2 (tk P j).uses := fun j => by
    by_cases hj : j < P.length
    · obtain ⟨g, o, lv, uv, h1, h2, h3, h4, h5, h6, h7⟩ := hall j hj
      exact ⟨(lv, uv), fun _ => ⟨g, o, h1, h2, h3, h4, h5, h6, h7⟩⟩
    · exact ⟨(.nilIface, .nilIface), fun h => absurd h hj⟩
  exact ⟨ad, c, fun j => (Classical.choose (hx j)).1, fun j => (Classical.choose (hx j)).2, e, fun j hj => Classical.choose_spec (hx j) hj⟩
/-- the row of tasks that wait longer -/
def tC (P : List Tk) (D : List Int) (LV UV : Nat → Value) : Nat → List Value
  | 0 => []
  | m + 1 => tC P D LV UV m ++ [.int .i64 (tk P m).len, .int .i64 (nbM P D m), LV m, UV m]
theorem tC_len (P : List Tk) (D : List Int) (LV UV : Nat → Value) : ∀ m, (tC P D LV UV m).length = m * 4
  | 0 => rfl
  | m + 1 => by rw [tC, List.length_append, tC_len P D LV UV m]; simp; omega
theorem tC_at (P : List Tk) (D : List Int) (LV UV : Nat → Value) : ∀ m j, j < m → (tC P D LV UV m)[j * 4]? = some (.int .i64 (tk P j).len) ∧ (tC P D LV UV m)[j * 4 + 1]? = some (.int .i64 (nbM P D j)) ∧ (tC P D LV UV m)[j * 4 + 2]? = some (LV j) ∧ (tC P D LV UV m)[j * 4 + 3]? = some (UV j)
  | m + 1, j, h => by
    have hl := tC_len P D LV UV m
    rw [tC]
    by_cases e : j = m
    · subst e
      rw [List.getElem?_append_right (by omega), List.getElem?_append_right (by omega), List.getElem?_append_right (by omega), List.getElem?_append_right (by omega), hl]
      refine ⟨?_, ?_, ?_, ?_⟩
      · rw [show j * 4 - j * 4 = 0 by omega]; rfl
      · rw [show j * 4 + 1 - j * 4 = 1 by omega]; rfl
      · rw [show j * 4 + 2 - j * 4 = 2 by omega]; rfl
      · rw [show j * 4 + 3 - j * 4 = 3 by omega]; rfl
    · rw [List.getElem?_append_left (by omega), List.getElem?_append_left (by omega), List.getElem?_append_left (by omega), List.getElem?_append_left (by omega)]
      exact tC_at P D LV UV m j (by omega)
theorem tC_ts {w X : World} {base : Nat} {v : Value} {P : List Tk} {D : List Int} {LV UV : Nat → Value} (h : X.ownsRow base 45 4 v P.length (tC P D LV UV P.length)) (hL : ∀ j, j < P.length → LsAt X (LV j) (tk P j).links) (hU : ∀ j, j < P.length → NsAt X (UV j) (tk P j).uses) : TsAt X v (delP P D P.length) := by
  have h' := h
  rcases h.2 with ⟨rfl, e⟩ | ⟨g, cap, cur, rfl, _⟩
  · exact ⟨none, 0, by rw [delP_len, e], fun j hj => by rw [delP_len] at hj; omega⟩
  · refine ⟨some ⟨g, 0, none⟩, cap, by rw [delP_len], fun j hj => ?_⟩
    rw [delP_len] at hj
    obtain ⟨e1, e2, e3, e4⟩ := tC_at P D LV UV P.length j hj
    rw [delP_tk P D _ j hj]
    refine ⟨g, 0, LV j, UV j, rfl, ?_, ?_, ?_, ?_, hL j hj, hU j hj⟩
    · rw [Nat.zero_add]; exact (h'.cellAt _ (by omega)).trans e1
    · rw [Nat.zero_add]; exact (h'.cellAt _ (by omega)).trans e2
    · rw [Nat.zero_add]; exact (h'.cellAt _ (by omega)).trans e3
    · rw [Nat.zero_add]; exact (h'.cellAt _ (by omega)).trans e4
theorem task_info : (Tryd.prog.info? 45).map (fun i => (i.zero, i.size, i.bytes)) = some (some (.agg #[.int .i64 0, .int .i64 0, .slice none 0 0, .slice none 0 0]), 4, 64) := by kernel_rfl
end Go.Proofs.YtjmjabdokckdlaaDoor
