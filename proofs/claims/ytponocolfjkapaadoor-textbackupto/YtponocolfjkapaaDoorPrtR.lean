/- package text: a part's text (mathematics). -/
import Derived.Test.YtponocolfjkapaaDoorPrtN
import Derived.Test.YtponocolfjkapaaDoorPrtF
import Derived.Test.YtponocolfjkapaaDoorFldA
namespace Go.Proofs.YtponocolfjkapaaDoor
open Go.RowKit
set_option linter.unusedVariables false
set_option linter.unusedSimpArgs false

/-- a line, folded -/
noncomputable def fld (l : List UInt8) : List UInt8 := (Tl.Fld.ex l.length l 75 (Nat.le_refl _) (by omega)).choose
theorem fld_is (l : List UInt8) : Tl.Fld 75 l (fld l) := (Tl.Fld.ex l.length l 75 (Nat.le_refl _) (by omega)).choose_spec.1
theorem fld_len (l : List UInt8) : (fld l).length ≤ 4 * l.length + 2 := (Tl.Fld.ex l.length l 75 (Nat.le_refl _) (by omega)).choose_spec.2
/-- lines, each folded -/
noncomputable def lsT : List PLn → List UInt8
  | [] => []
  | x :: ls => fld (lT x) ++ lsT ls
/-- the line that begins a part, and the one that ends it -/
def bgT (nm : ByteArray) : List UInt8 := [66, 69, 71, 73, 78, 58] ++ Tl.tx nm
def enT (nm : ByteArray) : List UInt8 := [69, 78, 68, 58] ++ Tl.tx nm
theorem bgT_len (nm : ByteArray) : (bgT nm).length = 6 + nm.size := by unfold bgT; simp only [List.length_append, Tl.tx_len, List.length_cons, List.length_nil]
theorem enT_len (nm : ByteArray) : (enT nm).length = 4 + nm.size := by unfold enT; simp only [List.length_append, Tl.tx_len, List.length_cons, List.length_nil]
mutual
/-- a part's text -/
noncomputable def ptT : PPt → List UInt8
  | .mk nm ls ks => fld (bgT nm) ++ lsT ls ++ ptsT ks ++ fld (enT nm)
noncomputable def ptsT : List PPt → List UInt8
  | [] => []
  | k :: ks => ptT k ++ ptsT ks
end
theorem lsT_step : ∀ (ls : List PLn) (k : Nat) (h : k < ls.length), lsT (ls.take (k + 1)) = lsT (ls.take k) ++ fld (lT ls[k])
  | x :: ls, 0, h => by simp [lsT]
  | x :: ls, k + 1, h => by
    have ih := lsT_step ls k (by simpa using h)
    simp only [List.take_succ_cons, lsT, List.getElem_cons_succ, ih, List.append_assoc]
theorem ptsT_step : ∀ (ks : List PPt) (k : Nat) (h : k < ks.length), ptsT (ks.take (k + 1)) = ptsT (ks.take k) ++ ptT ks[k]
  | x :: ks, 0, h => by simp [ptsT]
  | x :: ks, k + 1, h => by
    have ih := ptsT_step ks k (by simpa using h)
    simp only [List.take_succ_cons, ptsT, List.getElem_cons_succ, ih, List.append_assoc]
/-- how great things are -/
def vsz (l : List ByteArray) : Nat := (l.map (fun v => v.size + 1)).sum
def pmz (x : PPm) : Nat := x.n.size + vsz x.vs
def psz (l : List PPm) : Nat := (l.map (fun x => pmz x + 1)).sum
def lnz (x : PLn) : Nat := x.n.size + x.v.size + psz x.ps
def lsz (l : List PLn) : Nat := (l.map (fun x => lnz x + 1)).sum
mutual
def ptz : PPt → Nat
  | .mk nm ls ks => nm.size + lsz ls + ptsz ks
def ptsz : List PPt → Nat
  | [] => 0
  | k :: ks => ptz k + 1 + ptsz ks
end
theorem quo_size (v : ByteArray) : (quo v).size ≤ v.size + 2 := by
  unfold quo
  split
  · simp only [ByteArray.size_append]
    have : (⟨#[34]⟩ : ByteArray).size = 1 := rfl
    omega
  · omega
theorem vT_len : ∀ (n : Nat) (l : List ByteArray), (vT n l).length ≤ 3 * vsz l
  | _, [] => by simp [vT]
  | n, v :: l => by
    have := vT_len (n + 1) l
    have := quo_size v
    simp only [vT, vsz, List.map_cons, List.sum_cons, List.length_cons, List.length_append, Tl.tx_len] at *
    omega
theorem pT_len (x : PPm) : (pT x).length ≤ 3 * (pmz x + 1) := by
  have := vT_len 0 x.vs
  simp only [pT, pmz, List.length_cons, List.length_append, Tl.tx_len]
  omega
theorem psT_len : ∀ (l : List PPm), (psT l).length ≤ 3 * psz l
  | [] => by simp [psT]
  | x :: l => by
    have := psT_len l
    have := pT_len x
    simp only [psT, psz, List.map_cons, List.sum_cons, List.flatten_cons, List.length_append] at *
    omega
theorem lT_len (x : PLn) : (lT x).length ≤ 3 * lnz x + 1 := by
  have := psT_len x.ps
  simp only [lT, lnz, List.length_cons, List.length_append, Tl.tx_len]
  omega
theorem lsT_len : ∀ (l : List PLn), (lsT l).length ≤ 12 * lsz l
  | [] => by simp [lsT]
  | x :: l => by
    have := lsT_len l
    have := lT_len x
    have := fld_len (lT x)
    simp only [lsT, lsz, List.map_cons, List.sum_cons, List.length_append] at *
    omega
theorem lnz_le : ∀ (l : List PLn) (k : Nat) (h : k < l.length), lnz l[k] ≤ lsz l
  | x :: l, 0, h => by simp only [lsz, List.map_cons, List.sum_cons, List.getElem_cons_zero]; omega
  | x :: l, k + 1, h => by
    have := lnz_le l k (by simpa using h)
    simp only [lsz, List.map_cons, List.sum_cons, List.getElem_cons_succ] at *
    omega
theorem ptz_le : ∀ (l : List PPt) (k : Nat) (h : k < l.length), ptz l[k] ≤ ptsz l
  | x :: l, 0, h => by simp only [ptsz, List.getElem_cons_zero]; omega
  | x :: l, k + 1, h => by
    have := ptz_le l k (by simpa using h)
    simp only [ptsz, List.getElem_cons_succ] at *
    omega
mutual
theorem ptT_len : ∀ t, (ptT t).length ≤ 44 * (ptz t + 1)
  | .mk nm ls ks => by
    have h1 := fld_len (bgT nm)
    have h2 := fld_len (enT nm)
    have h3 := lsT_len ls
    have h4 := ptsT_len ks
    have e1 := bgT_len nm
    have e2 := enT_len nm
    simp only [ptT, ptz, List.length_append]
    omega
theorem ptsT_len : ∀ ks, (ptsT ks).length ≤ 44 * ptsz ks
  | [] => by simp [ptsT]
  | k :: ks => by
    have h1 := ptT_len k
    have h2 := ptsT_len ks
    simp only [ptsT, ptsz, List.length_append]
    omega
end
theorem lsT_le (ls : List PLn) (k : Nat) : (lsT (ls.take k)).length ≤ (lsT ls).length := by
  induction ls generalizing k with
  | nil => simp
  | cons x ls ih =>
    cases k with
    | zero => simp [lsT]
    | succ k => have := ih k; simp only [List.take_succ_cons, lsT, List.length_append]; omega
theorem ptsT_le (ks : List PPt) (k : Nat) : (ptsT (ks.take k)).length ≤ (ptsT ks).length := by
  induction ks generalizing k with
  | nil => simp
  | cons x ks ih =>
    cases k with
    | zero => simp [ptsT]
    | succ k => have := ih k; simp only [List.take_succ_cons, ptsT, List.length_append]; omega
end Go.Proofs.YtponocolfjkapaaDoor
