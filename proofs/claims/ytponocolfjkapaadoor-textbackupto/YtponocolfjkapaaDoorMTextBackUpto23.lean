/- package text: the reader's upTo. -/
import Derived.Test.YtponocolfjkapaaDoorMTextBackUpto21
import Derived.Test.YtponocolfjkapaaDoorMTextBackUpto22
import Derived.BigRegion
namespace Go.Proofs.YtponocolfjkapaaDoor
open Go.RowKit Go.Shelf
set_option linter.unusedVariables false
set_option linter.unusedSimpArgs false

/-- a reader's box -/
def RdB (W : World) (B : Nat) (rest : ByteArray) (mk : Int) : Prop := W.heap[B]? = some (.cells #[.string rest, .int .u8 mk] 126 (0, 0))
theorem RdB.lt {W : World} {B : Nat} {rest : ByteArray} {mk : Int} (h : RdB W B rest mk) : B < W.heap.size := (Array.getElem?_eq_some_iff.1 h).1
theorem RdB.cells {W : World} {B : Nat} {rest : ByteArray} {mk : Int} (h : RdB W B rest mk) : W.cell? ⟨B, 0, none⟩ = some (.string rest) ∧ W.cell? ⟨B, 1, none⟩ = some (.int .u8 mk) :=
  ⟨cell_of_row _ _ _ _ _ (0, 0) h, cell_of_row _ _ _ _ _ (0, 0) h⟩
theorem RdB.frozen {W : World} {B : Nat} {rest : ByteArray} {mk : Int} (h : RdB W B rest mk) (k : Nat) : W.frozen? ⟨B, k, none⟩ = false := by
  unfold World.frozen?
  have e : W.heap[B]? = some (.cells #[.string rest, .int .u8 mk] 126 (0, 0)) := h
  simp only [e]
  simp
theorem RdB.later {W W' : World} {B : Nat} {rest : ByteArray} {mk : Int} (h : RdB W B rest mk) (hb : Below W.heap.size W W') : RdB W' B rest mk := (hb.block B h.lt).trans h
theorem RdB.set0 {W : World} {B : Nat} {rest : ByteArray} {mk : Int} (h : RdB W B rest mk) (s : ByteArray) : RdB (W.setCell ⟨B, 0, none⟩ (.string s)) B s mk := by
  unfold RdB at *
  rw [setCell_eq_setRow W B 0 _ _ _ _ h]
  exact setRow_heap W B _ _ _ _ h
theorem RdB.set1 {W : World} {B : Nat} {rest : ByteArray} {mk : Int} (h : RdB W B rest mk) (k : Int) : RdB (W.setCell ⟨B, 1, none⟩ (.int .u8 k)) B rest k := by
  unfold RdB at *
  rw [setCell_eq_setRow W B 1 _ _ _ _ h]
  exact setRow_heap W B _ _ _ _ h
theorem KB.put {B : Nat} {w w' : World} (h : KB B w w') (o : Nat) (v : Value) : KB B w (w'.setCell ⟨B, o, none⟩ v) :=
  ⟨h.os, h.tape, h.output, Nat.le_trans h.size (KeepsWalks.setCell _ _ _).size, fun k hk hne => (Below.heap_setCell _ _ _ k (fun e => hne e)).trans (h.block k hk hne)⟩
theorem KB.drew {B : Nat} {w w' : World} (h : KB B w w') : KB B w w'.drew := ⟨h.os, h.tape, h.output, h.size, h.block⟩
set_option maxRecDepth 100000 in
set_option maxHeartbeats 8000000 in
theorem upTo_any (E : ByteArray) (hE : Asc E) (hz : E.size = 1 ∨ E.size = 2 ∨ E.size = 3) (a b : List UInt8) (c : UInt8) (rest : ByteArray) (hr : Tl.tx rest = a ++ c :: b) (hc : isM E c = true) (ha : ∀ x ∈ a, isM E x = false) (mk : Int) (B : Nat) (w : World) (hB : RdB w B rest mk) (hs : rest.size ≤ 1000000000) :
    Calls Tryd.prog 66 #[.pointer (some ⟨B, 0, none⟩), .string E] w fun e w' => e = .returned (.tuple #[.string (Tl.str a), .bool true]) ∧ RdB w' B (Tl.str b) c.toNat ∧ KB B w w' := by
  obtain ⟨n, hn⟩ : ∃ n, n = a.length := ⟨_, rfl⟩
  have hl : rest.size = n + (b.length + 1) := by rw [← Tl.tx_len, hr, List.length_append, List.length_cons, hn]
  have hlt : n < rest.size := by omega
  have hat : rest[n] = c := by
    have : (Tl.tx rest)[n]? = some c := by rw [hr, hn, List.getElem?_append_right (Nat.le_refl _)]; simp
    rw [List.getElem?_eq_getElem (by rw [Tl.tx_len]; omega)] at this
    exact Option.some.inj this
  have K := hide (fun W => indexAny_hit E hE hz rest n hlt (by rw [hat]; exact hc) (fun k hk hka => by
    rw [hn] at hka
    have e : (Tl.tx rest)[k]? = a[k]? := by rw [hr, List.getElem?_append_left hka]
    rw [List.getElem?_eq_getElem (by rw [Tl.tx_len]; exact hk), List.getElem?_eq_getElem hka] at e
    have e2 : rest[k] = a[k] := Option.some.inj e
    rw [e2]
    exact ha _ (List.getElem_mem hka)) W hs)
  have H1 : Hid (rest.extract 0 n = Tl.str a) := by
    show _ = _
    apply Tl.tx_inj
    rw [Tl.tx_extract, hr, Tl.tx_str, hn]; simp
  have H2 : Hid (rest.extract (n + 1) rest.size = Tl.str b) := by
    show _ = _
    apply Tl.tx_inj
    rw [Tl.tx_extract, hr, Tl.tx_str, hl, hn]
    rw [show a ++ c :: b = (a ++ [c]) ++ b by simp, List.drop_left' (by simp)]
    exact List.take_of_length_le (by omega)
  have HB := hide hB
  generalize Tl.str a = Sa at *
  generalize Tl.str b = Sb at *
  have hbl : b.length + 1 + n = rest.size := by omega
  clear hr ha hc hE hB hz hn hl
  obtain ⟨d0, d1⟩ := HB.out.cells
  go_enter Tryd.func66, Tryd.ntmps66
  go_wp2_with fail
  refine (K.out _).mono ?_
  rintro e W ⟨rfl, bW⟩
  have hB := HB.out.later bW
  have HW := hide bW
  clear d0 d1 HB bW K
  obtain ⟨d0, d1⟩ := hB.cells
  have f0 := hB.frozen 0
  have f1 := hB.frozen 1
  have hn1 : (n : Int) < rest.size := by omega
  have hn2 : (n : Int) + 1 ≤ rest.size := by omega
  have HBB := hide hB
  clear hB
  go_wp2_with fail
  go_region
  have hR := (HBB.out.set1 c.toNat).set0 (rest.extract (n + 1) rest.size)
  have hK := (((KB.of_below (B := B) HW.out).put 1 (.int .u8 c.toNat)).put 0 (.string (rest.extract (n + 1) rest.size))).drew
  rw [H1.out, H2.out]
  rw [H2.out] at hR hK
  have HR := hide (And.intro hR hK)
  clear hR hK d0 d1 f0 f1
  go_wp2
  go_ret2
  exact ⟨rfl, HR.out.1, HR.out.2⟩
end Go.Proofs.YtponocolfjkapaaDoor
