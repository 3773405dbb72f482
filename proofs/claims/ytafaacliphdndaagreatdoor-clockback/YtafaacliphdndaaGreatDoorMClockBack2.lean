/- Plain mathematics of a text that is gone through: what stands from a byte on. -/
import Derived.Test.YtafaacliphdndaaGreatDoorMClockBack1
import Derived.Lib.Strings
namespace Go.Proofs.YtafaacliphdndaaGreatDoor.Tx
open Go

/-- from byte k on the text s has the bytes L -/
def Seg (s : ByteArray) (k : Nat) (L : List UInt8) : Prop := ∃ A B, s.data.toList = A ++ (L ++ B) ∧ A.length = k
theorem size_len (s : ByteArray) : s.size = s.data.toList.length := Lib.size_eq s
theorem Seg.le {s : ByteArray} {k : Nat} {L : List UInt8} (h : Seg s k L) : k + L.length ≤ s.size := by
  obtain ⟨A, B, e, rfl⟩ := h
  rw [size_len, e]; simp
theorem Seg.right {s : ByteArray} {k : Nat} {L M : List UInt8} (h : Seg s k (L ++ M)) : Seg s (k + L.length) M := by
  obtain ⟨A, B, e, rfl⟩ := h
  exact ⟨A ++ L, B, by rw [e]; simp, by simp⟩
theorem Seg.left {s : ByteArray} {k : Nat} {L M : List UInt8} (h : Seg s k (L ++ M)) : Seg s k L := by
  obtain ⟨A, B, e, rfl⟩ := h
  exact ⟨A, M ++ B, by rw [e]; simp, rfl⟩
theorem Seg.head {s : ByteArray} {k : Nat} {c : UInt8} {L : List UInt8} (h : Seg s k (c :: L)) : Seg s k [c] := Seg.left (L := [c]) (M := L) h
theorem Seg.tail {s : ByteArray} {k : Nat} {c : UInt8} {L : List UInt8} (h : Seg s k (c :: L)) : Seg s (k + 1) L := Seg.right (L := [c]) (M := L) h
/-- the byte k is c -/
theorem Seg.at {s : ByteArray} {k : Nat} {c : UInt8} {L : List UInt8} (h : Seg s k (c :: L)) : ∃ hk : k < s.size, s[k] = c := by
  have hl := h.le
  obtain ⟨A, B, e, hA⟩ := h
  have hk : k < s.size := by simp at hl; omega
  refine ⟨hk, ?_⟩
  have h1 : s[k] = s.data.toList[k]'(by rw [← size_len]; exact hk) := rfl
  rw [h1]
  have h2 : s.data.toList[k]? = some c := by rw [e, List.getElem?_append_right (by omega)]; simp [hA]
  exact (List.getElem?_eq_some_iff.1 h2).2
theorem Seg.nth {s : ByteArray} {k : Nat} {L : List UInt8} (h : Seg s k L) (j : Nat) (hj : j < L.length) : ∃ hk : k + j < s.size, s[k + j] = L[j] := by
  have e : L = L.take j ++ (L[j] :: L.drop (j + 1)) := by
    rw [← List.drop_eq_getElem_cons hj, List.take_append_drop]
  have h2 : Seg s k (L.take j ++ (L[j] :: L.drop (j + 1))) := by rw [← e]; exact h
  have h3 := h2.right
  rw [List.length_take, Nat.min_eq_left (by omega)] at h3
  exact h3.at
theorem valF_lt (L : List UInt8) (h : ∀ c ∈ L, isDig c) : ∀ a, valF a L < (a + 1) * 10 ^ L.length := by
  induction L with
  | nil => intro a; simp [valF_nil]
  | cons c L ih =>
    intro a
    have hc := h c (by simp)
    have := ih (fun d hd => h d (by simp [hd])) (10 * a + (c.toNat - 48))
    rw [valF_cons]
    have h9 : c.toNat - 48 ≤ 9 := by unfold isDig at hc; omega
    have h2 : (10 * a + (c.toNat - 48) + 1) * 10 ^ L.length ≤ (10 * a + 10) * 10 ^ L.length := Nat.mul_le_mul_right _ (by omega)
    have h3 : (a + 1) * 10 ^ (c :: L).length = (10 * a + 10) * 10 ^ L.length := by
      rw [List.length_cons, Nat.pow_succ, Nat.mul_comm (10 ^ L.length) 10, ← Nat.mul_assoc]
      congr 1; omega
    omega
theorem valF_take (L : List UInt8) (j : Nat) (hj : j < L.length) : valF 0 (L.take (j + 1)) = 10 * valF 0 (L.take j) + (L[j].toNat - 48) := by
  rw [List.take_succ_eq_append_getElem hj, valF_snoc]
theorem valF_take_lt (L : List UInt8) (h : ∀ c ∈ L, isDig c) (h8 : L.length ≤ 8) (j : Nat) : valF 0 (L.take j) < 100000000 := by
  have h1 := valF_lt (L.take j) (fun c hc => h c (List.mem_of_mem_take hc)) 0
  have h2 : (L.take j).length ≤ 8 := by rw [List.length_take]; omega
  have h3 : 10 ^ (L.take j).length ≤ 10 ^ 8 := Nat.pow_le_pow_right (by omega) h2
  omega
theorem Seg.whole (s : ByteArray) : Seg s 0 s.data.toList := ⟨[], [], by simp, rfl⟩
theorem data_app (a b : ByteArray) : (a ++ b).data.toList = a.data.toList ++ b.data.toList := by simp
theorem pad_data (n w : Nat) : (pad n w).data.toList = padL n w := by unfold pad; simp
end Go.Proofs.YtafaacliphdndaaGreatDoor.Tx
