/- package clock's reader: what a walk through it knows of the world; isNext, skip, want, wantIf. -/
import Derived.Test.YtcffomellimmiaaGreatDoorPrsM
import Derived.Test.YtcffomellimmiaaGreatDoorTxtA
import Derived.Below
import Derived.RowKitTokens
import Derived.BigQuiet
import Derived.Deep.QuietTactic
namespace Go.Proofs.YtcffomellimmiaaGreatDoor
open Go.RowKit Go.Shelf
set_option linter.unusedVariables false
set_option linter.unusedSimpArgs false

/-- block b is a reader of the text s at its byte k -/
structure Rd (b : Nat) (s : ByteArray) (k : Nat) (w : World) : Prop where
  c0 : w.cell? ⟨b, 0, none⟩ = some (.string s)
  c1 : w.cell? ⟨b, 1, none⟩ = some (.int .i64 k)
  fr : ∀ j, w.frozen? ⟨b, j, none⟩ = false
  lt : b < w.heap.size
/-- nothing old has turned but block b -/
structure Mv (b : Nat) (w w' : World) : Prop where
  os : w'.os = w.os
  tape : w'.tape = w.tape
  output : w'.output = w.output
  size : w.heap.size ≤ w'.heap.size
  block : ∀ k, k < w.heap.size → k ≠ b → w'.heap[k]? = w.heap[k]?
theorem Mv.refl (b : Nat) (w : World) : Mv b w w := ⟨rfl, rfl, rfl, Nat.le_refl _, fun _ _ _ => rfl⟩
theorem Mv.trans {b : Nat} {u v w : World} (h : Mv b u v) (k : Mv b v w) : Mv b u w :=
  ⟨k.os.trans h.os, k.tape.trans h.tape, k.output.trans h.output, Nat.le_trans h.size k.size, fun i hi hb => (k.block i (Nat.lt_of_lt_of_le hi h.size) hb).trans (h.block i hi hb)⟩
theorem Mv.of_below {b : Nat} {w w' : World} (h : Below w.heap.size w w') : Mv b w w' := ⟨h.os, h.tape, h.output, h.size, fun i hi _ => h.block i hi⟩
theorem Mv.below {b B : Nat} {w w' : World} (h : Mv b w w') (hb : B ≤ b) (hw : B ≤ w.heap.size) : Below B w w' := ⟨h.os, h.tape, h.output, h.size, fun i hi => h.block i (by omega) (by omega)⟩
theorem Mv.setCell {b : Nat} {w w' : World} (h : Mv b w w') (o : Nat) (v : Value) : Mv b w (w'.setCell ⟨b, o, none⟩ v) :=
  ⟨h.os, h.tape, h.output, by rw [World.size_setCell]; exact h.size, fun i hi hb => by rw [Below.heap_setCell _ _ _ _ hb]; exact h.block i hi hb⟩
theorem Mv.drewN {b : Nat} {w w' : World} (h : Mv b w w') (n : Nat) : Mv b w (w'.drewN n) := ⟨h.os, h.tape, h.output, h.size, h.block⟩
theorem Mv.cell {b : Nat} {w w' : World} (h : Mv b w w') {p : Addr} (hp : p.block < w.heap.size) (hb : p.block ≠ b) : w'.cell? p = w.cell? p := World.cell?_of_block (w := w) (h.block p.block hp hb)
theorem Mv.frozen {b : Nat} {w w' : World} (h : Mv b w w') {p : Addr} (hp : p.block < w.heap.size) (hb : p.block ≠ b) : w'.frozen? p = w.frozen? p := World.frozen?_of_block (w := w) (h.block p.block hp hb)
theorem Rd.later {b : Nat} {s : ByteArray} {k : Nat} {w w' : World} (h : Rd b s k w) (hb : Below w.heap.size w w') : Rd b s k w' :=
  ⟨(hb.cell (p := ⟨b, 0, none⟩) h.lt).trans h.c0, (hb.cell (p := ⟨b, 1, none⟩) h.lt).trans h.c1, fun j => (hb.frozen (p := ⟨b, j, none⟩) h.lt).trans (h.fr j), Nat.lt_of_lt_of_le h.lt hb.size⟩
theorem Rd.drewN {b : Nat} {s : ByteArray} {k : Nat} {w : World} (h : Rd b s k w) (n : Nat) : Rd b s k (w.drewN n) := ⟨h.c0, h.c1, h.fr, h.lt⟩
theorem Rd.set {b : Nat} {s : ByteArray} {k : Nat} {w : World} (h : Rd b s k w) (j : Nat) : Rd b s j (w.setCell ⟨b, 1, none⟩ (.int .i64 j)) :=
  ⟨by rw [World.cell?_setCell_other _ _ _ _ (by simp)]; exact h.c0, World.cell?_setCell_same _ _ _ h.c1, fun i => by rw [World.frozen?_setCell]; exact h.fr i, by rw [World.size_setCell]; exact h.lt⟩

theorem Rd.setI {b : Nat} {s : ByteArray} {k : Nat} {w : World} (h : Rd b s k w) (j : Nat) (v : Int) (hv : v = j) : Rd b s j (w.setCell ⟨b, 1, none⟩ (.int .i64 v)) := by subst hv; exact h.set j
set_option maxHeartbeats 1600000 in
theorem isNext_at (b : Nat) (s : ByteArray) (k : Nat) (c : Int) (w : World) (h : Rd b s k w) (hs : s.size ≤ 1000000000) (hk : k < s.size) :
    Calls Tryz.prog 80 #[.pointer (some ⟨b, 0, none⟩), .int .u8 c] w fun e w' => e = .returned (.bool ((s[k].toNat : Int) == c)) ∧ ∃ n, w' = w.drewN n := by
  obtain ⟨c0, c1, fr, lt⟩ := h
  have hd : decide ((k : Int) < (s.size : Int)) = true := by simpa using hk
  have i1 : (0 : Int) ≤ (k : Int) := by omega
  have i2 : (k : Int) < (s.size : Int) := by omega
  go_enter Tryz.func80, Tryz.ntmps80
  go_wp2_with fail
  go_quiet (fail)
  go_wp2
  go_ret
  exact ⟨rfl, _, rfl⟩
set_option maxHeartbeats 1600000 in
theorem isNext_end (b : Nat) (s : ByteArray) (k : Nat) (c : Int) (w : World) (h : Rd b s k w) (hs : s.size ≤ 1000000000) (hk : s.size ≤ k) :
    Calls Tryz.prog 80 #[.pointer (some ⟨b, 0, none⟩), .int .u8 c] w fun e w' => e = .returned (.bool false) ∧ ∃ n, w' = w.drewN n := by
  obtain ⟨c0, c1, fr, lt⟩ := h
  have hn1 : ¬ (k < s.size) := by omega
  have hn2 : ¬ ((k : Int) < (s.size : Int)) := by omega
  have hd : decide ((k : Int) < (s.size : Int)) = false := by simpa using hk
  clear hk
  go_enter Tryz.func80, Tryz.ntmps80
  go_wp2_with fail
  go_quiet (fail)
  go_wp2
  go_ret
  exact ⟨rfl, _, rfl⟩
/-- does the byte c stand at k? -/
def Nx (s : ByteArray) (k : Nat) (c : Int) (r : Bool) : Prop := (s.size ≤ k ∧ r = false) ∨ ∃ hk : k < s.size, r = ((s[k].toNat : Int) == c)
theorem Nx.yes {s : ByteArray} {k : Nat} {x : UInt8} {L : List UInt8} (h : Tx.Seg s k (x :: L)) : Nx s k (x.toNat : Int) true := by
  obtain ⟨hk, e⟩ := h.at
  exact .inr ⟨hk, by rw [e]; simp⟩
theorem Nx.no {s : ByteArray} {k : Nat} {x : UInt8} {L : List UInt8} {c : Int} (h : Tx.Seg s k (x :: L)) (hc : (x.toNat : Int) ≠ c) : Nx s k c false := by
  obtain ⟨hk, e⟩ := h.at
  exact .inr ⟨hk, by rw [e]; simpa using hc⟩
theorem Nx.end {s : ByteArray} {k : Nat} {c : Int} (h : s.size ≤ k) : Nx s k c false := .inl ⟨h, rfl⟩
theorem isNext_any (b : Nat) (s : ByteArray) (k : Nat) (c : Int) (r : Bool) (w : World) (h : Rd b s k w) (hs : s.size ≤ 1000000000) (hn : Nx s k c r) :
    Calls Tryz.prog 80 #[.pointer (some ⟨b, 0, none⟩), .int .u8 c] w fun e w' => e = .returned (.bool r) ∧ Rd b s k w' ∧ Mv b w w' := by
  rcases hn with ⟨hk, rfl⟩ | ⟨hk, rfl⟩
  · exact (isNext_end b s k c w h hs hk).mono fun e w' ⟨he, n, hw⟩ => ⟨he, by rw [hw]; exact ⟨h.drewN n, (Mv.refl b w).drewN n⟩⟩
  · exact (isNext_at b s k c w h hs hk).mono fun e w' ⟨he, n, hw⟩ => ⟨he, by rw [hw]; exact ⟨h.drewN n, (Mv.refl b w).drewN n⟩⟩
set_option maxHeartbeats 1600000 in
/-- past the byte, if it stands there -/
theorem skip_any (b : Nat) (s : ByteArray) (k : Nat) (c : Int) (r : Bool) (w : World) (h : Rd b s k w) (hs : s.size ≤ 1000000000) (hn : Nx s k c r) (hk : k ≤ 1000000000) :
    Calls Tryz.prog 54 #[.pointer (some ⟨b, 0, none⟩), .int .u8 c] w fun e w' => e = .returned (.bool r) ∧ Rd b s (if r then k + 1 else k) w' ∧ Mv b w w' := by
  have K := hide (isNext_any b s k c r w h hs hn)
  clear h hn
  cases r
  · go_enter Tryz.func54, Tryz.ntmps54
    go_wp2_with fail
    refine K.out.mono ?_
    rintro e W ⟨rfl, hr, hm⟩
    go_wp2_with fail
    go_ret
    exact ⟨rfl, hr, hm⟩
  · go_enter Tryz.func54, Tryz.ntmps54
    go_wp2_with fail
    refine K.out.mono ?_
    rintro e W ⟨rfl, hr, hm⟩
    have hset := hide (hr.set (k + 1))
    have hmv := hide (hm.setCell 1 (.int .i64 ((k + 1 : Nat) : Int)))
    obtain ⟨c0, c1, fr, lt⟩ := hr
    go_wp2_with fail
    go_ret
    exact ⟨rfl, hset.out, hmv.out⟩
end Go.Proofs.YtcffomellimmiaaGreatDoor
