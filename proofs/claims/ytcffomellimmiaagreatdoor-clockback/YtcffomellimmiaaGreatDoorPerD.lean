/- package clock's reader: count; an error that tells a place. -/
import Derived.Test.YtcffomellimmiaaGreatDoorPrsE
import Derived.Test.YtcffomellimmiaaGreatDoorPerA
namespace Go.Proofs.YtcffomellimmiaaGreatDoor
open Go.RowKit Go.Shelf
set_option linter.unusedVariables false
set_option linter.unusedSimpArgs false

/-- block B is an error with its place: ErrLimit -/
def AtB (B : Nat) (W : World) : Prop := W.cell? ⟨B, 0, none⟩ = some (.int .i64 6) ∧ (∃ k : Int, W.cell? ⟨B, 1, none⟩ = some (.int .i64 k)) ∧ B < W.heap.size
theorem AtB.later {B : Nat} {W W' : World} (h : AtB B W) (hb : Below W.heap.size W W') : AtB B W' := by
  obtain ⟨h0, ⟨k, h1⟩, hl⟩ := h
  exact ⟨(hb.cell (p := ⟨B, 0, none⟩) hl).trans h0, ⟨k, (hb.cell (p := ⟨B, 1, none⟩) hl).trans h1⟩, Nat.lt_of_lt_of_le hl hb.size⟩
theorem AtB.mv {B b : Nat} {W W' : World} (h : AtB B W) (hm : Mv b W W') (hne : B ≠ b) : AtB B W' := by
  obtain ⟨h0, ⟨k, h1⟩, hl⟩ := h
  exact ⟨(hm.cell (p := ⟨B, 0, none⟩) hl hne).trans h0, ⟨k, (hm.cell (p := ⟨B, 1, none⟩) hl hne).trans h1⟩, Nat.lt_of_lt_of_le hl hm.size⟩
set_option maxHeartbeats 1600000 in
theorem count_ok (b : Nat) (s : ByteArray) (k n : Nat) (L : List UInt8) (w : World) (h : Rd b s k w) (hs : s.size ≤ 1000000000) (hL : Tx.Seg s k L) (hn : L.length = n) (hd : ∀ c ∈ L, Tx.isDig c) (hstop : Stp s (k + n)) (h8 : n ≤ 8) :
    Calls Tryz.prog 117 #[.pointer (some ⟨b, 0, none⟩)] w fun e w' => e = .returned (.tuple #[.int .i64 (Tx.valF 0 L), .nilIface]) ∧ Rd b s (k + n) w' ∧ Mv b w w' := by
  have K1 := hide (fun W hW => run_any b s k n L W hW hs hL hn hd hstop)
  have K2 := hide (fun W hW => number_any b s k n L W hW hs hL hn hd h8)
  clear hL hd hstop hn
  go_enter Tryz.func117, Tryz.ntmps117
  go_wp2_with fail
  refine (K1.out _ h).mono ?_
  rintro e W1 ⟨rfl, hr1, hm1⟩
  go_wp2_with fail
  refine (K2.out _ hr1).mono ?_
  rintro e W2 ⟨rfl, hr2, hm2⟩
  go_wp2_with fail
  go_ret2
  exact ⟨rfl, hr2, hm1.trans hm2⟩
set_option maxHeartbeats 1600000 in
theorem count_big (b : Nat) (s : ByteArray) (k n : Nat) (L : List UInt8) (w : World) (h : Rd b s k w) (hs : s.size ≤ 1000000000) (hL : Tx.Seg s k L) (hn : L.length = n) (hd : ∀ c ∈ L, Tx.isDig c) (hstop : Stp s (k + n)) (h8 : 8 < n) :
    Calls Tryz.prog 117 #[.pointer (some ⟨b, 0, none⟩)] w fun e w' => ∃ B, e = .returned (.tuple #[.int .i64 0, .iface 92 (.pointer (some ⟨B, 0, none⟩))]) ∧ AtB B w' ∧ w.heap.size ≤ B ∧ Mv b w w' := by
  have K1 := hide (fun W hW => run_any b s k n L W hW hs hL hn hd hstop)
  clear hL hd hstop hn
  go_enter Tryz.func117, Tryz.ntmps117
  go_wp2_with fail
  refine (K1.out _ h).mono ?_
  rintro e W1 ⟨rfl, hr1, hm1⟩
  obtain ⟨c0, c1, fr, lt⟩ := hr1
  go_wp2_with fail
  go_region
  all_goals
    go_wp2
    go_ret2
    exact ⟨W1.heap.size, rfl, ⟨by simp, ⟨k, by simp⟩, by simp⟩, hm1.size, hm1.trans (Mv.of_below (Below.drew ((Below.refl _ W1).alloc (Nat.le_refl _) _)))⟩
end Go.Proofs.YtcffomellimmiaaGreatDoor
