/- package plain: TextItems, TextJoin; the law TextLists. -/
import Derived.Test.YtponocolfjkapaaDoorMTextBackUpto19
import Derived.Test.YtponocolfjkapaaDoorLinG
namespace Go.Proofs.YtponocolfjkapaaDoor
open Go.RowKit
set_option linter.unusedVariables false
set_option linter.unusedSimpArgs false

theorem pjoin_any (a : Option Addr) (c : Nat) (L : List ByteArray) (w : World) (h : SL a L w) (h1 : L.length ≤ 100000000) (h2 : Tl.total (txs L) ≤ 10000000) :
    Calls Tryd.prog 10 #[.slice a L.length c] w fun e w' => e = .returned (.string (Tl.str (Tl.joinE (txs L)))) ∧ Below w.heap.size w w' := by
  have K := hide (join_any a c L w h h1 h2)
  clear h
  go_enter Tryd.func10, Tryd.ntmps10
  go_wp2_with fail
  refine K.out.mono ?_
  rintro e W ⟨rfl, hb⟩
  go_wp2
  go_ret
  exact ⟨rfl, hb⟩
/-- what plain.TextItems answers -/
def PitP (R : Except Nat (List (List UInt8))) (base : Nat) (w : World) (e : Ending) (w' : World) : Prop :=
  (∃ v L, R = .ok (txs L) ∧ e = .returned (.tuple #[v, .int .i64 0, .int .i64 (-1)]) ∧ SR w' base v L ∧ L.length ≤ 1000000000 ∧ Below base w w') ∨
  (∃ i : Nat, R = .error i ∧ i ≤ 1000000000 ∧ e = .returned (.tuple #[.slice none 0 0, .int .i64 5, .int .i64 i]) ∧ Below base w w')
set_option maxRecDepth 100000 in
set_option maxHeartbeats 8000000 in
theorem pitems_any (s : ByteArray) (w : World) (hd : Hd w) (h1 : s.size ≤ 100000000) :
    Calls Tryd.prog 9 #[.string s] w (PitP (Tl.run (Tl.tx s) 0 [] []) w.heap.size w) := by
  have K := hide (items_any s w h1)
  generalize Tl.run (Tl.tx s) 0 [] [] = R at *
  have HH := hide hd
  clear hd
  go_enter Tryd.func9, Tryd.ntmps9
  go_wp2_with fail
  refine K.out.mono ?_
  rintro e W (⟨v, L, hR, rfl, hs, hl, hB⟩ | ⟨B, i, hR, hi, rfl, c0, c1, hB⟩)
  · obtain ⟨a, l, c, rfl⟩ := ownr_form' hs
    go_wp2_with fail
    refine (tell_nil _).mono ?_
    rintro e W1 ⟨rfl, b1⟩
    go_wp2_with fail
    refine (where_nil' _).mono ?_
    rintro e W2 ⟨rfl, b2⟩
    have hs2 := (hs.later b1).later b2
    have hB2 := (hB.trans (b1.mono hB.size)).trans (b2.mono (Nat.le_trans hB.size b1.size))
    clear hs b1 b2
    go_wp2
    go_ret3
    exact .inl ⟨_, L, hR, rfl, hs2, hl, hB2⟩
  · have hB0 : B < W.heap.size := World.block_lt_of_cell? _ _ c0
    have h0 := HH.out.later hB
    go_wp2_with fail
    refine (tell_atk B 5 _ h0 c0).mono ?_
    rintro e W1 ⟨rfl, b1⟩
    have c1' : W1.cell? ⟨B, 1, none⟩ = some (.int .i64 i) := (b1.cell (p := ⟨B, 1, none⟩) hB0).trans c1
    have h1' := h0.later b1
    have hB1 := hB.trans (b1.mono hB.size)
    clear c0 c1 h0 b1 hB0
    go_wp2_with fail
    refine (where_atk B i _ h1' c1').mono ?_
    rintro e W2 ⟨rfl, b2⟩
    have hB2 := hB1.trans (b2.mono hB1.size)
    clear c1' h1' b2
    go_wp2
    go_ret3
    exact .inr ⟨i, hR, hi, rfl, hB2⟩
theorem txs_inj {L M : List ByteArray} (h : txs L = txs M) : L = M := by
  have e := congrArg (List.map Tl.str) h
  unfold txs at e
  rw [List.map_map, List.map_map] at e
  have hid : (Tl.str ∘ Tl.tx) = id := funext fun s => Tl.str_tx s
  rw [hid, List.map_id, List.map_id] at e
  exact e
/-- what both answer -/
def DIt (R : Except Nat (List (List UInt8))) (L : List ByteArray) (e k : Int) : Prop := (R = .ok (txs L) ∧ e = 0 ∧ k = -1) ∨ (∃ i : Nat, R = .error i ∧ L = [] ∧ e = 5 ∧ k = i)
theorem DIt.one {R : Except Nat (List (List UInt8))} {L M : List ByteArray} {e k e' k' : Int} (h : DIt R L e k) (h' : DIt R M e' k') : L = M ∧ e = e' ∧ k = k' := by
  rcases h with ⟨h1, rfl, rfl⟩ | ⟨i, h1, rfl, rfl, rfl⟩ <;> rcases h' with ⟨h2, rfl, rfl⟩ | ⟨i', h2, rfl, rfl, rfl⟩ <;> rw [h1] at h2
  · exact ⟨txs_inj (Except.ok.inj h2), rfl, rfl⟩
  · cases h2
  · cases h2
  · exact ⟨rfl, rfl, by rw [Except.error.inj h2]⟩
theorem pitems_gen (s : ByteArray) (w : World) (hd : Hd w) (h1 : s.size ≤ 100000000) : Calls Tryd.prog 9 #[.string s] w fun e w' =>
    ∃ a c L x k, e = .returned (.tuple #[.slice a (List.length L) c, .int .i64 x, .int .i64 k]) ∧ SL a L w' ∧ DIt (Tl.run (Tl.tx s) 0 [] []) L x k ∧ L.length ≤ 1000000000 ∧ Below w.heap.size w w' :=
  (pitems_any s w hd h1).mono fun e w' h => by
    rcases h with ⟨v, L, hR, rfl, hs, hl, hB⟩ | ⟨i, hR, hi, rfl, hB⟩
    · obtain ⟨a, c, rfl, hs'⟩ := hs.sl
      exact ⟨a, c, L, 0, -1, rfl, hs', .inl ⟨hR, rfl, rfl⟩, hl, hB⟩
    · exact ⟨none, 0, [], 5, i, rfl, SL.none, .inr ⟨i, hR, rfl, rfl, rfl⟩, by simp, hB⟩
end Go.Proofs.YtponocolfjkapaaDoor
