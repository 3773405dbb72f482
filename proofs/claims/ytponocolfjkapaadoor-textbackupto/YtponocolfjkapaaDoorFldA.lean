/- package text: goesOn, cut, Fold; the reference's goesOn. -/
import Derived.Test.YtponocolfjkapaaDoorFldM
import Derived.Test.YtponocolfjkapaaDoorTxlA
namespace Go.Proofs.YtponocolfjkapaaDoor
open Go.RowKit
set_option linter.unusedVariables false
set_option linter.unusedSimpArgs false

theorem goes_eq (b : UInt8) : (decide ((128 : Int) ≤ (b.toNat : Int)) && decide ((b.toNat : Int) ≤ 191)) = Tl.goes b := by
  unfold Tl.goes
  congr 1 <;> rw [decide_eq_decide] <;> omega
set_option maxHeartbeats 4000000 in
theorem goesOn_any (b : UInt8) (w : World) : Calls Tryd.prog 61 #[.int .u8 b.toNat] w fun e w' => e = .returned (.bool (Tl.goes b)) ∧ w' = w := by
  rw [← goes_eq]
  generalize (b.toNat : Int) = x
  cases h1 : decide ((128 : Int) ≤ x) <;> cases h2 : decide (x ≤ 191)
  all_goals
    go_enter Tryd.func61, Tryd.ntmps61
    go_wp2
    go_ret
    exact ⟨rfl, rfl⟩
set_option maxHeartbeats 4000000 in
theorem rgoesOn_any (b : UInt8) (w : World) : Calls Tryd.prog 40 #[.int .u8 b.toNat] w fun e w' => e = .returned (.bool (Tl.goes b)) ∧ w' = w := by
  rw [← goes_eq]
  generalize (b.toNat : Int) = x
  cases h1 : decide ((128 : Int) ≤ x) <;> cases h2 : decide (x ≤ 191)
  all_goals
    go_enter Tryd.func40, Tryd.ntmps40
    go_wp2
    go_ret
    exact ⟨rfl, rfl⟩
set_option maxRecDepth 100000 in
set_option maxHeartbeats 4000000 in
theorem cut_any (s : ByteArray) (room : Nat) (w : World) (h1 : s.size ≤ 1000000000) (h2 : 74 ≤ room) (h3 : room ≤ 75) :
    Calls Tryd.prog 49 #[.string s, .int .i64 room] w fun e w' => e = .returned (.int .i64 (Tl.cutN (Tl.tx s) room)) ∧ Below w.heap.size w w' := by
  by_cases hle : s.size ≤ room
  · have hi : (s.size : Int) ≤ room := by omega
    have HE : Hid (Tl.cutN (Tl.tx s) room = s.size) := by
      show _ = _
      unfold Tl.cutN
      rw [Tl.tx_len, if_pos hle]
    go_enter Tryd.func49, Tryd.ntmps49
    go_wp2
    go_ret
    rw [HE.out]
    exact ⟨rfl, Below.refl _ _⟩
  · have hi : (room : Int) < s.size := by omega
    have HE : Hid (Tl.cutN (Tl.tx s) room = Tl.cutR (Tl.tx s) room 4) := by
      show _ = _
      unfold Tl.cutN
      rw [Tl.tx_len, if_neg hle]
    go_enter Tryd.func49, Tryd.ntmps49
    go_wp2_with fail
    go_loopw [5] (fun i wr => ∃ k : Nat, k ≤ 4 ∧ i = .int .i64 ((room : Int) + k - 4) ∧ Tl.cutN (Tl.tx s) room = Tl.cutR (Tl.tx s) room k ∧ Below w.heap.size w wr) (fun i _ => (intOf i).toNat)
    case atStart => exact ⟨4, by omega, by congr 1; omega, HE.out, Below.refl _ _⟩
    case round =>
      obtain ⟨k, hk, rfl, hc, hB⟩ := hrel
      have HC := hide hc
      clear hc
      match k, hk with
      | 0, _ =>
        have e1 : ¬ (room : Int) - 3 ≤ (room : Int) + (0 : Nat) - 4 := by omega
        go_wp2
        go_ret
        exact ⟨by rw [HC.out]; rfl, hB⟩
      | k + 1, hk =>
        have e1 : (room : Int) - 3 ≤ (room : Int) + ((k + 1 : Nat) : Int) - 4 := by omega
        have hidx : room + (k + 1) - 4 < s.size := by omega
        have hcut : Hid (Tl.cutR (Tl.tx s) room (k + 1) = if Tl.goes s[room + (k + 1) - 4] = true then Tl.cutR (Tl.tx s) room k else room + k - 3) := by
          show _ = _
          have e : (Tl.tx s).getD (room + k - 3) 0 = s[room + (k + 1) - 4] := by
            rw [List.getD_eq_getElem?_getD, show room + k - 3 = room + (k + 1) - 4 by omega, List.getElem?_eq_getElem (by rw [Tl.tx_len]; exact hidx)]; rfl
          rw [Tl.cutR, e]
        go_wp2_with fail
        refine (goesOn_any _ _).mono ?_
        rintro e W1 ⟨rfl, rfl⟩
        cases hg : Tl.goes s[room + (k + 1) - 4]
        · have hc := hcut.out
          rw [hg, if_neg (by simp)] at hc
          have e2 : Hid ((room : Int) + ((k : Int) + 1) - 4 = ((Tl.cutN (Tl.tx s) room : Nat) : Int)) := by
            show _ = _
            rw [HC.out, hc]; omega
          clear hg hc hcut HC HE hidx
          go_wp2
          go_ret
          exact ⟨by rw [← e2.out]; rfl, hB⟩
        · have hc := hcut.out
          rw [hg, if_pos rfl] at hc
          have Hc := hide (HC.out.trans hc)
          clear hg hc hcut HC HE hidx
          go_wp2
          go_roundw
          case rel => exact ⟨k, by omega, by congr 1; omega, Hc.out, hB⟩
          case measure => simp [intOf]; omega
set_option maxRecDepth 100000 in
set_option maxHeartbeats 4000000 in
theorem fold_any (s : ByteArray) (o : List UInt8) (w : World) (h1 : s.size ≤ 100000000) (ho : Tl.Fld 75 (Tl.tx s) o) (hol : o.length ≤ 1000000000) :
    Calls Tryd.prog 34 #[.string s] w fun e w' => e = .returned (.string (Tl.str o)) ∧ Below w.heap.size w w' := by
  have HO := hide ho
  clear ho
  go_enter Tryd.func34, Tryd.ntmps34
  go_wp2_with fail
  go_loopw [0, 3, 4] (fun v0 v3 i wr => ∃ (r : ByteArray) (T p : List UInt8) (room : Nat), v0 = .string r ∧ BR wr w.heap.size v3 T ∧ i = .int .i64 room ∧ 74 ≤ room ∧ room ≤ 75 ∧ Tl.Fld room (Tl.tx r) p ∧ T ++ p = o ∧ r.size ≤ s.size ∧ Below w.heap.size w wr) (fun v0 _ _ _ => match v0 with | .string r => r.size | _ => 0)
  case atStart => exact ⟨s, [], o, 75, rfl, BR.nil _ _, rfl, by omega, by omega, HO.out, rfl, Nat.le_refl _, Below.refl _ _⟩
  case round =>
    obtain ⟨r, T, p, room, rfl, hown, rfl, g1, g2, hf, hT, hr, hB⟩ := hrel
    go_wp2_with fail
    refine (cut_any r room _ (by omega) g1 g2).mono ?_
    rintro e W1 ⟨rfl, hb1⟩
    have hn := Tl.cutN_le (Tl.tx r) room
    rw [Tl.tx_len] at hn
    have hp := Tl.cutN_pos (Tl.tx r) room g1
    have hrn := Tl.cutN_room (Tl.tx r) room
    have hsl : Hid (Tl.tx (r.extract 0 (Tl.cutN (Tl.tx r) room)) = (Tl.tx r).take (Tl.cutN (Tl.tx r) room)) := by
      show _ = _
      rw [Tl.tx_extract, List.drop_zero, Nat.sub_zero]
    have hsr : Hid (Tl.tx (r.extract (Tl.cutN (Tl.tx r) room) r.size) = (Tl.tx r).drop (Tl.cutN (Tl.tx r) room)) := by
      show _ = _
      rw [Tl.tx_extract, List.take_of_length_le (by rw [List.length_drop, Tl.tx_len]; omega)]
    have hTl : T.length ≤ 1000000000 := by have := congrArg List.length hT; rw [List.length_append] at this; omega
    have hsz1 : (r.extract 0 (Tl.cutN (Tl.tx r) room)).size = Tl.cutN (Tl.tx r) room := by rw [ByteArray.size_extract]; omega
    have hsz2 : (r.extract (Tl.cutN (Tl.tx r) room) r.size).size = r.size - Tl.cutN (Tl.tx r) room := by rw [ByteArray.size_extract]; omega
    have hown1 := hown.later hb1
    have hB1 := hB.trans (hb1.mono hB.size)
    obtain ⟨a1, l1, c1, rfl⟩ := ownr_form' hown1
    have HF := hide hf
    have HT := hide hT
    have hi0 : (0 : Int) ≤ ((Tl.cutN (Tl.tx r) room : Nat) : Int) := by omega
    have hi1 : ((Tl.cutN (Tl.tx r) room : Nat) : Int) ≤ r.size := by omega
    have hi2 : ((Tl.cutN (Tl.tx r) room : Nat) : Int).toNat = Tl.cutN (Tl.tx r) room := by omega
    clear hf hT hown hB hb1
    generalize hnn : Tl.cutN (Tl.tx r) room = n at *
    go_wp2_with (at_builtin; refine wpList_append_brs rfl (.tmp 9) (.tmp 12) rfl w.heap.size _ T rfl hown1 (r.extract 0 n) rfl (by rw [hsz1]; omega) hB1.size ?_)
    intro v1 w1 hw1 _ hb1
    replace hB1 := hB1.trans hb1
    rw [hsl.out] at hw1
    obtain ⟨a2, l2, c2, rfl⟩ := ownr_form' hw1
    have hl2 : (T ++ (Tl.tx r).take n).length ≤ 1100000000 := by rw [List.length_append, List.length_take, Tl.tx_len]; omega
    clear hb1 hown1
    go_wp2_with (at_builtin; refine wpList_append_brs rfl (.tmp 14) (.const (.string ⟨#[13, 10]⟩)) rfl w.heap.size _ _ rfl hw1 ⟨#[13, 10]⟩ rfl (by have : (⟨#[13, 10]⟩ : ByteArray).size = 2 := rfl; omega) hB1.size ?_)
    intro v2 w2 hw2 _ hb2
    replace hB1 := hB1.trans hb2
    obtain ⟨a3, l3, c3, rfl⟩ := ownr_form' hw2
    rw [show Tl.tx ⟨#[13, 10]⟩ = [13, 10] from rfl] at hw2
    have hl3 : (T ++ (Tl.tx r).take n ++ [13, 10]).length ≤ 1100000002 := by rw [List.length_append]; simp only [List.length_cons, List.length_nil]; omega
    clear hb2 hw1 hl2
    generalize hU : T ++ ((Tl.tx r).take n ++ [13, 10]) = U at hw2
    rw [List.append_assoc, hU] at hl3
    cases hE : ((r.extract n r.size).toList == [])
    · have hnil : (Tl.tx r).drop n ≠ [] := by
        rw [← hsr.out]
        rw [ByteArray.toList_eq] at hE
        intro e
        unfold Tl.tx at e
        rw [e] at hE
        exact absurd hE (by decide)
      have hf := HF.out
      obtain ⟨p', hf', hp'⟩ := hf.cons (by rw [hnn]; exact hnil)
      rw [hnn] at hf' hp'
      have HF' := hide hf'
      rw [← hsr.out] at HF'
      have HT' : Hid (U ++ [32] ++ p' = o) := by
        show _ = _
        rw [← HT.out, hp', ← hU]
        simp only [List.append_assoc]
      have hrs : Hid ((r.extract n r.size).size < r.size ∧ (r.extract n r.size).size ≤ s.size) := by
        show _ ∧ _
        rcases hp with h | h
        · exact absurd h hnil
        · omega
      clear hf hf' hp' hp HF HT hnil hsr hsl hsz1 hsz2 hnn hU
      generalize hR : r.extract n r.size = R at *
      go_wp2_with (at_builtin; refine wpList_append_br rfl (.tmp 23) (.tmp 24) rfl w.heap.size _ _ [32] rfl (hw2.alloc _) ⟨w2.heap.size, 0, none⟩ 1 1 rfl rfl (one_new w2 _ 32 _ rfl .nilIface) (by simp only [List.length_cons, List.length_nil]; omega) (by have := hB1.size; simp; omega) ?_)
      intro v3 w3 hw3 _ hb3
      have hB3 := (hB1.alloc hB1.size _).trans hb3
      obtain ⟨a4, l4, c4, rfl⟩ := ownr_form' hw3
      have HW := hide hw3
      clear hb3 hw2 hw3 hB1
      go_wp2
      go_roundw
      case rel => exact ⟨R, _, p', 74, rfl, HW.out, rfl, by omega, by omega, HF'.out, HT'.out, hrs.out.2, hB3⟩
      case measure => exact hrs.out.1
    · have hnil : (Tl.tx r).drop n = [] := by
        rw [← hsr.out]
        rw [ByteArray.toList_eq] at hE
        exact eq_of_beq hE
      have hp' := HF.out.nil (by rw [hnn]; exact hnil)
      rw [hnn] at hp'
      have HT' : Hid (U = o) := by
        show _ = _
        rw [← HT.out, hp', hU]
      have hcv := hw2.conv
      rw [HT'.out] at hcv
      clear hw2 hp HF HT hp' hnil hsr hsl hU
      go_wp2
      go_ret
      exact ⟨rfl, hB1⟩
end Go.Proofs.YtponocolfjkapaaDoor
