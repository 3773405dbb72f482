/- The reference's Fold. -/
import Derived.Test.YtponocolfjkapaaDoorMTextBackUpto14
import Derived.Deep.CutRange
import Derived.Deep.Cut
namespace Go.Proofs.YtponocolfjkapaaDoor
open Go.RowKit
set_option linter.unusedVariables false
set_option linter.unusedSimpArgs false

theorem tx_nil_iff (s : ByteArray) : (s.toList == []) = true ↔ Tl.tx s = [] := by
  rw [ByteArray.toList_eq]
  exact ⟨fun h => eq_of_beq h, fun h => by unfold Tl.tx at h; rw [h]; rfl⟩
set_option maxRecDepth 100000 in
set_option maxHeartbeats 8000000 in
theorem rfold_any (s : ByteArray) (o : List UInt8) (w : World) (h1 : s.size ≤ 100000000) (ho : Tl.Fld 75 (Tl.tx s) o) (hol : o.length ≤ 1000000000) :
    Calls Tryd.prog 25 #[.string s] w fun e w' => e = .returned (.string (Tl.str o)) ∧ Below w.heap.size w w' := by
  have HO := hide ho
  clear ho
  go_enter Tryd.func25, Tryd.ntmps25
  go_wp2_with fail
  go_loopw [0, 3, 4] (fun v0 v3 v4 wr => ∃ (r : ByteArray) (T p : List UInt8) (D : ByteArray), v0 = .string r ∧ v3 = .string (Tl.str T) ∧ v4 = .string D ∧ D.size ≤ 1 ∧ Tl.Fld (75 - D.size) (Tl.tx r) p ∧ T ++ Tl.tx D ++ p = o ∧ r.size ≤ s.size ∧ Below w.heap.size w wr) (fun v0 _ _ _ => match v0 with | .string r => r.size | _ => 0)
  case atStart => exact ⟨s, [], o, ⟨#[]⟩, rfl, rfl, rfl, by decide, HO.out, rfl, Nat.le_refl _, Below.refl _ _⟩
  case round =>
    obtain ⟨r, T, p, D, rfl, rfl, rfl, hD, hf, hT, hr, hB⟩ := hrel
    go_upto_if 13 with fail
    have hrn := Tl.cutN_room (Tl.tx r) (75 - D.size)
    have hn := Tl.cutN_le (Tl.tx r) (75 - D.size)
    rw [Tl.tx_len] at hn
    have HN : Hid (Tl.cutN (Tl.tx r) (75 - D.size) = if r.size ≤ 75 - D.size then r.size else Tl.cutR (Tl.tx r) (75 - D.size) 4) := by
      show _ = _
      unfold Tl.cutN
      rw [Tl.tx_len]
    generalize hnn : Tl.cutN (Tl.tx r) (75 - D.size) = n at *
    go_cut [5, 6] from 7 to 53 (fun s5 s6 wc => s5 = .int .i64 n ∧ wc = wr)
    case first =>
      have HF := hide hf
      clear hf hT
      by_cases hle : r.size ≤ 75 - D.size
      · have hi : (D.size : Int) + r.size ≤ 75 := by omega
        have e := HN.out
        rw [if_pos hle] at e
        subst e
        go_wp2_with fail
        go_meet
        case rel => exact ⟨rfl, rfl⟩
      · have hi : ¬ (D.size : Int) + r.size ≤ 75 := by omega
        have hi2 : (75 : Int) < (D.size : Int) + r.size := by omega
        have e := HN.out
        rw [if_neg hle] at e
        have HE := hide e
        clear e
        go_wp2_with fail
        go_loopw [5, 6] (fun v5 v6 wc => ∃ k : Nat, k ≤ 4 ∧ v5 = .int .i64 (75 - (D.size : Int)) ∧ v6 = .int .i64 k ∧ n = Tl.cutR (Tl.tx r) (75 - D.size) (4 - k) ∧ wc = wr) (fun _ v6 _ => 4 - (intOf v6).toNat)
        case atStart => exact ⟨0, by omega, rfl, rfl, HE.out, rfl⟩
        case round =>
          obtain ⟨k, hk, rfl, rfl, hc, rfl⟩ := hrel
          have HC := hide hc
          clear hc HE HN hnn
          by_cases hk4 : k = 4
          · subst hk4
            have e : Hid ((75 - (D.size : Int)) = (n : Int)) := by
              show _ = _
              rw [HC.out]
              simp only [Nat.sub_self, Tl.cutR]
              omega
            go_wp2_with fail
            go_meet
            case rel => exact ⟨by rw [e.out], rfl⟩
          · have hk3 : k ≤ 3 := by omega
            have hlt4 : (k : Int) < 4 := by omega
            have hi0 : (0 : Int) ≤ 75 - (D.size : Int) - k := by omega
            have hi1 : 75 - (D.size : Int) - k < r.size := by omega
            have hidx : 75 - D.size - k < r.size := by omega
            have hcut : Hid (n = if Tl.goes r[75 - D.size - k] = true then Tl.cutR (Tl.tx r) (75 - D.size) (3 - k) else 75 - D.size - k) := by
              show _ = _
              have e : (Tl.tx r).getD (75 - D.size + (3 - k) - 3) 0 = r[75 - D.size - k] := by
                rw [List.getD_eq_getElem?_getD, show 75 - D.size + (3 - k) - 3 = 75 - D.size - k by omega, List.getElem?_eq_getElem (by rw [Tl.tx_len]; exact hidx)]; rfl
              rw [HC.out, show 4 - k = (3 - k) + 1 by omega, Tl.cutR, e]
              split
              · rfl
              · omega
            by_cases hk33 : k = 3
            · subst hk33
              go_wp2_with fail
              refine (rgoesOn_any _ _).mono ?_
              rintro e W1 ⟨rfl, rfl⟩
              cases hg : Tl.goes r[75 - D.size - 3]
              · have e : Hid (75 - (D.size : Int) - 3 = (n : Int)) := by
                  show _ = _
                  have := hcut.out
                  rw [hg, if_neg (by simp)] at this
                  omega
                clear hcut HC
                go_wp2_with fail
                refine (rgoesOn_any _ _).mono ?_
                rintro e W1 ⟨rfl, rfl⟩
                rw [hg]
                clear hg hidx
                go_wp2_with fail
                go_meet
                case rel => exact ⟨by rw [e.out], rfl⟩
              · have e : Hid (75 - (D.size : Int) = (n : Int)) := by
                  show _ = _
                  have := hcut.out
                  rw [hg, if_pos rfl, Nat.sub_self, Tl.cutR] at this
                  omega
                clear hcut HC hg hidx
                go_wp2_with fail
                go_meet
                case rel => exact ⟨by rw [e.out], rfl⟩
            · have hb3 : ((k : Int) == 3) = false := by rw [beq_eq_false_iff_ne]; omega
              go_wp2_with fail
              refine (rgoesOn_any _ _).mono ?_
              rintro e W1 ⟨rfl, rfl⟩
              cases hg : Tl.goes r[75 - D.size - k]
              · have e : Hid (75 - (D.size : Int) - k = (n : Int)) := by
                  show _ = _
                  have := hcut.out
                  rw [hg, if_neg (by simp)] at this
                  omega
                clear hcut HC hg hidx
                go_wp2_with fail
                go_meet
                case rel => exact ⟨by rw [e.out], rfl⟩
              · have e : Hid (n = Tl.cutR (Tl.tx r) (75 - D.size) (4 - (k + 1))) := by
                  show _ = _
                  have := hcut.out
                  rw [hg, if_pos rfl] at this
                  rw [this]; congr 1; omega
                clear hcut HC hg hidx
                go_wp2
                go_roundw
                case rel => exact ⟨k + 1, by omega, rfl, by go_num, e.out, by trivial⟩
                case measure => simp [intOf]; omega
    case rest =>
      obtain ⟨rfl, rfl⟩ := hcut
      have hsl : Hid (Tl.tx (r.extract 0 n) = (Tl.tx r).take n) := by
        show _ = _
        rw [Tl.tx_extract, List.drop_zero, Nat.sub_zero]
      have hsr : Hid (Tl.tx (r.extract n r.size) = (Tl.tx r).drop n) := by
        show _ = _
        rw [Tl.tx_extract, List.take_of_length_le (by rw [List.length_drop, Tl.tx_len]; omega)]
      have hTl : (Tl.str T).size ≤ 1000000000 := by rw [Tl.str_size]; have := congrArg List.length hT; simp only [List.length_append] at this; omega
      have hsz1 : (r.extract 0 n).size = n := by rw [ByteArray.size_extract]; omega
      have hsz2 : (r.extract n r.size).size = r.size - n := by rw [ByteArray.size_extract]; omega
      have hp := Tl.cutN_pos (Tl.tx r) (75 - D.size) (by omega)
      rw [hnn] at hp
      have hi0 : (0 : Int) ≤ (n : Int) := by omega
      have hi1 : (n : Int) ≤ r.size := by omega
      have hi2 : (n : Int).toNat = n := by omega
      have hz1 : (Tl.str T).size + D.size ≤ 1100000000 := by omega
      have hz2 : (Tl.str T).size + D.size + (r.extract 0 n).size ≤ 1200000000 := by omega
      have q2 : (⟨#[13, 10]⟩ : ByteArray).size = 2 := rfl
      have hz3 : (Tl.str T).size + D.size + (r.extract 0 n).size + (⟨#[13, 10]⟩ : ByteArray).size ≤ 1300000000 := by omega
      have HF := hide hf
      have HT := hide hT
      clear hf hT
      cases hE : ((r.extract n r.size).toList == [])
      · have hnil : (Tl.tx r).drop n ≠ [] := by
          rw [← hsr.out]
          intro e
          rw [(tx_nil_iff _).2 e] at hE
          cases hE
        obtain ⟨p', hf', hp'⟩ := HF.out.cons (by rw [hnn]; exact hnil)
        rw [hnn] at hf' hp'
        have HF' := hide hf'
        rw [← hsr.out] at HF'
        have HT' : Hid ((T ++ Tl.tx D ++ (Tl.tx r).take n ++ [13, 10]) ++ [32] ++ p' = o) := by
          show _ = _
          rw [← HT.out, hp']
          simp only [List.append_assoc]
        have HS : Hid (Tl.str T ++ D ++ r.extract 0 n ++ ⟨#[13, 10]⟩ = Tl.str (T ++ Tl.tx D ++ (Tl.tx r).take n ++ [13, 10])) := by
          show _ = _
          apply Tl.tx_inj
          rw [Tl.tx_str, Tl.tx_app, Tl.tx_app, Tl.tx_app, Tl.tx_str, hsl.out]; rfl
        have hrs : Hid ((r.extract n r.size).size < r.size ∧ (r.extract n r.size).size ≤ s.size) := by
          show _ ∧ _
          rcases hp with h | h
          · exact absurd h hnil
          · omega
        clear hf' hp' hp HF HT hnil hsr hsl hsz2 hnn HN
        generalize hR : r.extract n r.size = R at *
        go_wp2
        go_roundw
        case rel => exact ⟨R, _, p', ⟨#[32]⟩, rfl, by rw [HS.out], rfl, by decide, HF'.out, HT'.out, hrs.out.2, hB⟩
        case measure => exact hrs.out.1
      · have hnil : (Tl.tx r).drop n = [] := by
          rw [← hsr.out]
          exact (tx_nil_iff _).1 hE
        have hp' := HF.out.nil (by rw [hnn]; exact hnil)
        rw [hnn] at hp'
        have HS : Hid (Tl.str T ++ D ++ r.extract 0 n ++ ⟨#[13, 10]⟩ = Tl.str o) := by
          show _ = _
          apply Tl.tx_inj
          rw [Tl.tx_str, Tl.tx_app, Tl.tx_app, Tl.tx_app, Tl.tx_str, hsl.out, ← HT.out, hp']
          simp only [List.append_assoc]; rfl
        clear hp' hp HF HT hnil hsr hsl hsz2 hnn HN
        go_wp2
        go_ret
        exact ⟨by rw [← HS.out]; rfl, hB⟩
end Go.Proofs.YtponocolfjkapaaDoor
