/- package cron: items, word; the reference's numbers. -/
import Derived.Test.YtmecghnemocdpaaDoorCrnDm
import Derived.Test.YtmecghnemocdpaaDoorSh
import Derived.Laws.AppendOwn
import Derived.OwnWalk
namespace Go.Proofs.YtmecghnemocdpaaDoor
open Go.RowKit Go.Shelf
set_option linter.unusedVariables false
set_option linter.unusedSimpArgs false

def strs (l : List ByteArray) : List Value := l.map .string
theorem strs_app (l m : List ByteArray) : strs (l ++ m) = strs l ++ strs m := by unfold strs; rw [List.map_append]
theorem strs_len (l : List ByteArray) : (strs l).length = l.length := by unfold strs; rw [List.length_map]
theorem infoStr : (Tryd.prog.info? 9).map (fun i => (i.zero, i.size, i.bytes)) = some (some (.string ⟨#[]⟩), 1, 16) := by kernel_rfl
theorem info_of {P : Program} {t : TypeId} {z : Value} {s b : Nat} (h : (P.info? t).map (fun i => (i.zero, i.size, i.bytes)) = some (some z, s, b)) : ∃ i, P.info? t = some i ∧ i.zero = some z ∧ i.size = s ∧ i.bytes = b := by
  cases hi : P.info? t with
  | none => rw [hi] at h; cases h
  | some i =>
    rw [hi] at h
    simp only [Option.map_some, Option.some.injEq, Prod.mk.injEq] at h
    exact ⟨i, rfl, h.1, h.2.1, h.2.2⟩
theorem ownr_form {w : World} {b : Nat} {e : TypeId} {z : Nat} {v : Value} {n : Nat} {xs : List Value} (h : w.ownsRow b e z v n xs) : ∃ a l c, v = .slice a l c := by
  rcases h.2 with ⟨h', _⟩ | ⟨g, cap, cur, h', _⟩
  · exact ⟨_, _, _, h'⟩
  · exact ⟨_, _, _, h'⟩
theorem getD_take_succ {α : Type} (l : List α) (k : Nat) (d : α) (h : k < l.length) : l.take (k + 1) = l.take k ++ [l.getD k d] := by
  rw [List.take_add_one, List.getElem?_eq_getElem h, List.getD_eq_getElem?_getD, List.getElem?_eq_getElem h]; rfl
theorem itoa_lit (x : Int) (W : World) (h0 : 0 ≤ x) (h1 : x < 100) : Calls Tryd.prog 13 #[.int .i64 x] W fun e w' => e = .returned (.string (Crn.dec x)) ∧ w' = W := by
  have := Tryd.strconv_Itoa_small x.toNat (by omega) W
  rw [show ((x.toNat : Nat) : Int) = x by omega] at this
  refine this.mono fun e w' ⟨he, hw⟩ => ⟨?_, hw⟩
  rw [he]
  unfold Crn.dec
  rw [show Lib.itoa x = Lib.decDigits x.toNat by rw [← Lib.itoa_nonneg]; congr 1; omega]
theorem its_get (l : List Int) (b : ByteArray) (k : Nat) (h : k < l.length) (d : ByteArray) : (Crn.its l b).getD k d = Crn.dec (l.getD k 0) ++ b := by
  unfold Crn.its
  rw [List.getD_eq_getElem?_getD, List.getElem?_map, List.getD_eq_getElem?_getD, List.getElem?_eq_getElem h]
  simp only [Option.map_some, Option.getD_some]
/-- numbers below a hundred -/
def Sm (l : List Int) : Prop := l.length ≤ 100 ∧ ∀ k, k < l.length → 0 ≤ l.getD k 0 ∧ l.getD k 0 < 100
set_option maxRecDepth 100000 in
set_option maxHeartbeats 2000000 in
theorem items_any (a : Option Addr) (c : Nat) (l : List Int) (b : ByteArray) (w : World) (h : IL a l w) (hs : Sm l) (hb : b.size ≤ 10) :
    Calls Tryd.prog 25 #[.slice a l.length c, .string b] w fun e w' => ∃ v, e = .returned v ∧ w'.ownsRow w.heap.size 9 1 v l.length (strs (Crn.its l b)) ∧ Below w.heap.size w w' := by
  obtain ⟨i0, hi, hz0, hz1, hz2⟩ := info_of infoStr
  have HL := hide h
  have HS := hide hs
  clear h hs
  go_enter Tryd.func25, Tryd.ntmps25
  go_wp2_with fail
  go_loopw [5, 10] (fun v i wr => ∃ k : Nat, k ≤ l.length ∧ i = .int .i64 k ∧ wr.ownsRow w.heap.size 9 1 v k (strs ((Crn.its l b).take k)) ∧ Below w.heap.size w wr) (fun _ i _ => l.length - (intOf i).toNat)
  case atStart => exact ⟨0, by omega, rfl, World.ownsRow_nil _ _ _ _, Below.refl _ _⟩
  case round =>
    obtain ⟨k, hk, rfl, hown, hB⟩ := hrel
    have hl := HS.out.1
    by_cases hlt : k < l.length
    · have hki : (k : Int) < l.length := by omega
      obtain ⟨ad, rfl, hc⟩ := (HL.out.later hB) k hlt
      have hx := HS.out.2 k hlt
      have hlen : k < (Crn.its l b).length := by unfold Crn.its; rw [List.length_map]; exact hlt
      have hT : (Crn.its l b).take (k + 1) = (Crn.its l b).take k ++ [Crn.dec (l.getD k 0) ++ b] := by
        rw [getD_take_succ _ k ⟨#[]⟩ hlen]
        rw [its_get l b k hlt ⟨#[]⟩]
      have HT := hide hT
      clear hT hlen
      have hd := Crn.dec_size (l.getD k 0) hx.1 hx.2
      have K := hide (fun W => itoa_lit (l.getD k 0) W hx.1 hx.2)
      generalize l.getD k 0 = n at *
      generalize Crn.dec n = D at *
      have hs2 : D.size + b.size ≤ 1000 := by omega
      generalize (Crn.its l b).take k = xs at *
      go_wp2_with fail
      refine (K.out _).mono ?_
      rintro e W1 ⟨rfl, rfl⟩
      go_wp2_with (at_builtin; refine wpList_append_own _ rfl (.tmp 14) (.tmp 19) 48 rfl w.heap.size 9 i0 (.string ⟨#[]⟩) 1 16 Tryd.underlying48 hi hz0 hz1 hz2 rfl (by decide) _ _ _ rfl (hown.alloc _) ⟨W1.heap.size, 0, none⟩ 1 1 [.string (D ++ b)] rfl rfl ?c1 ?c2 ?c3 ?c4 ?c5 ?_)
      case c2 => simp [Value.oneCell']
      case c3 => unfold maxLen; omega
      case c4 => omega
      case c5 => have := hB.size; simp; omega
      case c1 => intro j u hj; match j, hj with | 0, hj => (simp at hj; subst hj; simp [Addr.add])
      intro v1 w1 hown1 hgrow _
      have hB1 : Below w.heap.size w w1 := (hB.alloc hB.size _).grown hgrow (by have := hB.size; simp; omega) (fun j hj => (hown.lt j hj).1)
      have hown2 : w1.ownsRow w.heap.size 9 1 v1 (k + 1) (strs (xs ++ [D ++ b])) := by rw [strs_app]; exact hown1
      rw [← HT.out] at hown2
      clear hgrow hown1
      obtain ⟨a1, l1, c1, rfl⟩ := ownr_form hown2
      go_wp2
      go_roundw
      case rel => exact ⟨k + 1, by omega, by go_num, hown2, hB1⟩
      case measure => simp [intOf]; omega
    · have hkn : k = l.length := by omega
      have hki : (l.length : Int) ≤ k := by omega
      subst hkn
      rw [List.take_of_length_le (by unfold Crn.its; rw [List.length_map]; omega)] at hown
      obtain ⟨a1, l1, c1, rfl⟩ := ownr_form hown
      go_wp2
      go_ret
      exact ⟨_, rfl, hown, hB⟩
end Go.Proofs.YtmecghnemocdpaaDoor
