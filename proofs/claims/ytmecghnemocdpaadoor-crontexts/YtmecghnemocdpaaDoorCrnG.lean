/- package cron: word; the reference's numbers, its two closures. -/
import Derived.Test.YtmecghnemocdpaaDoorCrnF
import Derived.Deep.AppendLies
namespace Go.Proofs.YtmecghnemocdpaaDoor
open Go.RowKit Go.Shelf
set_option linter.unusedVariables false
set_option linter.unusedSimpArgs false

/-- the texts, with sep between -/
def joinS (sep : ByteArray) (L : List ByteArray) : ByteArray := ⟨(Lib.join (L.map (·.data.toList)) sep.data.toList).toArray⟩
theorem join_own (base : Nat) (v : Value) (L : List ByteArray) (sep : ByteArray) (w : World) (h : w.ownsRow base 9 1 v L.length (strs L)) (hL : L.length ≤ 1000) (hs : (joinS sep L).size ≤ 100000) :
    Calls Tryd.prog 19 #[v, .string sep] w fun e w' => e = .returned (.string (joinS sep L)) ∧ Below w.heap.size w w' := by
  rcases Nat.eq_zero_or_pos L.length with h0 | h0
  · obtain ⟨a, l, c, rfl⟩ := ownr_form h
    have hl : l = 0 := by
      rcases h.2 with ⟨h', _⟩ | ⟨g, cap, cur, h', _⟩
      · cases h'; rfl
      · cases h'; exact h0
    subst hl
    obtain rfl : L = [] := List.eq_nil_of_length_eq_zero h0
    exact (Tryd.strings_Join_none a c sep w).mono fun e w' ⟨he, hw⟩ => ⟨he, by rw [hw]; exact Below.refl _ _⟩
  · obtain ⟨g, c, rfl, hg, hlt⟩ := h.form h0
    have hcells : ∀ (j : Nat) y, L[j]? = some y → w.cell? ⟨g, 0 + j, none⟩ = some (.string y) := fun j y hj => by
      have hjl : j < L.length := (List.getElem?_eq_some_iff.1 hj).1
      have := World.ownsRow.cellAt h j (by omega)
      rw [Nat.zero_add, this]
      unfold strs
      rw [List.getElem?_map, hj]; rfl
    have hc : L.length ≤ c := by
      rcases h.2 with ⟨h', _⟩ | ⟨g', cap, cur, h', _, _, h1, _⟩
      · cases h'
      · cases h'; exact h1
    refine Tryd.strings_Join g 0 c L sep w hcells hlt (by omega) hc ?_
    have : (joinS sep L).size = (Lib.join (L.map (·.data.toList)) sep.data.toList).length := by show (List.toArray _).size = _; rw [List.size_toArray]
    omega
theorem joinS_com (L : List ByteArray) : joinS ⟨#[44]⟩ L = Crn.joinB L := rfl
theorem its_size (l : List Int) (b : ByteArray) (hs : Sm l) (hb : b.size ≤ 10) : ∀ x ∈ Crn.its l b, x.size ≤ 12 ∧ 0 < x.size := by
  intro x hx
  obtain ⟨n, hn, rfl⟩ := List.mem_map.1 hx
  obtain ⟨k, hk, rfl⟩ := List.mem_iff_getElem.1 hn
  have := hs.2 k hk
  rw [List.getD_eq_getElem?_getD, List.getElem?_eq_getElem hk, Option.getD_some] at this
  have := Crn.dec_size _ this.1 this.2
  rw [ByteArray.size_append]; omega
theorem its_length (l : List Int) (b : ByteArray) : (Crn.its l b).length = l.length := by unfold Crn.its; rw [List.length_map]
theorem its_join (l : List Int) (b : ByteArray) (hs : Sm l) (hb : b.size ≤ 10) : (Crn.joinB (Crn.its l b)).size ≤ 1300 := by
  have h1 := Crn.joinB_size (Crn.its l b) 12 (fun x hx => (its_size l b hs hb x hx).1)
  rw [its_length] at h1
  have := hs.1
  omega
theorem sm_of {lo hi : Int} {l : List Int} (h : Crn.rises lo hi l = true) (b0 : 0 ≤ lo) (b1 : hi < 100) : Sm l := by
  refine ⟨by have := Crn.rises_len h; omega, fun k hk => ?_⟩
  have := Crn.okR_bd (Crn.allB_yes h k hk)
  omega
set_option maxHeartbeats 2000000 in
theorem word_any (lo hi z : Int) (s : ByteArray) (a : Option Addr) (c n : Nat) (l : List Int) (w : World) (h : IL a l w) (hs : Sm l) (b0 : 0 ≤ lo) (b1 : lo ≤ hi) (b2 : hi ≤ 1000) (hn : (n : Int) = hi - lo + 1) :
    Calls Tryd.prog 16 #[kindV lo hi s z, .slice a l.length c] w fun e w' => e = .returned (.string (Crn.word n l)) ∧ Below w.heap.size w w' := by
  have KA := hide (fun W => all_any lo hi z s a c l.length W b0 b1 b2 (by have := hs.1; omega))
  have KI := hide (fun W (hb : Below w.heap.size w W) => items_any a c l ⟨#[]⟩ W (h.later hb) hs (by decide))
  have KJ := hide (fun base v W (ho : World.ownsRow W base 9 1 v l.length (strs (Crn.its l ⟨#[]⟩))) => join_own base v (Crn.its l ⟨#[]⟩) ⟨#[44]⟩ W (by rw [its_length]; exact ho) (by rw [its_length]; have := hs.1; omega) (by rw [joinS_com]; have := its_join l ⟨#[]⟩ hs (by decide); omega))
  rw [joinS_com] at KJ
  have HW : Hid (Crn.word n l = if l.length = n then Crn.star else Crn.joinB (Crn.its l ⟨#[]⟩)) := rfl
  obtain ⟨c0, c1, c2, c3⟩ := (KBox.new w lo hi s z).cells
  have hB0 : Below w.heap.size w (w.alloc (.cells #[.int .i64 lo, .int .i64 hi, .string s, .int .i64 z] 46)) := (Below.refl _ w).alloc (Nat.le_refl _) _
  have HB := hide hB0
  clear hB0
  generalize Crn.word n l = T at *
  generalize Crn.joinB (Crn.its l ⟨#[]⟩) = J at *
  have hd : decide ((l.length : Int) = hi - lo + 1) = decide (l.length = n) := by rw [← hn, decide_eq_decide]; omega
  by_cases hz : l.length = n
  · have e1 := HW.out
    rw [if_pos hz] at e1
    rw [decide_eq_true hz] at hd
    rw [hd] at KA
    clear hd hz
    go_enter Tryd.func16, Tryd.ntmps16
    go_wp2_with fail
    refine (KA.out _).mono ?_
    rintro e W1 ⟨rfl, b1⟩
    have hB := HB.out.trans (b1.mono HB.out.size)
    go_wp2
    go_ret
    exact ⟨by first | rfl | (rw [e1]; rfl), hB⟩
  · have e1 := HW.out
    rw [if_neg hz] at e1
    rw [decide_eq_false hz] at hd
    rw [hd] at KA
    clear hd hz
    go_enter Tryd.func16, Tryd.ntmps16
    go_wp2_with fail
    refine (KA.out _).mono ?_
    rintro e W1 ⟨rfl, b1⟩
    have hB := HB.out.trans (b1.mono HB.out.size)
    go_wp2_with fail
    refine (KI.out _ hB).mono ?_
    rintro e W2 ⟨v, rfl, ho, b2⟩
    have hB2 := hB.trans (b2.mono hB.size)
    go_wp2_with fail
    refine (KJ.out _ _ _ ho).mono ?_
    rintro e W3 ⟨rfl, b3⟩
    have hB3 := hB2.trans (b3.mono hB2.size)
    go_wp2
    go_ret
    exact ⟨by first | rfl | (rw [e1]; rfl), hB3⟩
theorem decs_take (l : List Int) (k : Nat) (h : k < l.length) : (l.map Crn.dec).take (k + 1) = (l.map Crn.dec).take k ++ [Crn.dec (l.getD k 0)] := by
  rw [getD_take_succ _ k ⟨#[]⟩ (by rw [List.length_map]; exact h)]
  rw [List.getD_eq_getElem?_getD, List.getElem?_map, List.getD_eq_getElem?_getD, List.getElem?_eq_getElem h]
  simp only [Option.map_some, Option.getD_some]
set_option maxRecDepth 100000 in
set_option maxHeartbeats 2000000 in
theorem numbers_any (a : Option Addr) (c : Nat) (l : List Int) (w : World) (h : IL a l w) (hs : Sm l) :
    Calls Tryd.prog 11 #[.slice a l.length c] w fun e w' => e = .returned (.string (Crn.joinB (l.map Crn.dec))) ∧ Below w.heap.size w w' := by
  have HL := hide h
  have HS := hide hs
  have HZ : Hid (∀ k, (Crn.joinB ((l.map Crn.dec).take k)).size ≤ 1300) := fun k => by
    have h1 := Crn.joinB_size ((l.map Crn.dec).take k) 12 (fun x hx => by
      have := its_size l ⟨#[]⟩ hs (by decide) x (by rw [Crn.its_nil]; exact List.mem_of_mem_take hx)
      exact this.1)
    have h2 : ((l.map Crn.dec).take k).length ≤ 100 := by rw [List.length_take, List.length_map]; have := hs.1; omega
    omega
  clear h hs
  have HE : Hid ((l.map Crn.dec).take l.length = l.map Crn.dec) := List.take_of_length_le (by rw [List.length_map]; omega)
  go_enter Tryd.func11, Tryd.ntmps11
  go_wp2_with fail
  go_loopw [3, 4] (fun v i wr => ∃ k : Nat, k ≤ l.length ∧ i = .int .i64 k ∧ v = .string (Crn.joinB ((l.map Crn.dec).take k)) ∧ Below w.heap.size w wr) (fun _ i _ => l.length - (intOf i).toNat)
  case atStart => exact ⟨0, by omega, rfl, rfl, Below.refl _ _⟩
  case round =>
    obtain ⟨k, hk, rfl, rfl, hB⟩ := hrel
    have hl := HS.out.1
    by_cases hlt : k < l.length
    · have hki : (k : Int) < l.length := by omega
      obtain ⟨ad, rfl, hc⟩ := (HL.out.later hB) k hlt
      have hx := HS.out.2 k hlt
      have hT := decs_take l k hlt
      have hd := Crn.dec_size (l.getD k 0) hx.1 hx.2
      have K := hide (fun W => itoa_lit (l.getD k 0) W hx.1 hx.2)
      have hz := HZ.out k
      by_cases h0 : k = 0
      · subst h0
        have HT : Hid (Crn.joinB ((l.map Crn.dec).take (0 + 1)) = Crn.dec (l.getD 0 0)) := by
          show _ = _
          rw [hT]; exact Crn.joinB_one _
        have hJ : Crn.joinB ((l.map Crn.dec).take 0) = ⟨#[]⟩ := rfl
        rw [hJ]
        clear hT hz hJ
        generalize l.getD 0 0 = n at *
        generalize Crn.dec n = D at *
        have hs2 : (⟨#[]⟩ : ByteArray).size + D.size ≤ 1000 := by show 0 + D.size ≤ 1000; omega
        rw [show ad.add 0 = ad from rfl] at hc
        go_wp2_with fail
        refine (K.out _).mono ?_
        rintro e W1 ⟨rfl, rfl⟩
        go_wp2
        go_roundw
        case rel => exact ⟨1, by omega, by go_num, by rw [HT.out]; rfl, hB⟩
        case measure => simp [intOf]; omega
      · have HT : Hid (Crn.joinB ((l.map Crn.dec).take (k + 1)) = Crn.joinB ((l.map Crn.dec).take k) ++ ⟨#[44]⟩ ++ Crn.dec (l.getD k 0)) := by
          show _ = _
          rw [hT]
          refine Crn.joinB_snoc _ _ ?_
          intro e
          have := congrArg List.length e
          rw [List.length_take, List.length_map] at this
          simp only [List.length_nil] at this
          omega
        clear hT
        have hki2 : (0 : Int) < k := by omega
        generalize l.getD k 0 = n at *
        generalize Crn.dec n = D at *
        generalize Crn.joinB ((l.map Crn.dec).take k) = J at *
        have q1 : (⟨#[44]⟩ : ByteArray).size = 1 := rfl
        have hs2 : J.size + (⟨#[44]⟩ : ByteArray).size + D.size ≤ 10000 := by rw [q1]; omega
        have hs3 : J.size + (⟨#[44]⟩ : ByteArray).size ≤ 10000 := by rw [q1]; omega
        go_wp2_with fail
        refine (K.out _).mono ?_
        rintro e W1 ⟨rfl, rfl⟩
        go_wp2
        go_roundw
        case rel => exact ⟨k + 1, by omega, by go_num, by rw [HT.out], hB⟩
        case measure => simp [intOf]; omega
    · have hkn : k = l.length := by omega
      have hki : (l.length : Int) ≤ k := by omega
      subst hkn
      rw [HE.out]
      go_wp2
      go_ret
      exact ⟨rfl, hB⟩
theorem ralls_any (a : Option Addr) (c n : Nat) (l : List Int) (w : World) (h : IL a l w) (hs : Sm l) :
    Calls Tryd.prog 10 #[.slice a l.length c, .int .i64 n] w fun e w' => e = .returned (.string (Crn.word n l)) ∧ Below w.heap.size w w' := by
  have KN := hide (fun W (hb : Below w.heap.size w W) => numbers_any a c l W (h.later hb) hs)
  rw [← Crn.its_nil] at KN
  have HW : Hid (Crn.word n l = if l.length = n then Crn.star else Crn.joinB (Crn.its l ⟨#[]⟩)) := rfl
  generalize Crn.word n l = T at *
  generalize Crn.joinB (Crn.its l ⟨#[]⟩) = J at *
  by_cases hz : l.length = n
  · have e1 := HW.out
    rw [if_pos hz] at e1
    subst hz
    go_enter Tryd.func10, Tryd.ntmps10
    go_wp2
    go_ret
    exact ⟨by first | rfl | (rw [e1]; rfl), Below.refl _ _⟩
  · have e1 := HW.out
    rw [if_neg hz] at e1
    have hzi : ¬ (l.length : Int) = n := by omega
    go_enter Tryd.func10, Tryd.ntmps10
    go_wp2_with fail
    refine (KN.out _ (Below.refl _ _)).mono ?_
    rintro e W2 ⟨rfl, b2⟩
    go_wp2
    go_ret
    exact ⟨by first | rfl | (rw [e1]; rfl), b2⟩
end Go.Proofs.YtmecghnemocdpaaDoor
