/- the reference of plans: Member, order. -/
import Derived.Test.YtjmjabdokckdlaaDoorPlnE
namespace Go.Proofs.YtjmjabdokckdlaaDoor
open Go.RowKit
set_option linter.unusedVariables false
set_option linter.unusedSimpArgs false

theorem member_any (zs : List Int) (hz : zs.length ≤ 1000000) (n : Int) (v : Value) (w : World) (hv : NsAt w v zs) :
    Calls Tryd.prog 38 #[v, .int .i64 n] w fun e w' => e = .returned (.bool (decide (n ∈ zs))) ∧ w' = w := by
  obtain ⟨ad, c, rfl, hall⟩ := hv
  have HALL := hide hall
  clear hall
  go_enter Tryd.func38, Tryd.ntmps38
  go_wp2_with fail
  go_loopw [5] (fun j wr => ∃ m : Nat, m ≤ zs.length ∧ j = .int .i64 m ∧ (∀ x ∈ zs.take m, x ≠ n) ∧ wr = w) (fun j _ => zs.length - (intOf j).toNat)
  case atStart => exact ⟨0, by omega, rfl, fun x hx => by simp at hx, rfl⟩
  case round =>
    obtain ⟨m, hm, rfl, hno, rfl⟩ := hrel
    by_cases hlt : m < zs.length
    · have hmi : (m : Int) < (zs.length : Int) := by omega
      obtain ⟨g, o, rfl, y0⟩ := HALL.out m hlt
      have hg : zs.getD m 0 = zs[m] := by rw [List.getD_eq_getElem?_getD, List.getElem?_eq_getElem hlt]; rfl
      have hmem : zs[m] ∈ zs := List.getElem_mem hlt
      have hnx : zs.take (m + 1) = zs.take m ++ [zs[m]] := List.take_succ_eq_append_getElem hlt
      rw [hg] at y0
      have HNO := hide hno
      clear hno hg
      generalize zs[m] = x at *
      by_cases hx : x = n
      · subst hx
        go_wp2_with fail
        go_ret
        exact ⟨ret_bool (decide_eq_true hmem).symm, rfl⟩
      · have hxb : (x == n) = false := beq_eq_false_iff_ne.2 hx
        go_wp2_with fail
        go_roundw
        case rel => exact ⟨m + 1, by omega, by go_num, fun y hy => (by
          rw [hnx] at hy
          rcases List.mem_append.1 hy with h | h
          · exact HNO.out y h
          · rw [List.mem_singleton.1 h]; exact hx), by first | rfl | trivial⟩
        case measure => simp [intOf]; omega
    · obtain rfl : m = zs.length := by omega
      rw [List.take_length] at hno
      have hfin : decide (n ∈ zs) = false := decide_eq_false fun h => hno n h rfl
      clear hno
      go_wp2_with fail
      go_ret
      exact ⟨ret_bool hfin.symm, rfl⟩
theorem ownN_ns {X : World} {base : Nat} {v : Value} {r : List Nat} (h : OwnN X base v r) : NsAt X v (r.map fun (i : Nat) => (i : Int)) := by
  rcases h.2 with ⟨rfl, e⟩ | ⟨g, cap, cur, rfl, _⟩
  · have : r = [] := List.eq_nil_of_length_eq_zero e
    subst this
    exact ⟨none, 0, rfl, fun j hj => absurd hj (Nat.not_lt_zero _)⟩
  · refine ⟨some ⟨g, 0, none⟩, cap, by rw [List.length_map], fun j hj => ⟨g, 0, rfl, ?_⟩⟩
    rw [List.length_map] at hj
    have := (h.cellAt j (by omega)).trans (nV_at r j hj)
    rw [List.getD_eq_getElem?_getD, List.getElem?_map, List.getElem?_eq_getElem hj]
    simpa using this
theorem mem_nats (r : List Nat) (i : Nat) : decide ((i : Int) ∈ r.map fun (i : Nat) => (i : Int)) = decide (i ∈ r) := by
  rw [decide_eq_decide, List.mem_map]
  constructor
  · rintro ⟨a, h, e⟩
    have : a = i := by omega
    rw [← this]; exact h
  · intro h; exact ⟨i, h, rfl⟩
theorem membN_any (r : List Nat) (hr : r.length ≤ 1000000) (i : Nat) (base : Nat) (v : Value) (w : World) (hv : OwnN w base v r) :
    Calls Tryd.prog 38 #[v, .int .i64 (i : Int)] w fun e w' => e = .returned (.bool (decide (i ∈ r))) ∧ w' = w := by
  have := member_any (r.map fun (i : Nat) => (i : Int)) (by rw [List.length_map]; exact hr) (i : Int) v w (ownN_ns hv)
  rw [mem_nats] at this
  exact this
def boV : Value → Nat
  | .bool true => 1
  | _ => 0
/-- what the reference's order keeps -/
structure RoS (w : World) (v : Value) (r : List Nat) (X : World) : Prop where
  own : OwnN X w.heap.size v r
  b : Below w.heap.size w X
theorem RoS.step {w : World} {v : Value} {r : List Nat} {X X' : World} (h : RoS w v r X) (hb : Below X.heap.size X X') : RoS w v r X' := ⟨own_bel h.own hb, h.b.trans (hb.mono h.b.size)⟩
theorem pas1_eq (P : List Tk) (r : List Nat) (i : Nat) : pas1 P r i = if (!decide (i ∈ r) && hav (inR r) (tk P i).links) = true then r ++ [i] else r := by
  unfold pas1 inR
  by_cases h : i ∈ r
  · simp [h]
  · simp [h]
set_option maxRecDepth 100000 in
set_option maxHeartbeats 4000000 in
theorem rorder_any {P : List Tk} (hG : Good P) (v : Value) (w : World) (hv : TsAt w v P) :
    Calls Tryd.prog 29 #[v] w fun e w' => ∃ u, e = .returned u ∧ OwnN w' w.heap.size u (ord P) ∧ Topo P (ord P) ∧ Below w.heap.size w w' := by
  obtain ⟨ad, cap, rfl, hall⟩ := hv
  have HALL := hide hall
  have h60 := hG.n60
  have HG := hide hG
  clear hall hG
  obtain ⟨i0, hi, hz0, hz1, hz2⟩ := info_parts int_info
  have hO : RoS w (.slice none 0 0) [] w := ⟨own_nil _ _, Below.refl _ _⟩
  have HO := hide hO
  clear hO
  go_enter Tryd.func29, Tryd.ntmps29
  go_wp2_with fail
  go_loopw [3, 4] (fun rv av wr => ∃ (r : List Nat) (a : Bool), RoS w rv r wr ∧ av = .bool a ∧ Topo P r ∧ (a = true → ∀ z, Ends P r z → Ends P [] z) ∧ (a = false → Ends P [] r)) (fun rv av _ => 2 * (P.length - lenV rv) + boV av)
  case atStart => exact ⟨[], true, HO.out, rfl, .nil, fun _ _ h => h, fun h => by cases h⟩
  case round =>
    clear HO
    obtain ⟨r, a, hO, rfl, hT, hE, hF⟩ := hrel
    cases a with
    | false =>
      have ho := ord_eq (hF rfl)
      have HO := hide hO
      have HT := hide hT
      clear hO hT hE hF
      go_wp2_with fail
      go_ret
      exact ⟨_, rfl, by rw [ho]; exact HO.out.own, by rw [ho]; exact HT.out, HO.out.b⟩
    | true =>
      have hE := hE rfl
      clear hF
      obtain ⟨ra, rc, rfl⟩ := (own_len hO.own).2
      have hrle := hT.le
      have HO := hide hO
      have HT := hide hT
      have HE := hide hE
      clear hO hT hE
      go_wp2_with fail
      go_loopw [3, 4, 5] (fun rv av j wr => ∃ m : Nat, m ≤ P.length ∧ j = .int .i64 m ∧ RoS w rv (pasN P r m) wr ∧ av = .bool (decide ((pasN P r m).length ≠ r.length))) (fun _ _ j _ => P.length - (intOf j).toNat)
      case atStart => exact ⟨0, by omega, rfl, HO.out, by simp [pasN]⟩
      case round =>
        clear HO
        obtain ⟨m, hm, rfl, hO, rfl⟩ := hrel
        obtain ⟨sa, sc, rfl⟩ := (own_len hO.own).2
        have hTm := HT.out.pasN m hm
        have hsl := hTm.le
        have hnext : pasN P r (m + 1) = pas1 P (pasN P r m) m := rfl
        have hrl := pasN_len P r m
        generalize hps : pasN P r m = s at *
        by_cases hlt : m < P.length
        · have hmi : (m : Int) < (P.length : Int) := by omega
          obtain ⟨g, o, lv, uv, rfl, y0, y1, y2, y3, hls, hus⟩ := HALL.out m hlt
          obtain ⟨la, lc, rfl, hlx⟩ := hls
          have hB := hO.b
          have hy2 := (hB.cell (World.block_lt_of_cell? w _ y2)).trans y2
          have hlk := HG.out.link m hlt
          have hcn := (HG.out.cnt m hlt).1
          rw [pas1_eq] at hnext
          have KM := hide (fun i W (hb : Below wr.heap.size wr W) => membN_any s (by omega) i w.heap.size _ W (hO.step hb).own)
          have HO := hide hO
          have HL := hide hlx
          have HLK := hide hlk
          have htk := hav_take (inR s) (tk P m).links
          have HTK := hide htk
          clear y0 y1 y2 y3 hus hlx hB hO hlk hTm htk
          generalize (tk P m).links = L at *
          go_wp2_with (go_at_call 38; refine (KM.out m _ (Below.refl _ _)).mono ?_; rintro e X ⟨rfl, rfl⟩)
          go_loopw [6, 26] (fun ov j wx => ∃ k : Nat, k ≤ L.length ∧ j = .int .i64 k ∧ ov = .bool (!decide (m ∈ s) && hav (inR s) (L.take k)) ∧ Below X.heap.size X wx) (fun _ j _ => L.length - (intOf j).toNat)
          case atStart => exact ⟨0, by omega, rfl, by simp [hav], Below.refl _ _⟩
          case round =>
            obtain ⟨k, hk, rfl, rfl, hBx⟩ := hrel
            by_cases hkl : k < L.length
            · have hki : (k : Int) < (L.length : Int) := by omega
              obtain ⟨g1, o1, rfl, z0, z1, z2⟩ := HL.out k hkl
              have hx := HLK.out _ (lk_mem L k hkl)
              have hbw := (HO.out.step hBx).b
              have x0 := (hbw.cell (World.block_lt_of_cell? w _ z0)).trans z0
              have x1 := (hbw.cell (World.block_lt_of_cell? w _ z1)).trans z1
              have x2 := (hbw.cell (World.block_lt_of_cell? w _ z2)).trans z2
              have hst := HTK.out k hkl
              generalize lk L k = x at *
              obtain ⟨xt, xk, xg⟩ := x
              dsimp only at hx x0 x1 x2 hst
              obtain ⟨t, rfl⟩ : ∃ t : Nat, xt = (t : Int) := ⟨xt.toNat, by omega⟩
              rw [Int.toNat_natCast] at hst
              have hir : inR s t = decide (t ∈ s) := rfl
              rw [hir] at hst
              have hBn := hBx.alloc hBx.size (.cells #[.int .i64 (t : Int), .int .i64 xk, .int .i64 xg] 47)
              have KX := hide (KM.out t _ hBn)
              have HBn := hide hBn
              clear z0 z1 z2 hbw hBx hBn hir
              cases hok : (!decide (m ∈ s) && hav (inR s) (L.take k)) with
              | true =>
                generalize decide (t ∈ s) = b at *
                have hnew : (!decide (m ∈ s) && hav (inR s) (L.take (k + 1))) = b := by rw [hst, ← Bool.and_assoc, hok, Bool.true_and]
                go_wp2_with (go_at_call 38; refine KX.out.mono ?_; rintro e X ⟨rfl, rfl⟩)
                go_roundw
                case rel => exact ⟨k + 1, by omega, by go_num, by rw [hnew], HBn.out⟩
                case measure => simp [intOf]; omega
              | false =>
                have hnew : (!decide (m ∈ s) && hav (inR s) (L.take (k + 1))) = false := by rw [hst, ← Bool.and_assoc, hok, Bool.false_and]
                go_wp2_with fail
                go_roundw
                case rel => exact ⟨k + 1, by omega, by go_num, by rw [hnew], HBn.out⟩
                case measure => simp [intOf]; omega
            · obtain rfl : k = L.length := by omega
              rw [List.take_length] at *
              have hO2 := HO.out.step hBx
              have hz := hO2.b.size
              have hcn1 := cell_one_new wr (.int .i64 (m : Int)) 3
              clear hBx
              cases hok : (!decide (m ∈ s) && hav (inR s) L) with
              | true =>
                rw [hok, if_pos rfl] at hnext
                have HOX := hide hO2
                clear hO2 KM
                go_wp2_with (at_builtin; refine wpList_append_own _ rfl _ _ 31 rfl w.heap.size 3 i0 (.int .i64 0) 1 8 Tryd.underlying31 hi hz0 hz1 hz2 rfl (by decide) _ _ _ rfl (HOX.out.own.alloc _) ⟨wr.heap.size, 0, none⟩ 1 1 [.int .i64 m] rfl rfl hcn1 (ints_oneCell .i64 [(m : Int)]) (by unfold maxLen; omega) (by omega) (by simp; omega) ?_; intro v' w1 hown1 hgrow1 hnil1)
                have hr1 := HOX.out.own.alloc (.cells #[.int .i64 (m : Int)] 3)
                have hb1 : Below w.heap.size w w1 := (HOX.out.b.alloc hz _).grown hgrow1 (by simp; omega) (fun j hj => (hr1.lt j hj).1)
                go_roundw
                case rel => exact ⟨m + 1, by omega, by go_num, ⟨by rw [hnext]; unfold OwnN; rw [nV_snoc, List.length_append]; exact hown1, hb1⟩, by rw [hnext, List.length_append]; exact congrArg Value.bool (decide_eq_true (show s.length + 1 ≠ r.length by omega)).symm⟩
                case measure => simp [intOf]; omega
              | false =>
                rw [hok, if_neg (by simp)] at hnext
                have HOX := hide hO2
                clear hO2 KM
                go_wp2_with fail
                go_roundw
                case rel => exact ⟨m + 1, by omega, by go_num, by rw [hnext]; exact HOX.out, by rw [hnext]; first | rfl | simp⟩
                case measure => simp [intOf]; omega
        · obtain rfl : m = P.length := by omega
          have HO := hide hO
          have hps' : pas P r = s := hps
          clear hO
          have hE1 : decide (s.length ≠ r.length) = true → ∀ z, Ends P s z → Ends P [] z := fun h z hz => HE.out z (.step r z (by rw [hps']; exact of_decide_eq_true h) (by rw [hps']; exact hz))
          have hE2 : decide (s.length ≠ r.length) = false → Ends P [] s := fun h => HE.out s (by
            have h2 : s.length = r.length := by
              have := of_decide_eq_false h
              omega
            have := Ends.fin (P := P) r (by rw [hps']; exact h2)
            rw [hps'] at this; exact this)
          have HE12 := hide (And.intro hE1 hE2)
          have hmeas : 2 * (P.length - s.length) + boV (.bool (decide (s.length ≠ r.length))) < 2 * (P.length - r.length) + boV (.bool true) := by
            by_cases h : s.length = r.length
            · rw [decide_eq_false (by omega), h]; simp [boV]
            · rw [decide_eq_true h]; simp [boV]; omega
          have HM := hide hmeas
          clear hE1 hE2 hmeas
          generalize decide (s.length ≠ r.length) = d at *
          go_wp2_with fail
          exact ⟨⟨s, d, HO.out, rfl, hTm, HE12.out.1, HE12.out.2⟩, HM.out⟩
end Go.Proofs.YtjmjabdokckdlaaDoor
