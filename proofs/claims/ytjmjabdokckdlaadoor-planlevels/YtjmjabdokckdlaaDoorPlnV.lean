/- plan: hasRoomAt. -/
import Derived.Test.YtjmjabdokckdlaaDoorPlnU
namespace Go.Proofs.YtjmjabdokckdlaaDoor
open Go.RowKit Go.Shelf
set_option linter.unusedVariables false
set_option linter.unusedSimpArgs false

/-- the places: a struct of four slices in memory -/
structure PlcW (b : Nat) (P : List Tk) (H : List Int) (s : Sp) (st : Nat → Bool) (tv hv : Value) (q z : Nat) (W : World) : Prop where
  c0 : W.cell? ⟨b, 0, none⟩ = some tv
  c1 : W.cell? ⟨b, 1, none⟩ = some hv
  c2 : W.cell? ⟨b, 2, none⟩ = some (.slice (some ⟨q, 0, none⟩) P.length P.length)
  c3 : W.cell? ⟨b, 3, none⟩ = some (.slice (some ⟨z, 0, none⟩) P.length P.length)
  ts : TsAt W tv P
  hs : NsAt W hv H
  sp : SpAt q P.length s W
  bo : BoAt z P.length st W
theorem PlcW.below {b : Nat} {P : List Tk} {H : List Int} {s : Sp} {st : Nat → Bool} {tv hv : Value} {q z : Nat} {W W' : World} (h : PlcW b P H s st tv hv q z W) (hb : Below W.heap.size W W') : PlcW b P H s st tv hv q z W' :=
  have e {p : Addr} {v : Value} (e : W.cell? p = some v) : W'.cell? p = some v := (hb.cell (World.block_lt_of_cell? W _ e)).trans e
  ⟨e h.c0, e h.c1, e h.c2, e h.c3, h.ts.below hb, h.hs.below hb, h.sp.below hb, h.bo.below hb⟩
/-- is there room at a time, of the first m resources that a task uses -/
def hraN (P : List Tk) (H : List Int) (s : Sp) (st : Nat → Bool) (U : List Int) (t : Int) : Nat → Bool
  | 0 => true
  | m + 1 => hraN P H s st U t m && decide (U.getD m 0 + usd P s st m t P.length ≤ amt H m)
def hra (P : List Tk) (H : List Int) (s : Sp) (st : Nat → Bool) (U : List Int) (t : Int) : Bool := hraN P H s st U t U.length
theorem hraN_no {P : List Tk} {H : List Int} {s : Sp} {st : Nat → Bool} {U : List Int} {t : Int} {m : Nat} (h : hraN P H s st U t m = false) : ∀ k, m ≤ k → hraN P H s st U t k = false
  | k, hk => by
    induction k with
    | zero => have : m = 0 := by omega
              subst this; exact h
    | succ k ih =>
      by_cases e : m = k + 1
      · rw [← e]; exact h
      · rw [hraN, ih (by omega), Bool.false_and]
set_option maxRecDepth 100000 in
set_option maxHeartbeats 4000000 in
theorem hasRoomAt_any {P : List Tk} (hG : Good P) (H : List Int) (s : Sp) (st : Nat → Bool) (b : Nat) (tv hv : Value) (q z : Nat) (U : List Int) (hU : ∀ x ∈ U, 0 ≤ x ∧ x ≤ 1000000) (hUl : U.length ≤ 8) (x0 x1 : Int) (lv uv : Value) (hlv : ∃ a l c, lv = .slice a l c) (t : Int) (w : World) (hp : PlcW b P H s st tv hv q z w) (hu : NsAt w uv U) :
    Calls Tryd.prog 79 #[.pointer (some ⟨b, 0, none⟩), .agg #[.int .i64 x0, .int .i64 x1, lv, uv], .int .i64 t] w fun e w' => e = .returned (.bool (hra P H s st U t)) ∧ Below w.heap.size w w' := by
  obtain ⟨la, ll, lc, rfl⟩ := hlv
  obtain ⟨ua, uc, rfl, hul⟩ := hu
  have h60 := hG.n60
  have HP := hide hp
  have HG := hide hG
  have HUU := hide hU
  have HUL := hide hul
  have hn0 := (Below.refl _ w).alloc (Nat.le_refl _) (.cells #[.int .i64 x0, .int .i64 x1, .slice la ll lc, .slice ua U.length uc] 45)
  have HN0 := hide hn0
  clear hp hG hU hul hn0
  go_enter Tryd.func79, Tryd.ntmps79
  have c2 := HP.out.c2
  go_wp2_with fail
  go_loopw [14] (fun j wr => ∃ m : Nat, m ≤ U.length ∧ j = .int .i64 m ∧ hraN P H s st U t m = true ∧ Below w.heap.size w wr) (fun j _ => U.length - (intOf j).toNat)
  case atStart => exact ⟨0, by omega, rfl, rfl, HN0.out⟩
  case round =>
    clear c2
    obtain ⟨m, hm, rfl, hh, hB⟩ := hrel
    by_cases hlt : m < U.length
    · have hmi : (m : Int) < (U.length : Int) := by omega
      obtain ⟨g, o, rfl, y0⟩ := HUL.out m hlt
      have x0' := (hB.cell (World.block_lt_of_cell? w _ y0)).trans y0
      have hub := HUU.out (U.getD m 0) (by rw [List.getD_eq_getElem?_getD, List.getElem?_eq_getElem hlt]; exact List.getElem_mem hlt)
      have c2 := (HP.out.below hB).c2
      have hnx : hraN P H s st U t (m + 1) = (hraN P H s st U t m && decide (U.getD m 0 + usd P s st m t P.length ≤ amt H m)) := rfl
      rw [hh, Bool.true_and] at hnx
      have HNX := hide hnx
      have HB := hide hB
      clear y0 hB hnx
      generalize hum : U.getD m 0 = um at *
      go_wp2_with fail
      go_loopw [8, 24] (fun uv kv wr => ∃ k : Nat, k ≤ P.length ∧ kv = .int .i64 k ∧ uv = .int .i64 (um + usd P s st m t k) ∧ Below w.heap.size w wr) (fun _ kv _ => P.length - (intOf kv).toNat)
      case atStart => exact ⟨0, by omega, rfl, by simp [usd], HB.out⟩
      case round =>
        clear HB c2 x0'
        obtain ⟨k, hk, rfl, rfl, hB⟩ := hrel
        by_cases hkl : k < P.length
        · have hki : (k : Int) < (P.length : Int) := by omega
          have hp := HP.out.below hB
          have s0 := (hp.sp k hkl).1
          have s1 := (hp.sp k hkl).2
          have b0 := hp.bo k hkl
          have c0 := hp.c0
          have c3 := hp.c3
          obtain ⟨ad, cap, rfl, hall⟩ := hp.ts
          obtain ⟨tg, to, lv2, uv2, rfl, _, _, _, y3, _, hus⟩ := hall k hkl
          have hsu : usd P s st m t (k + 1) = usd P s st m t k + if st k = true ∧ (s k).1 ≤ t ∧ t < (s k).2 then amt (tk P k).uses m else 0 := rfl
          have hub2 := usd_bd HG.out s st m t k (by omega)
          have ham := amt_bd HG.out k hkl m
          have hbz : b < wr.heap.size := World.block_lt_of_cell? wr _ c0
          have hzz : z < wr.heap.size := World.block_lt_of_cell? wr _ b0
          have htz : tg < wr.heap.size := World.block_lt_of_cell? wr _ y3
          have hBn := hB.alloc hB.size (.cells #[.int .i64 (s k).1, .int .i64 (s k).2] 37)
          have hnn := (Below.refl _ wr).alloc (Nat.le_refl _) (.cells #[.int .i64 (s k).1, .int .i64 (s k).2] 37)
          have KA := hide (fun W (hb : Below (wr.alloc (.cells #[.int .i64 (s k).1, .int .i64 (s k).2] 37)).heap.size (wr.alloc (.cells #[.int .i64 (s k).1, .int .i64 (s k).2] 37)) W) => amount_any (tk P k).uses m uv2 W ((hus.below hnn).below hb))
          obtain ⟨ua2, uc2, rfl, _⟩ := hus
          have HBn := hide hBn
          clear hall hp hB hBn hnn
          generalize amt (tk P k).uses m = am at *
          generalize (tk P k).uses.length = ul at *
          generalize usd P s st m t k = u at *
          generalize (s k).1 = f at *
          generalize (s k).2 = e at *
          have hwu := wrap64_id (x := um + u + am) (by omega) (by omega)
          cases hst : st k with
          | false =>
            rw [hst] at b0
            rw [hst, if_neg (by simp)] at hsu
            go_wp2_with fail
            go_roundw
            case rel => exact ⟨k + 1, by omega, by go_num, by rw [hsu, Int.add_zero], HBn.out⟩
            case measure => simp [intOf]; omega
          | true =>
            rw [hst] at b0
            by_cases h1 : f ≤ t
            · by_cases h2 : t < e
              · rw [hst, if_pos ⟨rfl, h1, h2⟩] at hsu
                go_wp2_with (go_at_call 51; refine (KA.out _ (Below.refl _ _)).mono ?_; rintro e X ⟨rfl, rfl⟩)
                go_roundw
                case rel => exact ⟨k + 1, by omega, by go_num, by rw [hsu, ← Int.add_assoc], HBn.out⟩
                case measure => simp [intOf]; omega
              · rw [hst, if_neg (fun h => h2 h.2.2)] at hsu
                go_wp2_with fail
                go_roundw
                case rel => exact ⟨k + 1, by omega, by go_num, by rw [hsu, Int.add_zero], HBn.out⟩
                case measure => simp [intOf]; omega
            · rw [hst, if_neg (fun h => h1 h.2.1)] at hsu
              go_wp2_with fail
              go_roundw
              case rel => exact ⟨k + 1, by omega, by go_num, by rw [hsu, Int.add_zero], HBn.out⟩
              case measure => simp [intOf]; omega
        · obtain rfl : k = P.length := by omega
          have hp := HP.out.below hB
          have c1 := hp.c1
          have KA := hide (fun W (hb : Below wr.heap.size wr W) => amount_any H m hv W (hp.hs.below hb))
          obtain ⟨ha, hc, rfl, _⟩ := hp.hs
          have HB := hide hB
          clear hp hB
          have hnx := HNX.out
          generalize usd P s st m t P.length = u at *
          generalize amt H m = am at *
          by_cases hd : um + u ≤ am
          · rw [decide_eq_true hd] at hnx
            go_wp2_with (go_at_call 51; refine (KA.out _ (Below.refl _ _)).mono ?_; rintro e X ⟨rfl, rfl⟩)
            go_roundw
            case rel => exact ⟨m + 1, by omega, by go_num, hnx, HB.out⟩
            case measure => simp [intOf]; omega
          · rw [decide_eq_false hd] at hnx
            have hfin : hra P H s st U t = false := hraN_no hnx _ (by omega)
            go_wp2_with (go_at_call 51; refine (KA.out _ (Below.refl _ _)).mono ?_; rintro e X ⟨rfl, rfl⟩)
            go_ret
            exact ⟨ret_bool hfin.symm, HB.out⟩
    · obtain rfl : m = U.length := by omega
      have HB := hide hB
      clear hB
      go_wp2_with fail
      go_ret
      exact ⟨ret_bool hh.symm, HB.out⟩
end Go.Proofs.YtjmjabdokckdlaaDoor
