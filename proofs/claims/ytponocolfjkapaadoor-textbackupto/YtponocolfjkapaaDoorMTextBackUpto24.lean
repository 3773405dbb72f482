/- package text: (*checker).part. -/
import Derived.Test.YtponocolfjkapaaDoorMTextBackUpto22
import Derived.Deep.Cut
namespace Go.Proofs.YtponocolfjkapaaDoor
open Go.RowKit Go.Shelf
set_option linter.unusedVariables false
set_option linter.unusedSimpArgs false

mutual
theorem chk_bd : ∀ (t : PPt) (d n : Int), 0 ≤ n → (chk t d n).1 = 0 → 0 ≤ (chk t d n).2 ∧ (chk t d n).2 ≤ 2000
  | .mk nm ls ks, d, n, h0, h => by
    unfold chk at h ⊢
    split at h
    · exact absurd h (by show ¬ (6 : Int) = 0; decide)
    · split at h
      · exact absurd h (by show ¬ (6 : Int) = 0; decide)
      · split at h
        · exact absurd h (by show ¬ (8 : Int) = 0; decide)
        · split at h
          · rename_i e1 e2 e3 e4
            rw [if_neg e1, if_neg e2, if_neg e3, if_pos e4]
            exact chks_bd ks (d + 1) _ (by omega) (by omega) h
          · rename_i e4
            exact absurd h e4
theorem chks_bd : ∀ (ks : List PPt) (d n : Int), 0 ≤ n → n ≤ 2000 → (chks ks d n).1 = 0 → 0 ≤ (chks ks d n).2 ∧ (chks ks d n).2 ≤ 2000
  | [], d, n, h0, h1, _ => by unfold chks; exact ⟨h0, h1⟩
  | k :: ks, d, n, h0, h1, h => by
    unfold chks at h ⊢
    split at h
    · rename_i e
      rw [if_pos e]
      obtain ⟨a, b⟩ := chk_bd k d n h0 e
      exact chks_bd ks d _ a b h
    · rename_i e
      exact absurd h e
end
/-- what part says of a part -/
def PartC (t : PPt) : Prop := ∀ (v : Value) (B : Nat) (d n : Int) (w : World), PtM t v w → Boxed w B 66 (.int .i64 n) → 0 ≤ d → d ≤ 9 → 0 ≤ n → n ≤ 2000 →
  Calls Tryd.prog 27 #[.pointer (some ⟨B, 0, none⟩), v, .int .i64 d] w fun e w' => e = .returned (erV (chk t d n).1) ∧ Boxed w' B 66 (.int .i64 (chk t d n).2) ∧ KB B w w'
/-- what the walk keeps: the counter, the part's box, the part -/
structure GW (w : World) (B : Nat) (nm : ByteArray) (ls : List PLn) (ks : List PPt) (A A2 : Option Addr) (c c2 : Nat) (m : Int) (W : World) : Prop where
  b : Boxed W B 66 (.int .i64 m)
  p : W.heap[w.heap.size]? = some (.cells #[.string nm, .slice A ls.length c, .slice A2 ks.length c2] 25 (0, 0))
  l : LS A ls W
  k : KsM ks A2 0 W
  e : KB B w W
  lt : B < w.heap.size
theorem GW.cells {w : World} {B : Nat} {nm : ByteArray} {ls : List PLn} {ks : List PPt} {A A2 : Option Addr} {c c2 : Nat} {m : Int} {W : World} (h : GW w B nm ls ks A A2 c c2 m W) :
    W.cell? ⟨w.heap.size, 0, none⟩ = some (.string nm) ∧ W.cell? ⟨w.heap.size, 1, none⟩ = some (.slice A ls.length c) ∧ W.cell? ⟨w.heap.size, 2, none⟩ = some (.slice A2 ks.length c2) :=
  ⟨cell_of_row _ _ _ _ _ (0, 0) h.p, cell_of_row _ _ _ _ _ (0, 0) h.p, cell_of_row _ _ _ _ _ (0, 0) h.p⟩
theorem GW.later {w : World} {B : Nat} {nm : ByteArray} {ls : List PLn} {ks : List PPt} {A A2 : Option Addr} {c c2 : Nat} {m : Int} {W W' : World} (h : GW w B nm ls ks A A2 c c2 m W) (hb : Below W.heap.size W W') : GW w B nm ls ks A A2 c c2 m W' :=
  ⟨(hb.block _ h.b.lt).trans h.b, (hb.block _ (Array.getElem?_eq_some_iff.1 h.p).1).trans h.p, h.l.later hb, KsM.later hb _ _ _ h.k, h.e.trans (KB.of_below hb), h.lt⟩
theorem GW.next {w : World} {B : Nat} {nm : ByteArray} {ls : List PLn} {ks : List PPt} {A A2 : Option Addr} {c c2 : Nat} {m m' : Int} {W W' : World} (h : GW w B nm ls ks A A2 c c2 m W) (hb : KB B W W') (hm : Boxed W' B 66 (.int .i64 m')) : GW w B nm ls ks A A2 c c2 m' W' :=
  ⟨hm, (hb.block _ (Array.getElem?_eq_some_iff.1 h.p).1 (by have := h.lt; omega)).trans h.p, h.l.kb hb h.b, KsM.kb hb h.b _ _ _ h.k, h.e.trans hb, h.lt⟩
theorem GW.new {w : World} {B : Nat} {nm : ByteArray} {ls : List PLn} {ks : List PPt} {A A2 : Option Addr} {n : Int} (c c2 : Nat) (hb : Boxed w B 66 (.int .i64 n)) (hl : LS A ls w) (hk : KsM ks A2 0 w) :
    GW w B nm ls ks A A2 c c2 n (w.alloc (.cells #[.string nm, .slice A ls.length c, .slice A2 ks.length c2] 25)) := by
  have h : Below w.heap.size w (w.alloc (.cells #[.string nm, .slice A ls.length c, .slice A2 ks.length c2] 25)) := (Below.refl _ w).alloc (Nat.le_refl _) _
  exact ⟨(h.block _ hb.lt).trans hb, World.alloc_heap_new w _, hl.later h, KsM.later h _ _ _ hk, KB.of_below h, hb.lt⟩
set_option maxRecDepth 100000 in
set_option maxHeartbeats 8000000 in
theorem part_step (nm : ByteArray) (ls : List PLn) (ks : List PPt) (IH : ∀ k (h : k < ks.length), PartC ks[k]) : PartC (.mk nm ls ks) := by
  intro v B d n w hp hb d1 d2 n1 n2
  unfold PtM at hp
  obtain ⟨z1, z2, z3, A, c, A2, c2, rfl, hls, hks⟩ := hp
  obtain ⟨m, hm⟩ : ∃ m : Int, m = n + ls.length + 2 := ⟨_, rfl⟩
  have HE : Hid (erV (chk (.mk nm ls ks) d n).1 = if 8 < d then erV 6 else if 2000 < m then erV 6 else if nmS nm = false then erV 8 else if eF (eL2 ls) ls.length = 0 then erV (chks ks (d + 1) m).1 else erV (eF (eL2 ls) ls.length)) := by
    show _ = _
    unfold chk
    rw [← hm]
    repeat' split
    all_goals rfl
  have HE2 : Hid ((chk (.mk nm ls ks) d n).2 = if 8 < d then m else if 2000 < m then m else if nmS nm = false then m else if eF (eL2 ls) ls.length = 0 then (chks ks (d + 1) m).2 else m) := by
    show _ = _
    unfold chk
    rw [← hm]
    repeat' split
    all_goals rfl
  have HW := hide (GW.new (nm := nm) c c2 hb hls hks)
  have KN := hide (fun W => isName_any nm W z1)
  have HI := hide IH
  clear IH hls hks hb
  generalize erV (chk (.mk nm ls ks) d n).1 = V at *
  generalize (chk (.mk nm ls ks) d n).2 = N at *
  go_enter Tryd.func27, Tryd.ntmps27
  go_upto_region 1 with fail
  have hw := HW.out
  obtain ⟨W0, hW0⟩ : ∃ W0, (w.alloc (.cells #[.string nm, .slice A ls.length c, .slice A2 ks.length c2] 25)) = W0 := ⟨_, rfl⟩
  rw [hW0] at hw ⊢
  clear hW0 HW
  obtain ⟨c0, c1, c2'⟩ := hw.cells
  have k0 := hw.b.cell
  have k1 := hw.b.frozen
  go_region
  rw [show n + ((ls.length : Int) + 2) = m by omega]
  have m1 : 0 ≤ m := by omega
  have hkb : KB B W0 (W0.setCell ⟨B, 0, none⟩ (.int .i64 m)).drew := by
    have h := (KB.refl B W0).set (.int .i64 m)
    exact ⟨h.os, h.tape, h.output, h.size, h.block⟩
  have hw1 := hw.next hkb (show Boxed (W0.setCell ⟨B, 0, none⟩ (.int .i64 m)).drew B 66 (.int .i64 m) from hw.b.set _)
  obtain ⟨W1, hW1⟩ : ∃ W1, (W0.setCell ⟨B, 0, none⟩ (.int .i64 m)).drew = W1 := ⟨_, rfl⟩
  rw [hW1] at hw1 ⊢
  clear hW1 hkb hw c0 c1 c2' k0 k1 W0 hm
  obtain ⟨c0, c1, c2'⟩ := hw1.cells
  have k0 := hw1.b.cell
  have HW := hide hw1
  clear hw1
  by_cases e1 : 8 < d
  · have hR := HE.out
    have hN := HE2.out
    rw [if_pos e1, erV_no (by decide)] at hR
    rw [if_pos e1] at hN
    subst hR hN
    go_wp2
    go_ret
    exact ⟨rfl, HW.out.b, HW.out.e⟩
  · by_cases e2 : 2000 < m
    · have hR := HE.out
      have hN := HE2.out
      rw [if_neg e1, if_pos e2, erV_no (by decide)] at hR
      rw [if_neg e1, if_pos e2] at hN
      subst hR hN
      go_wp2
      go_ret
      exact ⟨rfl, HW.out.b, HW.out.e⟩
    · cases hn : nmS nm
      · have hR := HE.out
        have hN := HE2.out
        rw [if_neg e1, if_neg e2, if_pos hn, erV_no (by decide)] at hR
        rw [if_neg e1, if_neg e2, if_pos hn] at hN
        subst hR hN
        rw [hn] at KN
        clear hn
        go_wp2_with (go_at_call 41; refine (KN.out _).mono ?_; rintro e w' ⟨rfl, rfl⟩)
        go_ret
        exact ⟨rfl, HW.out.b, HW.out.e⟩
      · have hR := HE.out
        have hN := HE2.out
        rw [if_neg e1, if_neg e2, if_neg (by rw [hn]; simp)] at hR
        rw [if_neg e1, if_neg e2, if_neg (by rw [hn]; simp)] at hN
        rw [hn] at KN
        have HR := hide (And.intro hR hN)
        clear hn HE HE2 hR hN
        go_wp2_with (go_at_call 41; refine (KN.out _).mono ?_; rintro e w' ⟨rfl, rfl⟩)
        go_loopw [42] (fun i wr => ∃ k : Nat, k ≤ ls.length ∧ i = .int .i64 k ∧ eF (eL2 ls) k = 0 ∧ GW w B nm ls ks A A2 c c2 m wr) (fun i _ => ls.length - (intOf i).toNat)
        case atStart => exact ⟨0, by omega, rfl, rfl, HW.out⟩
        case round =>
          clear c0 c1 c2' k0 HW
          obtain ⟨k, hk, rfl, hall, hw⟩ := hrel
          by_cases hlt : k < ls.length
          · have hi : (k : Int) < ls.length := by omega
            obtain ⟨ad, Av, cv, hA, p0, p1, p2, hs, hok⟩ := hw.l k hlt
            subst hA
            have HK : Hid (eL2 ls k = eL ls[k]) := by
              show _ = _
              unfold eL2
              rw [List.getElem?_eq_getElem hlt]
            have HAL := hide hall
            have HW2 := hide hw
            generalize ls[k] = y at *
            have hb1 : Below wr.heap.size wr (wr.alloc (.cells #[.string y.n, .slice Av y.ps.length cv, .string y.v] 56)) := (Below.refl _ wr).alloc (Nat.le_refl _) _
            have KP2 := hide (checkLine_any y Av cv _ (hs.later hb1) hok)
            have HB1 := hide hb1
            clear hall hw hs hok hb1
            by_cases he : eL y = 0
            · rw [he, erV0] at KP2
              have hn : eF (eL2 ls) (k + 1) = 0 := by
                unfold eF
                rw [if_pos HAL.out, HK.out, he]
              have HN := hide hn
              clear hn he HK HAL
              go_wp2_with fail
              refine KP2.out.mono ?_
              rintro e W2 ⟨rfl, b2⟩
              have HW3 := hide (HW2.out.later (HB1.out.trans (b2.mono HB1.out.size)))
              clear b2
              go_wp2
              go_roundw
              case rel => exact ⟨k + 1, by omega, by go_num, HN.out, HW3.out⟩
              case measure => simp [intOf]; omega
            · have hn : eF (eL2 ls) ls.length = eL y := by rw [eF_at hlt HAL.out (by rw [HK.out]; exact he), HK.out]
              obtain ⟨hR, hN⟩ := HR.out
              rw [if_neg (by rw [hn]; exact he), hn, erV_no he] at hR
              rw [if_neg (by rw [hn]; exact he)] at hN
              subst hR hN
              rw [erV_no he] at KP2
              clear hn HK HAL HR
              go_wp2_with fail
              refine KP2.out.mono ?_
              rintro e W2 ⟨rfl, b2⟩
              have HW3 := hide (HW2.out.later (HB1.out.trans (b2.mono HB1.out.size)))
              clear b2
              go_wp2
              go_ret
              exact ⟨rfl, HW3.out.b, HW3.out.e⟩
          · obtain rfl : k = ls.length := by omega
            have hi : ¬ (ls.length : Int) < ls.length := by omega
            obtain ⟨hR, hN⟩ := HR.out
            rw [if_pos hall] at hR hN
            have HR2 := hide (And.intro hR hN)
            obtain ⟨c0, c1, c2'⟩ := hw.cells
            have HW2 := hide hw
            clear hall hw HR hR hN
            go_wp2_with fail
            go_loopw [55] (fun i wx => ∃ (k : Nat) (mk : Int), k ≤ ks.length ∧ i = .int .i64 k ∧ chks (ks.take k) (d + 1) m = (0, mk) ∧ 0 ≤ mk ∧ mk ≤ 2000 ∧ GW w B nm ls ks A A2 c c2 mk wx) (fun i _ => ks.length - (intOf i).toNat)
            case atStart => exact ⟨0, m, by omega, rfl, by unfold chks; rfl, m1, e2, HW2.out⟩
            case round =>
              clear c0 c1 c2' HW2
              obtain ⟨k, mk, hk2, rfl, hall, mk1, mk2, hw⟩ := hrel
              by_cases hlt2 : k < ks.length
              · have hi2 : (k : Int) < ks.length := by omega
                obtain ⟨ad, a, b, cc, hA, p0, p1, p2, hp⟩ := hw.k.at k hlt2
                rw [Nat.zero_add] at p0 p1 p2
                subst hA
                have hst := chks_step ks (d + 1) m mk k hlt2 hall
                have hsp := chks_stop ks (d + 1) m mk k hlt2 hall
                have hbd := chk_bd ks[k] (d + 1) mk mk1
                have HP := hide (HI.out k hlt2)
                have hp2 := hp
                obtain ⟨nm', ls', ks', ek⟩ : ∃ nm' ls' ks', ks[k] = PPt.mk nm' ls' ks' := by
                  cases ks[k] with
                  | mk a b c => exact ⟨a, b, c, rfl⟩
                rw [ek] at hp2
                unfold PtM at hp2
                obtain ⟨_, _, _, A', c', A2', c2', e', _, _⟩ := hp2
                simp only [Value.agg.injEq, Array.mk.injEq, List.cons.injEq, and_true] at e'
                obtain ⟨rfl, rfl, rfl⟩ := e'
                clear ek
                have hb1 : Below wr.heap.size wr (wr.alloc (.cells #[.string nm', .slice A' ls'.length c', .slice A2' ks'.length c2'] 25)) := (Below.refl _ wr).alloc (Nat.le_refl _) _
                have hw1 := hw.later hb1
                have KP2 := hide (HP.out _ B (d + 1) mk _ (PtM.later hb1 _ _ hp) hw1.b (by omega) (by omega) mk1 mk2)
                have HW3 := hide hw1
                have HST := hide (And.intro hst (And.intro hsp hbd))
                clear hst hsp hbd HP hp hw hw1 hb1 hall
                generalize chk ks[k] (d + 1) mk = q at *
                by_cases he : q.1 = 0
                · rw [he, erV0] at KP2
                  have hN1 : chks (ks.take (k + 1)) (d + 1) m = (0, q.2) := by rw [HST.out.1, ← he]
                  have hB1 := HST.out.2.2 he
                  have HN := hide (And.intro hN1 hB1)
                  clear hN1 hB1 he HST
                  go_wp2_with fail
                  refine KP2.out.mono ?_
                  rintro e W2 ⟨rfl, hb2, hk3⟩
                  have HW4 := hide (HW3.out.next hk3 hb2)
                  clear hb2 hk3
                  go_wp2
                  go_roundw
                  case rel => exact ⟨k + 1, q.2, by omega, by go_num, HN.out.1, HN.out.2.1, HN.out.2.2, HW4.out⟩
                  case measure => simp [intOf]; omega
                · obtain ⟨hR, hN⟩ := HR2.out
                  rw [HST.out.2.1 he] at hR hN
                  rw [erV_no he] at hR KP2
                  subst hR hN
                  clear HST HR2
                  go_wp2_with fail
                  refine KP2.out.mono ?_
                  rintro e W2 ⟨rfl, hb2, hk3⟩
                  have HW4 := hide (HW3.out.next hk3 hb2)
                  clear hb2 hk3
                  go_wp2
                  go_ret
                  exact ⟨rfl, HW4.out.b, HW4.out.e⟩
              · obtain rfl : k = ks.length := by omega
                have hi2 : ¬ (ks.length : Int) < ks.length := by omega
                obtain ⟨hR, hN⟩ := HR2.out
                rw [chks_all ks (d + 1) m mk hall] at hR hN
                rw [show erV (0, mk).1 = .nilIface from rfl] at hR
                subst hR hN
                have HW3 := hide hw
                clear hw hall HR2
                go_wp2
                go_ret
                exact ⟨rfl, HW3.out.b, HW3.out.e⟩
mutual
theorem part_any : ∀ t, PartC t
  | .mk nm ls ks => part_step nm ls ks (parts_any ks)
theorem parts_any : ∀ (ks : List PPt) (k : Nat) (h : k < ks.length), PartC ks[k]
  | [], k, h => absurd h (Nat.not_lt_zero _)
  | x :: ks, 0, h => part_any x
  | x :: ks, k + 1, h => parts_any ks k (by simpa using h)
end
end Go.Proofs.YtponocolfjkapaaDoor
