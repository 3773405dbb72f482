/- package clock's reader: counts. -/
import Derived.Test.YtafaacliphdndaaGreatDoorMClockBack38
namespace Go.Proofs.YtafaacliphdndaaGreatDoor
open Go.RowKit Go.Shelf
set_option linter.unusedVariables false
set_option linter.unusedSimpArgs false

/-- a number with its letter, or none -/
def ptL (v : Option Nat) (c : UInt8) : List UInt8 := match v with
  | none => []
  | some v => Lib.decDigits v ++ [c]
def segL : List (Option Nat × UInt8) → List UInt8
  | [] => []
  | p :: r => ptL p.1 p.2 ++ segL r
theorem segL_zero (c : UInt8) (r : List (Option Nat × UInt8)) : segL ((none, c) :: r) = segL r := by simp [segL, ptL]
theorem segL_some (v : Nat) (c : UInt8) (r : List (Option Nat × UInt8)) : segL ((some v, c) :: r) = Lib.decDigits v ++ (c :: segL r) := by simp [segL, ptL]
/-- there is no number, or some places without one, and then one -/
theorem segL_first : ∀ r : List (Option Nat × UInt8), (segL r = [] ∧ ∀ p ∈ r, p.1 = none) ∨ ∃ (z : List (Option Nat × UInt8)) (v : Nat) (c : UInt8) (r' : List (Option Nat × UInt8)), r = z ++ (some v, c) :: r' ∧ (∀ p ∈ z, p.1 = none) ∧ segL r = Lib.decDigits v ++ (c :: segL r')
  | [] => .inl ⟨rfl, fun p h => by cases h⟩
  | (none, c) :: r => by
    rcases segL_first r with ⟨e, hz⟩ | ⟨z, v, c', r', e, hz, es⟩
    · exact .inl ⟨by rw [segL_zero]; exact e, fun p hp => by
        rcases List.mem_cons.1 hp with rfl | hp
        · rfl
        · exact hz p hp⟩
    · exact .inr ⟨(none, c) :: z, v, c', r', by rw [e]; rfl, fun p hp => by
        rcases List.mem_cons.1 hp with rfl | hp
        · rfl
        · exact hz p hp, by rw [segL_zero]; exact es⟩
  | (some v, c) :: r => .inr ⟨[], v, c, r, rfl, (fun p hp => absurd hp (by simp)), segL_some v c r⟩
theorem mk4 (W : World) : (Instr.makeSlice 59 (.int .i64 4) (.int .i64 4)).run Tryz.prog W = .ok (.slice (some ⟨W.heap.size, 0, none⟩) 4 4) (W.alloc (.cells #[.int .i64 0, .int .i64 0, .int .i64 0, .int .i64 0] 3)) := by kernel_rfl
theorem mk3 (W : World) : (Instr.makeSlice 59 (.int .i64 3) (.int .i64 3)).run Tryz.prog W = .ok (.slice (some ⟨W.heap.size, 0, none⟩) 3 3) (W.alloc (.cells #[.int .i64 0, .int .i64 0, .int .i64 0] 3)) := by kernel_rfl
/-- the cells of the numbers that have been read -/
def Cs (S N i : Nat) (ps : List (Option Nat × UInt8)) (W : World) : Prop := (∀ m, m < N → W.cell? ⟨S, m, none⟩ = some (.int .i64 (if m < i then ((ps.getD m (none, 0)).1.getD 0 : Int) else 0))) ∧ (∀ m, W.frozen? ⟨S, m, none⟩ = false) ∧ S < W.heap.size
/-- the numbers that have been read have eight digits at most -/
def Bd (i : Nat) (ps : List (Option Nat × UInt8)) : Prop := ∀ m, m < i → (ps.getD m (none, 0)).1.getD 0 ≤ 99999999
theorem Bd.next {i : Nat} {ps : List (Option Nat × UInt8)} (h : Bd i ps) (h0 : (ps.getD i (none, 0)).1.getD 0 ≤ 99999999) : Bd (i + 1) ps := fun m hm => by
  by_cases e : m = i
  · subst e; exact h0
  · exact h m (by omega)
/-- what stands at the reader: nothing waits; a number waits for its letter -/
def At0 (s : ByteArray) (q E : Nat) (r : List (Option Nat × UInt8)) : Prop := Tx.Seg s q (segL r) ∧ Stp s E ∧ q + (segL r).length = E
def At1 (s : ByteArray) (q E v : Nat) (r : List (Option Nat × UInt8)) : Prop := ∃ z c r', r = z ++ (some v, c) :: r' ∧ (∀ p ∈ z, p.1 = none) ∧ Tx.Seg s q (c :: segL r') ∧ Stp s E ∧ q + 1 + (segL r').length = E
theorem At1.le {s : ByteArray} {q E v : Nat} {r : List (Option Nat × UInt8)} (h : At1 s q E v r) : q ≤ s.size := by
  obtain ⟨z, c, r', e, hz, hseg, _⟩ := h
  have := hseg.le; omega
theorem Cs.mv {b S N i : Nat} {ps : List (Option Nat × UInt8)} {W W' : World} (h : Cs S N i ps W) (hm : Mv b W W') (hne : S ≠ b) : Cs S N i ps W' :=
  ⟨fun m hlt => (hm.cell (p := ⟨S, m, none⟩) h.2.2 hne).trans (h.1 m hlt), fun m => (hm.frozen (p := ⟨S, m, none⟩) h.2.2 hne).trans (h.2.1 m), Nat.lt_of_lt_of_le h.2.2 hm.size⟩
theorem Cs.at {S N i : Nat} {ps : List (Option Nat × UInt8)} {W : World} (h : Cs S N i ps W) (hi : i < N) : W.cell? ⟨S, i, none⟩ = some (.int .i64 0) := by
  have := h.1 i hi
  rw [if_neg (by omega)] at this
  exact this
theorem Cs.skip {S N i : Nat} {ps : List (Option Nat × UInt8)} {W : World} (h : Cs S N i ps W) (h0 : (ps.getD i (none, 0)).1 = none) : Cs S N (i + 1) ps W := by
  refine ⟨fun m hlt => ?_, h.2.1, h.2.2⟩
  rw [h.1 m hlt]
  by_cases e : m = i
  · subst e; rw [if_neg (by omega), if_pos (by omega), h0]; rfl
  · by_cases l : m < i
    · rw [if_pos l, if_pos (by omega)]
    · rw [if_neg l, if_neg (by omega)]
theorem Cs.set {S N i : Nat} {ps : List (Option Nat × UInt8)} {W : World} (h : Cs S N i ps W) (hi : i < N) (n : Int) (hv : n = ((ps.getD i (none, 0)).1.getD 0 : Int)) : Cs S N (i + 1) ps (W.setCell ⟨S, i, none⟩ (.int .i64 n)) := by
  refine ⟨fun m hlt => ?_, fun m => by rw [World.frozen?_setCell]; exact h.2.1 m, by rw [World.size_setCell]; exact h.2.2⟩
  by_cases e : m = i
  · subst e; rw [World.cell?_setCell_same _ _ _ (h.at hi), if_pos (by omega), hv]
  · rw [World.cell?_setCell_other _ _ _ _ (by simp <;> omega), h.1 m hlt]
    by_cases l : m < i
    · rw [if_pos l, if_pos (by omega)]
    · rw [if_neg l, if_neg (by omega)]
/-- a round begins where nothing waits -/
theorem At0.step {s : ByteArray} {q E : Nat} {v0 : Option Nat} {c0 : UInt8} {r : List (Option Nat × UInt8)} (h : At0 s q E ((v0, c0) :: r)) (hd : ∀ p ∈ (v0, c0) :: r, 57 < p.2.toNat) :
    (Stp s q ∧ v0 = none ∧ At0 s q E r ∧ Tx.Seg s q []) ∨ ∃ v, (∃ p ∈ (v0, c0) :: r, p.1 = some v) ∧ Tx.Seg s q (Lib.decDigits v) ∧ Stp s (q + Lib.nDigits v) ∧ At1 s (q + Lib.nDigits v) E v ((v0, c0) :: r) := by
  obtain ⟨hseg, hst, he⟩ := h
  rcases segL_first ((v0, c0) :: r) with ⟨e, hz⟩ | ⟨z, v, c, r', e, hz, es⟩
  · left
    have h0 : v0 = none := hz (v0, c0) (by simp)
    subst h0
    rw [e] at he
    have hs0 : Stp s q := by
      rw [show q = E by simpa using he]; exact hst
    have hn : Tx.Seg s q [] := by rw [e] at hseg; exact hseg
    rw [segL_zero] at e hseg
    exact ⟨hs0, rfl, ⟨hseg, hst, by rw [e]; exact he⟩, hn⟩
  · right
    rw [es] at hseg he
    have hr := hseg.right
    rw [Lib.decDigits_length] at hr
    have hc : 57 < c.toNat := hd (some v, c) (by rw [e]; simp)
    refine ⟨v, ⟨(some v, c), by rw [e]; simp, rfl⟩, hseg.left, Stp.of hr (.inr hc), z, c, r', e, hz, hr, hst, ?_⟩
    rw [List.length_append, Lib.decDigits_length, List.length_cons] at he
    omega
/-- a letter is asked for where a number waits -/
theorem At1.step {s : ByteArray} {q E v : Nat} {v0 : Option Nat} {c0 : UInt8} {r : List (Option Nat × UInt8)} (h : At1 s q E v ((v0, c0) :: r)) (hd : ∀ p ∈ r, p.2 ≠ c0) :
    (v0 = some v ∧ Nx s q (c0.toNat : Int) true ∧ At0 s (q + 1) E r) ∨ (v0 = none ∧ Nx s q (c0.toNat : Int) false ∧ At1 s q E v r) := by
  obtain ⟨z, c, r', e, hz, hseg, hst, he⟩ := h
  cases z with
  | nil =>
    simp only [List.nil_append, List.cons.injEq, Prod.mk.injEq] at e
    obtain ⟨⟨rfl, rfl⟩, rfl⟩ := e
    exact .inl ⟨rfl, Nx.yes hseg, hseg.tail, hst, he⟩
  | cons p z =>
    simp only [List.cons_append, List.cons.injEq] at e
    obtain ⟨rfl, rfl⟩ := e
    have h0 : v0 = none := hz (v0, c0) (by simp)
    refine .inr ⟨h0, Nx.no hseg ?_, z, c, r', rfl, fun p hp => hz p (by simp [hp]), hseg, hst, he⟩
    have := hd (some v, c) (by simp)
    intro g
    apply this
    have g2 : c.toNat = c0.toNat := by omega
    exact UInt8.toNat_inj.1 g2
theorem row_at (letters : ByteArray) (ps : List (Option Nat × UInt8)) (N i : Nat) (hl : letters.data.toList = ps.map (·.2)) (hn : letters.size = N) (hnd : (ps.map (·.2)).Nodup) (hi : i < N) :
    ∃ v0 c0, ps.drop i = (v0, c0) :: ps.drop (i + 1) ∧ (∃ h : i < letters.size, letters[i] = c0) ∧ (ps.getD i (none, 0)).1 = v0 ∧ ∀ p ∈ ps.drop (i + 1), p.2 ≠ c0 := by
  have hpl : ps.length = N := by rw [← hn, Tx.size_len, hl]; simp
  have hip : i < ps.length := by omega
  refine ⟨ps[i].1, ps[i].2, List.drop_eq_getElem_cons hip, ⟨by omega, ?_⟩, by simp [hip], fun p hp => ?_⟩
  · have h1 : letters[i]'(by omega) = letters.data.toList[i]'(by rw [← Tx.size_len]; omega) := rfl
    rw [h1]
    simp [hl]
  · have h2 := hnd
    rw [← List.take_append_drop i ps, List.drop_eq_getElem_cons hip, List.map_append, List.map_cons, List.nodup_append] at h2
    have h3 := h2.2.1
    rw [List.nodup_cons] at h3
    intro g
    exact h3.1 (by rw [← g]; exact List.mem_map_of_mem hp)
set_option maxRecDepth 100000 in
set_option maxHeartbeats 16000000 in
theorem counts_any (b : Nat) (s letters : ByteArray) (k N : Nat) (ps : List (Option Nat × UInt8)) (w : World) (h : Rd b s k w) (hs : s.size ≤ 1000000000) (hN : letters.size = N) (hl : letters.data.toList = ps.map (·.2)) (hN4 : N = 4 ∨ N = 3) (hnd : (ps.map (·.2)).Nodup)
    (hL : Tx.Seg s k (segL ps)) (hstop : Stp s (k + (segL ps).length)) (hdg : ∀ p ∈ ps, 57 < p.2.toNat) :
    Calls Tryz.prog 91 #[.pointer (some ⟨b, 0, none⟩), .string letters] w fun e w' =>
      (∃ S, e = .returned (.tuple #[.slice (some ⟨S, 0, none⟩) N N, .nilIface]) ∧ (∀ m, m < N → w'.cell? ⟨S, m, none⟩ = some (.int .i64 ((ps.getD m (none, 0)).1.getD 0 : Int))) ∧ Bd N ps ∧ Rd b s (k + (segL ps).length) w' ∧ Mv b w w' ∧ w.heap.size ≤ S ∧ S < w'.heap.size) ∨
      ((∃ p ∈ ps, ∃ v, p.1 = some v ∧ 99999999 < v) ∧ ∃ B, e = .returned (.tuple #[.slice none 0 0, .iface 106 (.pointer (some ⟨B, 0, none⟩))]) ∧ AtB B w' ∧ w.heap.size ≤ B ∧ Mv b w w') := by
  rcases hN4 with rfl | rfl
  · have hmk := mk4
    have HR := hide h
    have H0 := hide (show At0 s k (k + (segL ps).length) ps from ⟨hL, hstop, rfl⟩)
    have HL := hide hl
    have HN := hide hnd
    have HD := hide hdg
    have hSb : w.heap.size ≠ b := by have := h.lt; omega
    clear hL hstop hl hnd hdg h
    generalize k + (segL ps).length = E at *
    go_enter Tryz.func91, Tryz.ntmps91
    go_wp2_with fail
    go_loopw [7, 8, 16] (fun nv wv iv wr => ∃ (i q v : Nat) (n : Int) (wt : Bool), i ≤ 4 ∧ iv = .int .i64 i ∧ nv = .int .i64 n ∧ wv = .bool wt ∧ Hid (Rd b s q wr) ∧ Hid (Mv b w wr) ∧ Hid (Cs w.heap.size 4 i ps wr) ∧ Hid (Bd i ps) ∧ Hid ((wt = false ∧ At0 s q E (ps.drop i)) ∨ (wt = true ∧ n = v ∧ v ≤ 99999999 ∧ At1 s q E v (ps.drop i)))) (fun _ _ iv _ => 4 - (intOf iv).toNat)
    case atStart =>
      refine ⟨0, k, 0, 0, false, by omega, rfl, rfl, rfl, hide (HR.out.later ((Below.refl _ w).alloc (Nat.le_refl _) _)), hide (Mv.of_below ((Below.refl _ w).alloc (Nat.le_refl _) _)), hide ⟨fun m hm => ?_, fun m => by simp, by simp⟩, hide (fun m hm => absurd hm (by omega)), hide (.inl ⟨rfl, H0.out⟩)⟩
      rcases (show m = 0 ∨ m = 1 ∨ m = 2 ∨ m = 3 by omega) with rfl | rfl | rfl | rfl <;> simp
    case round =>
      obtain ⟨i, q, v, n, wt, hi, rfl, rfl, rfl, hr, hm, hc, hbd, hst⟩ := hrel
      by_cases hlt : i < 4
      · obtain ⟨v0, c0, hdrop, ⟨hli, hlc⟩, hv0, hdis⟩ := row_at letters ps 4 i HL.out hN HN.out hlt
        have i0 : (0 : Int) ≤ (i : Int) := by omega
        have i1 : (i : Int) < (letters.size : Int) := by omega
        have i2 : (i : Int) < 4 := by omega
        have hD2 : ∀ p ∈ (v0, c0) :: ps.drop (i + 1), 57 < p.2.toNat := fun p hp => HD.out p (List.mem_of_mem_drop (by rw [hdrop]; exact hp))
        have HV := hide hv0
        have HC := hide (show ((letters[i].toNat : Nat) : Int) = (c0.toNat : Int) from by rw [hlc])
        have HM : Hid (∀ p ∈ (v0, c0) :: ps.drop (i + 1), p ∈ ps) := hide (fun p hp => List.mem_of_mem_drop (by rw [hdrop]; exact hp))
        clear hlc hv0
        rcases hst.out with ⟨rfl, hA⟩ | ⟨rfl, rfl, hv8, hA1⟩
        · rw [hdrop] at hA
          rcases hA.step hD2 with ⟨hs0, hz, hA0, hsn⟩ | ⟨v1, hmem, hseg, hstp, hA1⟩
          · have H1 := hide hA0
            have K1 := hide (fun W hW => run_any b s q 0 [] W hW hs hsn rfl (fun c hc => absurd hc (by simp)) (by simpa using hs0))
            have HZ := hide hz
            clear hA hA0 hst hdrop hdis hD2 hs0 hz hsn
            go_wp2_with fail
            refine (K1.out _ hr.out).mono ?_
            rintro e W1 ⟨rfl, hr1, hm1⟩
            go_wp2_with fail
            go_roundw
            case rel => exact ⟨i + 1, q, v, n, false, by omega, by go_num, rfl, rfl, hide hr1, hide (hm.out.trans hm1), hide ((hc.out.mv hm1 hSb).skip (by rw [HV.out, HZ.out])), hide (hbd.out.next (by rw [HV.out, HZ.out]; exact Nat.zero_le _)), hide (.inl ⟨rfl, H1.out⟩)⟩
            case measure => simp [intOf]; omega
          · have K1 := hide (fun W hW => run_any b s q (Lib.nDigits v1) _ W hW hs hseg (Lib.decDigits_length v1) (Tx.dig_dec v1) hstp)
            have hnd1 := Lib.nDigits_pos v1
            have hnd0 : (0 : Int) < (Lib.nDigits v1 : Int) := by omega
            by_cases h8 : Lib.nDigits v1 ≤ 8
            · have K2 := hide (fun W hW => count_ok b s q (Lib.nDigits v1) _ W hW hs hseg (Lib.decDigits_length v1) (Tx.dig_dec v1) hstp h8)
              rw [Tx.val_dec] at K2
              have hle := hA1.le
              have hv8 : v1 ≤ 99999999 := by
                have g1 := Lib.lt_pow_nDigits v1
                have g2 := Nat.pow_le_pow_right (show 0 < 10 by omega) h8
                omega
              clear hA hmem hseg hstp
              rcases hA1.step hdis with ⟨hz, hnx, hA0⟩ | ⟨hz, hnx, hA2⟩
              · have H1 := hide hA0
                have K3 := hide (fun W hW => skip_any b s (q + Lib.nDigits v1) _ true W hW hs hnx (by omega))
                have HZ := hide hz
                clear hA1 hA0 hst hdrop hdis hD2 hnx hz
                go_wp2_with fail
                refine (K1.out _ hr.out).mono ?_
                rintro e W1 ⟨rfl, hr1, hm1⟩
                go_wp2_with fail
                refine (K2.out _ hr1).mono ?_
                rintro e W2 ⟨rfl, hr2, hm2⟩
                have hmA := hm.out.trans (hm1.trans hm2)
                have hmA0 := hm1.trans hm2
                go_wp2_with fail
                rw [HC.out]
                refine (K3.out _ hr2).mono ?_
                rintro e W3 ⟨rfl, hr3, hm3⟩
                have hMM := hide (hmA.trans hm3)
                have hcs := (hc.out.mv hmA0 hSb).mv hm3 hSb
                have hci := hcs.at hlt
                have hcf := hcs.2.1
                have hR4 := hide (hr3.other w.heap.size i (.int .i64 (v1 : Int)) hSb)
                have hM4 := hide (hMM.out.setNew w.heap.size i (.int .i64 (v1 : Int)) (Nat.le_refl _))
                have hC4 := hide (hcs.set hlt (v1 : Int) (by rw [HV.out, HZ.out]; rfl))
                clear hcs hr3 hm3
                go_wp2_with fail
                go_roundw
                case rel => exact ⟨i + 1, _, 0, _, false, by omega, by go_num, rfl, rfl, hR4, hM4, hC4, hide (hbd.out.next (by rw [HV.out, HZ.out]; exact hv8)), hide (.inl ⟨rfl, H1.out⟩)⟩
                case measure => simp [intOf]; omega
              · have H1 := hide hA2
                have K3 := hide (fun W hW => skip_any b s (q + Lib.nDigits v1) _ false W hW hs hnx (by omega))
                have HZ := hide hz
                clear hA1 hA2 hst hdrop hdis hD2 hnx hz
                go_wp2_with fail
                refine (K1.out _ hr.out).mono ?_
                rintro e W1 ⟨rfl, hr1, hm1⟩
                go_wp2_with fail
                refine (K2.out _ hr1).mono ?_
                rintro e W2 ⟨rfl, hr2, hm2⟩
                have hmA := hm.out.trans (hm1.trans hm2)
                have hmA0 := hm1.trans hm2
                go_wp2_with fail
                rw [HC.out]
                refine (K3.out _ hr2).mono ?_
                rintro e W3 ⟨rfl, hr3, hm3⟩
                have hMM := hide (hmA.trans hm3)
                have hcs := hide (((hc.out.mv hmA0 hSb).mv hm3 hSb).skip (by rw [HV.out, HZ.out]))
                clear hm3
                go_wp2_with fail
                go_roundw
                case rel => exact ⟨i + 1, _, v1, _, true, by omega, by go_num, rfl, rfl, hide hr3, hMM, hcs, hide (hbd.out.next (by rw [HV.out, HZ.out]; exact Nat.zero_le _)), hide (.inr ⟨rfl, rfl, hv8, H1.out⟩)⟩
                case measure => simp [intOf]; omega
            · have K2 := hide (fun W hW => count_big b s q (Lib.nDigits v1) _ W hW hs hseg (Lib.decDigits_length v1) (Tx.dig_dec v1) hstp (by omega))
              have hbig : ∃ p ∈ ps, ∃ v, p.1 = some v ∧ 99999999 < v := by
                obtain ⟨p, hp, he⟩ := hmem
                refine ⟨p, HM.out p hp, v1, he, ?_⟩
                rcases Nat.lt_or_ge 99999999 v1 with g | g
                · exact g
                · exact absurd (Tx.ndig_le v1 8 (by omega) (by omega)) h8
              have HG := hide hbig
              clear hA hA1 hst hdrop hdis hD2 hmem hseg hstp hbig
              go_wp2_with fail
              refine (K1.out _ hr.out).mono ?_
              rintro e W1 ⟨rfl, hr1, hm1⟩
              go_wp2_with fail
              refine (K2.out _ hr1).mono ?_
              rintro e W2 ⟨B, rfl, hAt, hBB, hm2⟩
              have hsz := hm.out.size
              have hsz1 := hm1.size
              go_wp2_with fail
              go_ret2
              exact .inr ⟨HG.out, B, rfl, hAt, by omega, (hm.out.trans hm1).trans hm2⟩
        · rw [hdrop] at hA1
          have hle := hA1.le
          rcases hA1.step hdis with ⟨hz, hnx, hA0⟩ | ⟨hz, hnx, hA2⟩
          · have H1 := hide hA0
            have K3 := hide (fun W hW => skip_any b s (q) _ true W hW hs hnx (by omega))
            have HZ := hide hz
            clear hA1 hA0 hst hdrop hdis hD2 hnx hz
            have hmA := hm.out
            have hmA0 := Mv.refl b wr
            go_wp2_with fail
            rw [HC.out]
            refine (K3.out _ hr.out).mono ?_
            rintro e W3 ⟨rfl, hr3, hm3⟩
            have hMM := hide (hmA.trans hm3)
            have hcs := (hc.out.mv hmA0 hSb).mv hm3 hSb
            have hci := hcs.at hlt
            have hcf := hcs.2.1
            have hR4 := hide (hr3.other w.heap.size i (.int .i64 (v : Int)) hSb)
            have hM4 := hide (hMM.out.setNew w.heap.size i (.int .i64 (v : Int)) (Nat.le_refl _))
            have hC4 := hide (hcs.set hlt (v : Int) (by rw [HV.out, HZ.out]; rfl))
            clear hcs hr3 hm3
            go_wp2_with fail
            go_roundw
            case rel => exact ⟨i + 1, _, 0, _, false, by omega, by go_num, rfl, rfl, hR4, hM4, hC4, hide (hbd.out.next (by rw [HV.out, HZ.out]; exact hv8)), hide (.inl ⟨rfl, H1.out⟩)⟩
            case measure => simp [intOf]; omega
          · have H1 := hide hA2
            have K3 := hide (fun W hW => skip_any b s (q) _ false W hW hs hnx (by omega))
            have HZ := hide hz
            clear hA1 hA2 hst hdrop hdis hD2 hnx hz
            have hmA := hm.out
            have hmA0 := Mv.refl b wr
            go_wp2_with fail
            rw [HC.out]
            refine (K3.out _ hr.out).mono ?_
            rintro e W3 ⟨rfl, hr3, hm3⟩
            have hMM := hide (hmA.trans hm3)
            have hcs := hide (((hc.out.mv hmA0 hSb).mv hm3 hSb).skip (by rw [HV.out, HZ.out]))
            clear hm3
            go_wp2_with fail
            go_roundw
            case rel => exact ⟨i + 1, _, v, _, true, by omega, by go_num, rfl, rfl, hide hr3, hMM, hcs, hide (hbd.out.next (by rw [HV.out, HZ.out]; exact Nat.zero_le _)), hide (.inr ⟨rfl, rfl, hv8, H1.out⟩)⟩
            case measure => simp [intOf]; omega
      · obtain rfl : i = 4 := by omega
        have hdr : ps.drop 4 = [] := by
          apply List.drop_eq_nil_of_le
          have := HL.out
          have h2 : ps.length = letters.size := by rw [Tx.size_len, this]; simp
          omega
        rcases hst.out with ⟨rfl, hA⟩ | ⟨rfl, rfl, _, z, c, r', e, _⟩
        · rw [hdr] at hA
          obtain ⟨_, _, hE⟩ := hA
          have HE := hide (show q = E from by simpa [segL] using hE)
          clear hst hE hdr
          go_wp2_with fail
          go_ret2
          refine .inl ⟨w.heap.size, rfl, fun m hm => ?_, hbd.out, by rw [← HE.out]; exact hr.out, hm.out, Nat.le_refl _, hc.out.2.2⟩
          rw [hc.out.1 m hm, if_pos (by omega)]
        · rw [hdr] at e; simp at e
  · have hmk := mk3
    have HR := hide h
    have H0 := hide (show At0 s k (k + (segL ps).length) ps from ⟨hL, hstop, rfl⟩)
    have HL := hide hl
    have HN := hide hnd
    have HD := hide hdg
    have hSb : w.heap.size ≠ b := by have := h.lt; omega
    clear hL hstop hl hnd hdg h
    generalize k + (segL ps).length = E at *
    go_enter Tryz.func91, Tryz.ntmps91
    go_wp2_with fail
    go_loopw [7, 8, 16] (fun nv wv iv wr => ∃ (i q v : Nat) (n : Int) (wt : Bool), i ≤ 3 ∧ iv = .int .i64 i ∧ nv = .int .i64 n ∧ wv = .bool wt ∧ Hid (Rd b s q wr) ∧ Hid (Mv b w wr) ∧ Hid (Cs w.heap.size 3 i ps wr) ∧ Hid (Bd i ps) ∧ Hid ((wt = false ∧ At0 s q E (ps.drop i)) ∨ (wt = true ∧ n = v ∧ v ≤ 99999999 ∧ At1 s q E v (ps.drop i)))) (fun _ _ iv _ => 3 - (intOf iv).toNat)
    case atStart =>
      refine ⟨0, k, 0, 0, false, by omega, rfl, rfl, rfl, hide (HR.out.later ((Below.refl _ w).alloc (Nat.le_refl _) _)), hide (Mv.of_below ((Below.refl _ w).alloc (Nat.le_refl _) _)), hide ⟨fun m hm => ?_, fun m => by simp, by simp⟩, hide (fun m hm => absurd hm (by omega)), hide (.inl ⟨rfl, H0.out⟩)⟩
      rcases (show m = 0 ∨ m = 1 ∨ m = 2 by omega) with rfl | rfl | rfl <;> simp
    case round =>
      obtain ⟨i, q, v, n, wt, hi, rfl, rfl, rfl, hr, hm, hc, hbd, hst⟩ := hrel
      by_cases hlt : i < 3
      · obtain ⟨v0, c0, hdrop, ⟨hli, hlc⟩, hv0, hdis⟩ := row_at letters ps 3 i HL.out hN HN.out hlt
        have i0 : (0 : Int) ≤ (i : Int) := by omega
        have i1 : (i : Int) < (letters.size : Int) := by omega
        have i2 : (i : Int) < 3 := by omega
        have hD2 : ∀ p ∈ (v0, c0) :: ps.drop (i + 1), 57 < p.2.toNat := fun p hp => HD.out p (List.mem_of_mem_drop (by rw [hdrop]; exact hp))
        have HV := hide hv0
        have HC := hide (show ((letters[i].toNat : Nat) : Int) = (c0.toNat : Int) from by rw [hlc])
        have HM : Hid (∀ p ∈ (v0, c0) :: ps.drop (i + 1), p ∈ ps) := hide (fun p hp => List.mem_of_mem_drop (by rw [hdrop]; exact hp))
        clear hlc hv0
        rcases hst.out with ⟨rfl, hA⟩ | ⟨rfl, rfl, hv8, hA1⟩
        · rw [hdrop] at hA
          rcases hA.step hD2 with ⟨hs0, hz, hA0, hsn⟩ | ⟨v1, hmem, hseg, hstp, hA1⟩
          · have H1 := hide hA0
            have K1 := hide (fun W hW => run_any b s q 0 [] W hW hs hsn rfl (fun c hc => absurd hc (by simp)) (by simpa using hs0))
            have HZ := hide hz
            clear hA hA0 hst hdrop hdis hD2 hs0 hz hsn
            go_wp2_with fail
            refine (K1.out _ hr.out).mono ?_
            rintro e W1 ⟨rfl, hr1, hm1⟩
            go_wp2_with fail
            go_roundw
            case rel => exact ⟨i + 1, q, v, n, false, by omega, by go_num, rfl, rfl, hide hr1, hide (hm.out.trans hm1), hide ((hc.out.mv hm1 hSb).skip (by rw [HV.out, HZ.out])), hide (hbd.out.next (by rw [HV.out, HZ.out]; exact Nat.zero_le _)), hide (.inl ⟨rfl, H1.out⟩)⟩
            case measure => simp [intOf]; omega
          · have K1 := hide (fun W hW => run_any b s q (Lib.nDigits v1) _ W hW hs hseg (Lib.decDigits_length v1) (Tx.dig_dec v1) hstp)
            have hnd1 := Lib.nDigits_pos v1
            have hnd0 : (0 : Int) < (Lib.nDigits v1 : Int) := by omega
            by_cases h8 : Lib.nDigits v1 ≤ 8
            · have K2 := hide (fun W hW => count_ok b s q (Lib.nDigits v1) _ W hW hs hseg (Lib.decDigits_length v1) (Tx.dig_dec v1) hstp h8)
              rw [Tx.val_dec] at K2
              have hle := hA1.le
              have hv8 : v1 ≤ 99999999 := by
                have g1 := Lib.lt_pow_nDigits v1
                have g2 := Nat.pow_le_pow_right (show 0 < 10 by omega) h8
                omega
              clear hA hmem hseg hstp
              rcases hA1.step hdis with ⟨hz, hnx, hA0⟩ | ⟨hz, hnx, hA2⟩
              · have H1 := hide hA0
                have K3 := hide (fun W hW => skip_any b s (q + Lib.nDigits v1) _ true W hW hs hnx (by omega))
                have HZ := hide hz
                clear hA1 hA0 hst hdrop hdis hD2 hnx hz
                go_wp2_with fail
                refine (K1.out _ hr.out).mono ?_
                rintro e W1 ⟨rfl, hr1, hm1⟩
                go_wp2_with fail
                refine (K2.out _ hr1).mono ?_
                rintro e W2 ⟨rfl, hr2, hm2⟩
                have hmA := hm.out.trans (hm1.trans hm2)
                have hmA0 := hm1.trans hm2
                go_wp2_with fail
                rw [HC.out]
                refine (K3.out _ hr2).mono ?_
                rintro e W3 ⟨rfl, hr3, hm3⟩
                have hMM := hide (hmA.trans hm3)
                have hcs := (hc.out.mv hmA0 hSb).mv hm3 hSb
                have hci := hcs.at hlt
                have hcf := hcs.2.1
                have hR4 := hide (hr3.other w.heap.size i (.int .i64 (v1 : Int)) hSb)
                have hM4 := hide (hMM.out.setNew w.heap.size i (.int .i64 (v1 : Int)) (Nat.le_refl _))
                have hC4 := hide (hcs.set hlt (v1 : Int) (by rw [HV.out, HZ.out]; rfl))
                clear hcs hr3 hm3
                go_wp2_with fail
                go_roundw
                case rel => exact ⟨i + 1, _, 0, _, false, by omega, by go_num, rfl, rfl, hR4, hM4, hC4, hide (hbd.out.next (by rw [HV.out, HZ.out]; exact hv8)), hide (.inl ⟨rfl, H1.out⟩)⟩
                case measure => simp [intOf]; omega
              · have H1 := hide hA2
                have K3 := hide (fun W hW => skip_any b s (q + Lib.nDigits v1) _ false W hW hs hnx (by omega))
                have HZ := hide hz
                clear hA1 hA2 hst hdrop hdis hD2 hnx hz
                go_wp2_with fail
                refine (K1.out _ hr.out).mono ?_
                rintro e W1 ⟨rfl, hr1, hm1⟩
                go_wp2_with fail
                refine (K2.out _ hr1).mono ?_
                rintro e W2 ⟨rfl, hr2, hm2⟩
                have hmA := hm.out.trans (hm1.trans hm2)
                have hmA0 := hm1.trans hm2
                go_wp2_with fail
                rw [HC.out]
                refine (K3.out _ hr2).mono ?_
                rintro e W3 ⟨rfl, hr3, hm3⟩
                have hMM := hide (hmA.trans hm3)
                have hcs := hide (((hc.out.mv hmA0 hSb).mv hm3 hSb).skip (by rw [HV.out, HZ.out]))
                clear hm3
                go_wp2_with fail
                go_roundw
                case rel => exact ⟨i + 1, _, v1, _, true, by omega, by go_num, rfl, rfl, hide hr3, hMM, hcs, hide (hbd.out.next (by rw [HV.out, HZ.out]; exact Nat.zero_le _)), hide (.inr ⟨rfl, rfl, hv8, H1.out⟩)⟩
                case measure => simp [intOf]; omega
            · have K2 := hide (fun W hW => count_big b s q (Lib.nDigits v1) _ W hW hs hseg (Lib.decDigits_length v1) (Tx.dig_dec v1) hstp (by omega))
              have hbig : ∃ p ∈ ps, ∃ v, p.1 = some v ∧ 99999999 < v := by
                obtain ⟨p, hp, he⟩ := hmem
                refine ⟨p, HM.out p hp, v1, he, ?_⟩
                rcases Nat.lt_or_ge 99999999 v1 with g | g
                · exact g
                · exact absurd (Tx.ndig_le v1 8 (by omega) (by omega)) h8
              have HG := hide hbig
              clear hA hA1 hst hdrop hdis hD2 hmem hseg hstp hbig
              go_wp2_with fail
              refine (K1.out _ hr.out).mono ?_
              rintro e W1 ⟨rfl, hr1, hm1⟩
              go_wp2_with fail
              refine (K2.out _ hr1).mono ?_
              rintro e W2 ⟨B, rfl, hAt, hBB, hm2⟩
              have hsz := hm.out.size
              have hsz1 := hm1.size
              go_wp2_with fail
              go_ret2
              exact .inr ⟨HG.out, B, rfl, hAt, by omega, (hm.out.trans hm1).trans hm2⟩
        · rw [hdrop] at hA1
          have hle := hA1.le
          rcases hA1.step hdis with ⟨hz, hnx, hA0⟩ | ⟨hz, hnx, hA2⟩
          · have H1 := hide hA0
            have K3 := hide (fun W hW => skip_any b s (q) _ true W hW hs hnx (by omega))
            have HZ := hide hz
            clear hA1 hA0 hst hdrop hdis hD2 hnx hz
            have hmA := hm.out
            have hmA0 := Mv.refl b wr
            go_wp2_with fail
            rw [HC.out]
            refine (K3.out _ hr.out).mono ?_
            rintro e W3 ⟨rfl, hr3, hm3⟩
            have hMM := hide (hmA.trans hm3)
            have hcs := (hc.out.mv hmA0 hSb).mv hm3 hSb
            have hci := hcs.at hlt
            have hcf := hcs.2.1
            have hR4 := hide (hr3.other w.heap.size i (.int .i64 (v : Int)) hSb)
            have hM4 := hide (hMM.out.setNew w.heap.size i (.int .i64 (v : Int)) (Nat.le_refl _))
            have hC4 := hide (hcs.set hlt (v : Int) (by rw [HV.out, HZ.out]; rfl))
            clear hcs hr3 hm3
            go_wp2_with fail
            go_roundw
            case rel => exact ⟨i + 1, _, 0, _, false, by omega, by go_num, rfl, rfl, hR4, hM4, hC4, hide (hbd.out.next (by rw [HV.out, HZ.out]; exact hv8)), hide (.inl ⟨rfl, H1.out⟩)⟩
            case measure => simp [intOf]; omega
          · have H1 := hide hA2
            have K3 := hide (fun W hW => skip_any b s (q) _ false W hW hs hnx (by omega))
            have HZ := hide hz
            clear hA1 hA2 hst hdrop hdis hD2 hnx hz
            have hmA := hm.out
            have hmA0 := Mv.refl b wr
            go_wp2_with fail
            rw [HC.out]
            refine (K3.out _ hr.out).mono ?_
            rintro e W3 ⟨rfl, hr3, hm3⟩
            have hMM := hide (hmA.trans hm3)
            have hcs := hide (((hc.out.mv hmA0 hSb).mv hm3 hSb).skip (by rw [HV.out, HZ.out]))
            clear hm3
            go_wp2_with fail
            go_roundw
            case rel => exact ⟨i + 1, _, v, _, true, by omega, by go_num, rfl, rfl, hide hr3, hMM, hcs, hide (hbd.out.next (by rw [HV.out, HZ.out]; exact Nat.zero_le _)), hide (.inr ⟨rfl, rfl, hv8, H1.out⟩)⟩
            case measure => simp [intOf]; omega
      · obtain rfl : i = 3 := by omega
        have hdr : ps.drop 3 = [] := by
          apply List.drop_eq_nil_of_le
          have := HL.out
          have h2 : ps.length = letters.size := by rw [Tx.size_len, this]; simp
          omega
        rcases hst.out with ⟨rfl, hA⟩ | ⟨rfl, rfl, _, z, c, r', e, _⟩
        · rw [hdr] at hA
          obtain ⟨_, _, hE⟩ := hA
          have HE := hide (show q = E from by simpa [segL] using hE)
          clear hst hE hdr
          go_wp2_with fail
          go_ret2
          refine .inl ⟨w.heap.size, rfl, fun m hm => ?_, hbd.out, by rw [← HE.out]; exact hr.out, hm.out, Nat.le_refl _, hc.out.2.2⟩
          rw [hc.out.1 m hm, if_pos (by omega)]
        · rw [hdr] at e; simp at e
end Go.Proofs.YtafaacliphdndaaGreatDoor
