/- package text: the reader's value, at a value that was printed. -/
import Derived.Test.YtponocolfjkapaaDoorMTextBackUpto23
import Derived.Test.YtponocolfjkapaaDoorMTextBackUpto6
import Derived.BigRegion
namespace Go.Proofs.YtponocolfjkapaaDoor
open Go.RowKit Go.Shelf
set_option linter.unusedVariables false
set_option linter.unusedSimpArgs false

theorem allB_all {b : Nat → Bool} : ∀ {n : Nat}, Crn.allB b n = true → ∀ k, k < n → b k = true
  | 0, _, k, h => absurd h (Nat.not_lt_zero _)
  | n + 1, h, k, hk => by
    unfold Crn.allB at h
    rw [Bool.and_eq_true] at h
    by_cases c : k = n
    · subst c; exact h.2
    · exact allB_all h.1 k (by omega)
theorem bt_mem (s : ByteArray) {P : Int → Prop} (h : ∀ k, k < s.size → P (bt s k)) : ∀ b ∈ Tl.tx s, P (b.toNat : Int) := fun b hb => by
  obtain ⟨k, hk, rfl⟩ := List.mem_iff_getElem.1 hb
  have hk' : k < s.size := by rwa [Tl.tx_len] at hk
  have := h k hk'
  rw [← bt_at s k hk'] at this
  exact this
/-- what a name's bytes are -/
theorem nm_facts {s : ByteArray} (h : nmS s = true) : 1 ≤ s.size ∧ s.size ≤ 40 ∧ ∀ b ∈ Tl.tx s, (65 ≤ b.toNat ∧ b.toNat ≤ 90 ∨ 48 ≤ b.toNat ∧ b.toNat ≤ 57 ∨ b.toNat = 45) := by
  unfold nmS at h
  rw [Bool.and_eq_true, decide_eq_true_eq] at h
  refine ⟨h.2.1, h.2.2, fun b hb => ?_⟩
  have := bt_mem s (P := fun x => nmB x = true) (fun k hk => allB_all h.1 k hk) b hb
  simp only [nmB, decide_eq_true_eq] at this
  omega
/-- a text without controls -/
theorem ct_facts {s : ByteArray} (h : ctS s = false) : ∀ b ∈ Tl.tx s, (32 ≤ b.toNat ∨ b.toNat = 9) ∧ b.toNat ≠ 127 := fun b hb => by
  unfold ctS at h
  rw [Bool.not_eq_false'] at h
  have := bt_mem s (P := fun x => (!ctB x) = true) (fun k hk => allB_all h k hk) b hb
  simp only [ctB, Bool.not_eq_true', decide_eq_false_iff_not] at this
  omega
/-- a text without a byte -/
theorem hasB_facts {s : ByteArray} {c : UInt8} (h : hasB s c = false) : ∀ b ∈ Tl.tx s, b ≠ c := fun b hb e => by
  unfold hasB at h
  rw [List.any_eq_false] at h
  exact h b hb (by rw [e]; simp)
set_option maxRecDepth 100000 in
set_option maxHeartbeats 8000000 in
theorem readName_any (s : ByteArray) (h : nmS s = true) (w : World) :
    Calls Tryd.prog 67 #[.string s] w fun e w' => e = .returned (.tuple #[.string s, .nilIface]) ∧ Below w.heap.size w w' := by
  obtain ⟨h1, h2, hb⟩ := nm_facts h
  have KN := hide (fun W => isName_any s W (by omega))
  rw [h] at KN
  have hcv := Lib.run_convert_string_bytes (P := Tryd.prog) w 9 59 5 s Tryd.underlying9 Tryd.underlying59 Tryd.underlying5
  have hbw : Below w.heap.size w (Lib.bytesWorld w 5 s) := ⟨rfl, rfl, rfl, by rw [Lib.bytesWorld_size]; omega, fun k hk => Lib.bytesWorld_at_old _ _ _ k hk⟩
  have hcb := CB.new w s (by omega)
  have hback := hcb.conv
  rw [Tl.tx_len, Tl.str_tx] at hback
  have HCB := hide hcb
  have HBW := hide hbw
  have HB : Hid (∀ k (hk : k < s.size), ¬ (97 : Int) ≤ (s[k].toNat : Int)) := fun k hk => by
    have := hb s[k] (List.mem_iff_getElem.2 ⟨k, by rw [Tl.tx_len]; exact hk, rfl⟩)
    omega
  clear h hb hbw hcb
  go_enter Tryd.func67, Tryd.ntmps67
  generalize Lib.bytesWorld w 5 s = W5 at *
  go_wp2_with fail
  go_loopw [11] (fun i wr => ∃ k : Nat, k ≤ s.size ∧ i = .int .i64 k ∧ W5 = wr) (fun i _ => s.size - (intOf i).toNat)
  case atStart => exact ⟨0, by omega, rfl, rfl⟩
  case round =>
    obtain ⟨k, hk, rfl, rfl⟩ := hrel
    by_cases hlt : k < s.size
    · have hi : (k : Int) < s.size := by omega
      have hc := HCB.out.cell k (by rw [Tl.tx_len]; exact hlt)
      rw [Tl.tx_getElem s k hlt] at hc
      have hno := HB.out k hlt
      clear hcv hback
      generalize s[k].toNat = x at *
      go_wp2
      go_roundw
      case rel => exact ⟨k + 1, by omega, by go_num, by trivial⟩
      case measure => simp [intOf]; omega
    · obtain rfl : k = s.size := by omega
      have hi : ¬ (s.size : Int) < s.size := by omega
      clear hcv
      go_wp2_with fail
      refine (KN.out _).mono ?_
      rintro e W6 ⟨rfl, rfl⟩
      go_wp2
      go_ret2
      exact ⟨rfl, HBW.out⟩
end Go.Proofs.YtponocolfjkapaaDoor
namespace Go.Proofs.YtponocolfjkapaaDoor
open Go.RowKit Go.Shelf
set_option linter.unusedVariables false
set_option linter.unusedSimpArgs false

def mkV : ByteArray := ⟨#[44, 59, 58]⟩
def mkQ : ByteArray := ⟨#[34]⟩
theorem mkV_asc : Asc mkV := by intro b hb; have : b = 44 ∨ b = 59 ∨ b = 58 := by simpa [mkV, Tl.tx] using hb
                                rcases this with rfl | rfl | rfl <;> decide
theorem mkQ_asc : Asc mkQ := by intro b hb; have : b = 34 := by simpa [mkQ, Tl.tx] using hb
                                subst this; decide
theorem mkV_is (b : UInt8) : isM mkV b = isE b := ends_contains b
theorem mkQ_is (b : UInt8) : isM mkQ b = (b == 34) := by
  unfold isM
  rw [Bool.eq_iff_iff]
  simp [mkQ, Tl.tx]
set_option maxRecDepth 100000 in
set_option maxHeartbeats 8000000 in
theorem value_any (v : ByteArray) (hv : vB v = true) (hvs : v.size ≤ 100000000) (c : UInt8) (hc : isE c = true) (b : List UInt8) (rest : ByteArray) (hr : Tl.tx rest = Tl.tx (quo v) ++ c :: b) (mk : Int) (B : Nat) (w : World) (hB : RdB w B rest mk) (hs : rest.size ≤ 1000000000) :
    Calls Tryd.prog 75 #[.pointer (some ⟨B, 0, none⟩)] w fun e w' => e = .returned (.tuple #[.string v, .nilIface]) ∧ RdB w' B (Tl.str b) c.toNat ∧ KB B w w' := by
  have hv2 := hv
  unfold vB at hv2
  rw [Bool.and_eq_true] at hv2
  have hq : ∀ x ∈ Tl.tx v, x ≠ 34 := hasB_facts (by simpa using hv2.2)
  have KP := hide (fun W => isParam_any v W (by omega))
  rw [show (!ctS v && !hasB v 34) = true from hv] at KP
  obtain ⟨d0, d1⟩ := hB.cells
  have HB := hide hB
  by_cases ha : anyE v = true
  · have hqv : Tl.tx (quo v) = 34 :: (Tl.tx v ++ [34]) := by
      unfold quo
      rw [if_pos ha, Tl.tx_app, Tl.tx_app]; rfl
    rw [hqv] at hr
    obtain ⟨r1, hr1⟩ : ∃ r1 : ByteArray, r1 = Tl.str (Tl.tx v ++ 34 :: c :: b) := ⟨_, rfl⟩
    have hp : Lib.hasPrefix rest.data.toList (⟨#[34]⟩ : ByteArray).data.toList = true := by
      rw [show rest.data.toList = Tl.tx rest from rfl, hr]; rfl
    have ht : (⟨(Lib.trimPrefix rest.data.toList (⟨#[34]⟩ : ByteArray).data.toList).toArray⟩ : ByteArray) = r1 := by
      rw [hr1]
      apply Tl.tx_inj
      rw [Tl.tx_str, show rest.data.toList = Tl.tx rest from rfl, hr]
      show Lib.trimPrefix (34 :: (Tl.tx v ++ [34]) ++ c :: b) [34] = _
      simp [Lib.trimPrefix, Lib.hasPrefix]
    have KC := hide (fun W => Tryd.strings_CutPrefix rest ⟨#[34]⟩ W)
    rw [hp, ht] at KC
    have hr1s : r1.size ≤ 1000000000 := by
      have := congrArg List.length hr
      rw [Tl.tx_len] at this
      rw [hr1, Tl.str_size]
      simp only [List.length_append, List.length_cons, List.length_nil, List.cons_append] at this ⊢
      omega
    have KU := hide (fun mk W (h : RdB W B r1 mk) => upTo_any mkQ mkQ_asc (.inl rfl) (Tl.tx v) (c :: b) 34 r1 (by rw [hr1, Tl.tx_str]) (by rw [mkQ_is]; rfl) (fun x hx => by rw [mkQ_is, beq_eq_false_iff_ne]; exact hq x hx) mk B W h hr1s)
    have hcb : (Tl.str (c :: b)).size ≤ 1000000000 := by
      rw [hr1, Tl.str_size] at hr1s
      rw [Tl.str_size]
      simp only [List.length_append, List.length_cons] at hr1s ⊢
      omega
    have KU2 := hide (fun mk W (h : RdB W B (Tl.str (c :: b)) mk) => upTo_any mkV mkV_asc (.inr (.inr rfl)) [] b c (Tl.str (c :: b)) rfl (by rw [mkV_is]; exact hc) (fun x hx => absurd hx (by simp)) mk B W h hcb)
    rw [Tl.str_tx] at KU
    obtain ⟨Z, hZ⟩ : ∃ Z, Tl.str ([] : List UInt8) = Z := ⟨_, rfl⟩
    have hz1 : Z.toList = [] := by rw [← hZ, ByteArray.toList_eq]; rfl
    have hz2 : (Z.toList == []) = true := by rw [hz1]; rfl
    have hz3 : Z.toList.isEmpty = true := by rw [hz1]; rfl
    rw [hZ] at KU2
    clear hr hqv hp ht hr1 hv hv2 hq hB hZ hz1
    have f0 := HB.out.frozen 0
    go_enter Tryd.func75, Tryd.ntmps75
    go_wp2_with fail
    refine (KC.out _).mono ?_
    rintro e W1 ⟨rfl, rfl⟩
    go_wp2_with fail
    have hR1 := HB.out.set0 r1
    have hK1 := ((KB.refl B W1).put 0 (.string r1))
    generalize W1.setCell ⟨B, 0, none⟩ (.string r1) = W2 at *
    clear f0 d0 d1
    have HK1 := hide hK1
    refine (KU.out _ _ hR1).mono ?_
    rintro e W3 ⟨rfl, hR3, hK3⟩
    have HK3 := hide (HK1.out.trans hK3)
    have HR3 := hide hR3
    clear hR1 hK1 hK3 hR3 HK1
    go_wp2_with fail
    refine (KP.out _).mono ?_
    rintro e W4 ⟨rfl, rfl⟩
    go_wp2_with fail
    refine (KU2.out _ _ HR3.out).mono ?_
    rintro e W5 ⟨rfl, hR5, hK5⟩
    have HK5 := hide (HK3.out.trans hK5)
    have HR5 := hide hR5
    clear hR5 hK5 HK3 HR3
    go_wp2
    go_ret2
    exact ⟨rfl, HR5.out, HK5.out⟩
  · have ha' : anyE v = false := by simpa using ha
    have hqv : quo v = v := by unfold quo; rw [if_neg ha]
    rw [hqv] at hr
    have hne : ∀ x ∈ Tl.tx v, isE x = false := fun x hx => by
      unfold anyE at ha'
      rw [List.any_eq_false] at ha'
      simpa using ha' x hx
    have hp : Lib.hasPrefix rest.data.toList (⟨#[34]⟩ : ByteArray).data.toList = false := by
      rw [show rest.data.toList = Tl.tx rest from rfl, hr]
      show Lib.hasPrefix _ [34] = false
      cases hv0 : Tl.tx v with
      | nil =>
        have : c ≠ 34 := by intro e; subst e; revert hc; decide
        show ((34 : UInt8) == c && _) = false
        rw [show ((34 : UInt8) == c) = false from beq_eq_false_iff_ne.2 (Ne.symm this)]; rfl
      | cons x l =>
        have : x ≠ 34 := hq x (by rw [hv0]; exact List.mem_cons_self)
        show ((34 : UInt8) == x && _) = false
        rw [show ((34 : UInt8) == x) = false from beq_eq_false_iff_ne.2 (Ne.symm this)]; rfl
    have ht : (⟨(Lib.trimPrefix rest.data.toList (⟨#[34]⟩ : ByteArray).data.toList).toArray⟩ : ByteArray) = rest := by
      unfold Lib.trimPrefix
      rw [hp]
      rfl
    have KC := hide (fun W => Tryd.strings_CutPrefix rest ⟨#[34]⟩ W)
    rw [hp, ht] at KC
    have KU := hide (fun W (h : RdB W B rest mk) => upTo_any mkV mkV_asc (.inr (.inr rfl)) (Tl.tx v) b c rest hr (by rw [mkV_is]; exact hc) (fun x hx => by rw [mkV_is]; exact hne x hx) mk B W h hs)
    rw [Tl.str_tx] at KU
    clear hr hqv hp ht hv hv2 hq hB hne
    go_enter Tryd.func75, Tryd.ntmps75
    go_wp2_with fail
    refine (KC.out _).mono ?_
    rintro e W1 ⟨rfl, rfl⟩
    go_wp2_with fail
    refine (KU.out _ HB.out).mono ?_
    rintro e W3 ⟨rfl, hR3, hK3⟩
    have HK3 := hide hK3
    have HR3 := hide hR3
    clear hR3 hK3 d0 d1
    go_wp2_with fail
    refine (KP.out _).mono ?_
    rintro e W4 ⟨rfl, rfl⟩
    go_wp2
    go_ret2
    exact ⟨rfl, HR3.out, HK3.out⟩
end Go.Proofs.YtponocolfjkapaaDoor
