/- package span: first and goesOn, by the number of those that are not chosen yet. -/
import Derived.Test.YtnaggcadmfmibaaDoorSqC
namespace Go.Proofs.YtnaggcadmfmibaaDoor
open Go.RowKit
set_option linter.unusedVariables false
set_option linter.unusedSimpArgs false

theorem results_tmp_cell_tmp {fn : Func} {p u v : Tmp} {ty : TypeId} (h : fn.results = #[.tmp v, .cell p ty, .tmp u]) (tmps : Array Value) (P : Program) (w : World) :
    (results fn tmps).run P w =
      ((asAddr (tmps.getD p undef)).run P w).andThen fun a w₁ => ((loadVar ty a).run P w₁).andThen fun x w₂ => .ok (.tuple #[tmps.getD v undef, x, tmps.getD u undef]) w₂ := by
  simp only [results, h]
  simp [Sem.run_bind, Result.andThen]
theorem cnt_ch {C : Nat → Bool} {i : Nat} (hC : C i = false) : ∀ n, i < n → cntB (fun k => !C k) n = cntB (fun k => !chC C i k) n + 1
  | 0, h => by omega
  | n + 1, h => by
    unfold cntB
    rcases Nat.lt_or_ge i n with hl | hl
    · rw [cnt_ch hC n hl]
      have : chC C i n = C n := by unfold chC; rw [if_neg (by omega)]
      rw [this]; omega
    · have : i = n := by omega
      subst this
      have h1 : chC C i i = true := by unfold chC; rw [if_pos rfl]
      have h2 : cntB (fun k => !C k) i = cntB (fun k => !chC C i k) i := cntB_congr i fun k hk => by unfold chC; rw [if_neg (by omega)]
      rw [h1, h2, hC]; rfl
def mA (A : Nat → Nat → Nat) : Nat → Nat → Bool := fun k => mb (A k)
def OkA (n M : Nat) (A : Nat → Nat → Nat) : Prop := (∀ i j, A i j < 18446744073709551616) ∧ ∀ k b, k < n → b < 128 → mb (A k) b = true → b < M
theorem OkA.next {n M : Nat} {N : Nat → Nat → Nat} {fr to : Nat → Nat} {A A' : Nat → Nat → Nat} {C : Nat → Bool} {i a : Nat} (h : OkA n M A) (hc : ChS M N fr to A C i a n A') : OkA n M A' :=
  ⟨hc.lt, fun k b hk hb hm => h.2 k b hk hb (by
    rw [hc.done k b hk hb] at hm
    unfold chM at hm
    split at hm
    · exact hm
    · rw [Bool.and_eq_true] at hm; exact hm.1)⟩
/-- may number a be taken for the i-th, with some for all others? -/
def Fit (n M : Nat) (N : Nat → Nat → Nat) (fr to : Nat → Nat) (A : Nat → Nat → Nat) (C : Nat → Bool) (i a : Nat) : Prop := mA A i a = true ∧ ExtS n M (RS N fr to) (chC C i) (chM (RS N fr to) C (mA A) i a)
def GoS (s n M : Nat) (N : Nat → Nat → Nat) (fr to : Nat → Nat) (u : Nat) : Prop := ∀ (A : Nat → Nat → Nat) (C : Nat → Bool) (W : World), OkA n M A → cntB (fun k => !C k) n = u → SRC s n M N fr to W →
  Calls Tryd.prog 41 #[.pointer (some ⟨s, 0, none⟩), .agg (stA A C)] W fun e w' => ∃ b : Bool, e = .returned (.bool b) ∧ Below W.heap.size W w' ∧ (b = true ↔ ExtS n M (RS N fr to) C (mA A))
def FiS (s n M : Nat) (N : Nat → Nat → Nat) (fr to : Nat → Nat) (u : Nat) : Prop := ∀ (A : Nat → Nat → Nat) (C : Nat → Bool) (i : Nat) (W : World), OkA n M A → cntB (fun k => !C k) n = u → i < n → C i = false → SRC s n M N fr to W →
  Calls Tryd.prog 19 #[.pointer (some ⟨s, 0, none⟩), .agg (stA A C), .int .i64 i] W fun e w' => ∃ (a : Nat) (A' : Nat → Nat → Nat) (C' : Nat → Bool) (ok : Bool), e = .returned (.tuple #[.int .i64 a, .agg (stA A' C'), .bool ok]) ∧ Below W.heap.size W w' ∧
    ((ok = true ∧ a < M ∧ C' = chC C i ∧ ChS M N fr to A C i a n A' ∧ Fit n M N fr to A C i a ∧ ∀ c, c < a → ¬ Fit n M N fr to A C i c) ∨ (ok = false ∧ ∀ c, c < M → ¬ Fit n M N fr to A C i c))
set_option maxRecDepth 100000 in
set_option maxHeartbeats 4000000 in
theorem goes_of {s n M : Nat} {N : Nat → Nat → Nat} {fr to : Nat → Nat} {u : Nat} (h1 : 1 ≤ n) (h6 : n ≤ 6) (hM : M ≤ 66) (hy : SymR n M (RS N fr to)) (hF : FiS s n M N fr to u) : GoS s n M N fr to u := fun A C w hA hu h => by
  have hb0 : Below w.heap.size w (w.alloc (.cells (stA A C) 63)) := (Below.refl _ w).alloc (Nat.le_refl _) _
  have HS := hide (sta_new w A C)
  have HT := hide (fun W (hb : Below w.heap.size w W) => tight_any s n M N fr to A C W h1 h6 hM hA.1 (fun i hi => cntB_no' 128 (fun k hk hk2 => by
    cases hm : mb (A i) k with
    | false => rfl
    | true => have := hA.2 i k hi hk2 hm; omega)) (h.step hb))
  have HF := hide (fun i hi hc W (hb : Below w.heap.size w W) => hF A C i W hA hu hi hc (h.step hb))
  have HE := hide (fun i (hi : i < n) hc => ext_ch (may := mA A) hy hi (C := C) hc)
  have HX := hide (fun (hk : ∀ k, k < n → C k = true) => ext_all (n := n) (M := M) (R := RS N fr to) (may := mA A) hk)
  have HB0 := hide hb0
  clear hA hu h hF hb0
  go_enter Tryd.func41, Tryd.ntmps41
  have HWH0 := hide HS.out.whole
  go_wp2_with (first
    | (refine wpList_load_mid rfl 63 (.tmp 3) rfl w.heap.size 0 rfl (stA A C).toList _ HWH0.out Tryd.underlying63 rfl (by rw [Array.length_toList, stA_size]; exact infoState) ?_; rw [Array.toArray_toList]))
  refine (HT.out _ HB0.out).mono ?_
  rintro e W2 ⟨t, ok, rfl, hb2, hd⟩
  have HS2 := hide (HS.out.step hb2)
  have HB2 := hide (HB0.out.trans (hb2.mono HB0.out.size))
  have HD := hide hd
  clear hb2 HT HS HB0 hd HWH0
  cases ok
  · have hall : ∀ k, k < n → C k = true := by
      rcases HD.out with ⟨h, _⟩ | ⟨_, h⟩
      · cases h
      · exact h
    have hx := HX.out hall
    go_wp2_with fail
    go_ret
    exact ⟨true, rfl, HB2.out, fun _ => hx, fun _ => rfl⟩
  · obtain ⟨ht, hct⟩ : t < n ∧ C t = false := by
      rcases HD.out with ⟨_, h⟩ | ⟨h, _⟩
      · exact h
      · cases h
    have HWH := hide HS2.out.whole
    go_wp2_with (first
      | (refine wpList_load_mid rfl 63 (.tmp 3) rfl w.heap.size 0 rfl (stA A C).toList _ HWH.out Tryd.underlying63 rfl (by rw [Array.length_toList, stA_size]; exact infoState) ?_; rw [Array.toArray_toList]))
    refine (HF.out t ht hct _ HB2.out).mono ?_
    rintro e W3 ⟨a, A', C', ok, rfl, hb3, hd3⟩
    have HD3 := hide hd3
    have HB3 := hide (HB2.out.trans (hb3.mono HB2.out.size))
    clear hb3 hd3 HWH HS2
    go_wp2_with fail
    go_ret
    refine ⟨ok, rfl, HB3.out, ?_⟩
    rw [HE.out t ht hct]
    rcases HD3.out with ⟨rfl, ha, _, _, hf, _⟩ | ⟨rfl, hn⟩
    · exact ⟨fun _ => ⟨a, ha, hf⟩, fun _ => rfl⟩
    · exact ⟨fun h => (by cases h), fun ⟨c, hc, hf⟩ => absurd hf (hn c hc)⟩
set_option maxRecDepth 100000 in
set_option maxHeartbeats 8000000 in
theorem first_of {s n M : Nat} {N : Nat → Nat → Nat} {fr to : Nat → Nat} {u : Nat} (h1 : 1 ≤ n) (h6 : n ≤ 6) (hM : M ≤ 66) (hG : GoS s n M N fr to u) : FiS s n M N fr to (u + 1) := fun A C i w hA hu hi hC h => by
  have hb0 : Below w.heap.size w ((w.alloc (.cells (stA A C) 63)).alloc (.cells (stA z2 fF) 63)) := ((Below.refl _ w).alloc (Nat.le_refl _) _).alloc (by simp) _
  have hs : Sta w.heap.size A C ((w.alloc (.cells (stA A C) 63)).alloc (.cells (stA z2 fF) 63)) :=
    (sta_new w A C).step ((Below.refl _ _).alloc (Nat.le_refl _) _)
  have hz : Sta (w.heap.size + 1) z2 fF ((w.alloc (.cells (stA A C) 63)).alloc (.cells (stA z2 fF) 63)) := by
    have := sta_new (w.alloc (.cells (stA A C) 63)) z2 fF
    rw [show (w.alloc (.cells (stA A C) 63)).heap.size = w.heap.size + 1 by simp] at this
    exact this
  have hr := h.step hb0
  obtain ⟨g, cg, hsp, _⟩ := hr.sp
  have HR0 := hide (fun X (hb : Below w.heap.size w X) => h.step hb)
  have KC := hide (fun a (ha : a < M) W (hb : Below w.heap.size w W) => choose_any s n M N fr to A C i a W h1 h6 hM hi ha hA.1 hA.2 (h.step hb))
  have KG := hide (fun a A' (hc : ChS M N fr to A C i a n A') W (hb : Below w.heap.size w W) => hG A' (chC C i) W (hA.next hc) (by have := cnt_ch hC n hi; omega) (h.step hb))
  have KE := hide (fun a A' (hc : ChS M N fr to A C i a n A') => (ext_congr (n := n) (M := M) (R := RS N fr to) (C := chC C i) (fun _ _ => rfl) (fun k b hk hb _ => hc.done k b hk (by omega)) : ExtS n M (RS N fr to) (chC C i) (mA A') ↔ ExtS n M (RS N fr to) (chC C i) (chM (RS N fr to) C (mA A) i a)))
  have KH := hide (fun b (hb : b < 128) W => mhas_any (A i) b W (hA.1 i) hb)
  have HB0 := hide hb0
  have HS := hide hs
  have HZ := hide hz
  clear hb0 hs hz hr hA hu h hG
  have ez : stA z2 fF = #[.int .u64 0, .int .u64 0, .int .u64 0, .int .u64 0, .int .u64 0, .int .u64 0, .int .u64 0, .int .u64 0, .int .u64 0, .int .u64 0, .int .u64 0, .int .u64 0, .bool false, .bool false, .bool false, .bool false, .bool false, .bool false] := rfl
  rw [ez] at hsp
  have HEZ := hide ez
  clear ez
  have hi6 : (i : Int) < 6 := by omega
  go_enter Tryd.func19, Tryd.ntmps19
  go_wp2_with fail
  clear hsp
  generalize hW1 : World.alloc (World.alloc w _) _ = W1
  have hW1' : (w.alloc (.cells (stA A C) 63)).alloc (.cells (stA z2 fF) 63) = W1 := by rw [HEZ.out]; exact hW1
  rw [hW1'] at HB0 HS HZ
  clear hW1 hW1' HEZ
  generalize hD : w.heap.size = D at *
  have HDE := hide hD
  clear hD
  go_loopw [17] (fun ix wr => ∃ r : Nat, r ≤ M ∧ ix = .int .i64 r ∧ (∀ c, c < r → ¬ Fit n M N fr to A C i c) ∧ Sta D A C wr ∧ Sta (D + 1) z2 fF wr ∧ Below D w wr) (fun ix _ => M - (intOf ix).toNat)
  case atStart => exact ⟨0, by omega, rfl, fun c hc => by omega, HS.out, HZ.out, HB0.out⟩
  case round =>
    clear HB0 HS HZ
    obtain ⟨r, hr, rfl, hno, hs, hz, hb⟩ := hrel
    have HNO := hide hno
    have HS := hide hs
    have HZ := hide hz
    have HB := hide hb
    by_cases hlt : r < M
    · have hri : (r : Int) < M := by omega
      obtain ⟨⟨hc0, hf0⟩, hc1, hf1⟩ := hs.w i (by omega)
      have KH := hide (KH.out r (by omega))
      generalize hmb : mb (A i) r = m at *
      have HMB := hide hmb
      clear hmb hno hs hz hb
      go_wp2_with fail
      refine (KH.out _).mono ?_
      rintro e W2 ⟨rfl, hb2⟩
      clear hc0 hf0 hc1 hf1 KH
      have HS2 := hide (HS.out.step hb2)
      have HZ2 := hide (HZ.out.step hb2)
      have HB2 := hide (HB.out.trans (hb2.mono (by have := HB.out.size; have := HDE.out; omega)))
      clear hb2 HS HZ HB
      cases m
      · have hno' : ∀ c, c < r + 1 → ¬ Fit n M N fr to A C i c := fun c hc hf => by
          rcases Nat.lt_or_ge c r with hl | hl
          · exact HNO.out c hl hf
          · have : c = r := by omega
            subst this
            have := hf.1
            unfold mA at this
            rw [HMB.out] at this
            cases this
        have HNO' := hide hno'
        clear hno'
        go_wp2_with fail
        go_roundw
        case rel => exact ⟨r + 1, by omega, by go_num, HNO'.out, HS2.out, HZ2.out, HB2.out⟩
        case measure => simp [intOf]; omega
      · have HWH := hide HS2.out.whole
        go_wp2_with (first
          | (refine wpList_load_mid rfl 63 (.tmp 4) rfl D 0 rfl (stA A C).toList _ HWH.out Tryd.underlying63 rfl (by rw [Array.length_toList, stA_size]; exact infoState) ?_; rw [Array.toArray_toList]))
        refine (KC.out r hlt _ HB2.out).mono ?_
        rintro e W3 ⟨A', C', ok, rfl, hb3, hd3⟩
        have HD3 := hide hd3
        have HS3 := hide (HS2.out.step hb3)
        have HZ3 := hide (HZ2.out.step hb3)
        have HB3 := hide (HB2.out.trans (hb3.mono (by have := HB2.out.size; have := HDE.out; omega)))
        clear hb3 hd3 HS2 HZ2 HB2 HWH
        have HE3 : Hid (∀ W4, (W3.alloc (.cells (stA z2 fF) 63)).setCells W3.heap.size 0 (stA A' C').toList = W4 → Sta W3.heap.size A' C' W4 ∧ Below W3.heap.size W3 W4) := fun W4 h => by
          subst h
          exact ⟨sta_put (sta_new W3 z2 fF) A' C', setCells_bel (Nat.le_refl _) _ _ _ ((Below.refl _ W3).alloc (Nat.le_refl _) _)⟩
        cases ok
        · go_wp2_with (first
            | (refine wpList_store_mid rfl 63 (.tmp 10) (.tmp 33) rfl W3.heap.size 0 (stA A' C') rfl rfl (sta_there (sta_new W3 z2 fF) A' C') (infoState2 A' C') (stA_one A' C') ?_; generalize hW : World.setCells _ _ _ _ = W4))
          have hE := HE3.out W4 hW
          clear hW HE3
          have hno' : ∀ c, c < r + 1 → ¬ Fit n M N fr to A C i c := fun c hc hf => by
            rcases Nat.lt_or_ge c r with hl | hl
            · exact HNO.out c hl hf
            · have : c = r := by omega
              subst this
              rcases HD3.out with ⟨h, _⟩ | ⟨_, k, hk, hkc, hkb⟩
              · cases h
              · exact ext_no hk hkc hkb hf.2
          have HNO' := hide hno'
          have HS4 := hide (HS3.out.step hE.2)
          have HZ4 := hide (HZ3.out.step hE.2)
          have HB4 := hide (HB3.out.trans (hE.2.mono (by have := HB3.out.size; have := HDE.out; omega)))
          clear hno' hE HS3 HZ3 HB3
          go_roundw
          case rel => exact ⟨r + 1, by omega, by go_num, HNO'.out, HS4.out, HZ4.out, HB4.out⟩
          case measure => simp [intOf]; omega
        · obtain ⟨rfl, hch⟩ : C' = chC C i ∧ ChS M N fr to A C i r n A' := by
            rcases HD3.out with ⟨_, h1, h2⟩ | ⟨h, _⟩
            · exact ⟨h1, h2⟩
            · cases h
          have HCH := hide hch
          have HGG := hide (KG.out r A' hch)
          have HEE := hide (KE.out r A' hch)
          clear HD3 hch
          go_wp2_with (first
            | (refine wpList_store_mid rfl 63 (.tmp 10) (.tmp 33) rfl W3.heap.size 0 (stA A' (chC C i)) rfl rfl (sta_there (sta_new W3 z2 fF) A' (chC C i)) (infoState2 A' (chC C i)) (stA_one A' (chC C i)) ?_; generalize hW : World.setCells _ _ _ _ = W4; have HE4 := hide (HE3.out W4 hW); have HWE := hide HE4.out.1.whole; clear hW HE3)
            | (refine BigFrame.wpList_want rfl (fun K hK => wp_load_mid 63 (.tmp 10) rfl W3.heap.size 0 rfl (stA A' (chC C i)).toList _ HWE.out Tryd.underlying63 rfl (by rw [Array.length_toList, stA_size]; exact infoState) (hK _ _ ?_)); rw [Array.toArray_toList]))
          refine (HGG.out _ (HB3.out.trans (HE4.out.2.mono (by have := HB3.out.size; have := HDE.out; omega)))).mono ?_
          rintro e W5 ⟨b, rfl, hb5, hbe⟩
          have HBE := hide hbe
          have hWB : w.heap.size ≤ W3.heap.size := by have := HB3.out.size; have := HDE.out; omega
          have HB5 := hide ((HB3.out.trans (HE4.out.2.mono (by have := HDE.out; omega))).trans (hb5.mono (by have := HE4.out.2.size; have := HDE.out; omega)))
          have HS5 := hide ((HS3.out.step HE4.out.2).step hb5)
          have HZ5 := hide ((HZ3.out.step HE4.out.2).step hb5)
          have HE5 := hide (HE4.out.1.step hb5)
          clear hbe hb5 HB3 HE4 HS3 HWE HGG
          have hne : W3.heap.size ≠ D + 1 := by
            have := HZ3.out.lt
            omega
          clear HZ3
          generalize W3.heap.size = E at *
          cases b
          · have hno' : ∀ c, c < r + 1 → ¬ Fit n M N fr to A C i c := fun c hc hf => by
              rcases Nat.lt_or_ge c r with hl | hl
              · exact HNO.out c hl hf
              · have : c = r := by omega
                subst this
                have := HBE.out.2 (HEE.out.2 hf.2)
                cases this
            have HNO' := hide hno'
            clear hno'
            go_wp2_with fail
            go_roundw
            case rel => exact ⟨r + 1, by omega, by go_num, HNO'.out, HS5.out, HZ5.out, HB5.out⟩
            case measure => simp [intOf]; omega
          · have hput := sta_put (X := W5.drew) (show Sta (D + 1) z2 fF W5.drew from HZ5.out) A' (chC C i)
            have HL := hide (sta_load hput)
            have HBF := hide (setCells_bel (b := D + 1) (by omega) (stA A' (chC C i)).toList 0 W5.drew HB5.out.drew)
            have HFI : Hid (Fit n M N fr to A C i r) := ⟨HMB.out, HEE.out.1 (HBE.out.1 rfl)⟩
            clear hput
            go_wp2_with fail
            have hra : W5.drew.rangeAt E 0 (stA A' (chC C i)).toList := Sta.whole (show Sta E A' (chC C i) W5.drew from HE5.out)
            have hth : W5.drew.there (D + 1) 0 (stA A' (chC C i)).toList.length := by
              rw [Array.length_toList]; exact sta_there (X := W5.drew) (show Sta (D + 1) z2 fF W5.drew from HZ5.out) A' (chC C i)
            have hinf : (Tryd.prog.info? 63).map (·.size) = some (stA A' (chC C i)).toList.length := by rw [Array.length_toList, stA_size]; exact infoState
            have hone : ∀ v ∈ (stA A' (chC C i)).toList, v.oneCell' = true := fun v hv => Array.all_eq_true_iff_forall_mem.1 (stA_one A' (chC C i)) v (by simpa using hv)
            have hlen : (stA A' (chC C i)).toList.length = (stA A' (chC C i)).toList.length := rfl
            have hcs' : (stA A' (chC C i)).toList.toArray = stA A' (chC C i) := Array.toArray_toList
            have HCS := hide hcs'
            clear hcs'
            generalize hcs : (stA A' (chC C i)).toList = cs at *
            have hund := Tryd.underlying63
            refine wp_region_held_drew (S := fun Y => Y.rangeAt E 0 cs ∧ Y.there (D + 1) 0 cs.length) (by kernel_rfl) ⟨hra, hth⟩ (fun hHeld => ?_)
            refine wpAnyH_take (i := 0) (oi := _) (v := ?_) rfl (by kernel_rfl) (by kernel_rfl) (by kernel_rfl) (fun _ _ _ h => h) (Or.inl ⟨by rfl, ?_⟩) (by assumption) ?_
            rotate_left
            · intro w hSw
              (try dsimp only at hSw)
              go_simp
              (try with_reducible rfl)
            (try simp only [Act.put, List.getElem_toArray, List.getElem_cons_succ, List.getElem_cons_zero, List.setIfInBounds_toArray, List.set_cons_zero, List.set_cons_succ])
            refine wpAnyH_take (i := 1) (oi := _) (v := _) rfl (by kernel_rfl) (by kernel_rfl) (by kernel_rfl) (fun _ _ _ h => h) (yieldsIf_load_mid (by rfl) _ _ rfl _ _ rfl _ _ (fun w h => h.1) hund rfl hinf) (by assumption) ?_
            (try simp only [Act.put, List.getElem_toArray, List.getElem_cons_succ, List.getElem_cons_zero, List.setIfInBounds_toArray, List.set_cons_zero, List.set_cons_succ])
            refine wpAnyH_take (i := 2) (oi := _) (v := ?_) rfl (by kernel_rfl) (by kernel_rfl) (by kernel_rfl) (fun _ _ _ h => h) (Or.inl ⟨by rfl, ?_⟩) (by assumption) ?_
            rotate_left
            · intro w hSw
              (try dsimp only at hSw)
              go_simp
              (try with_reducible rfl)
            (try simp only [Act.put, List.getElem_toArray, List.getElem_cons_succ, List.getElem_cons_zero, List.setIfInBounds_toArray, List.set_cons_zero, List.set_cons_succ])
            refine wpAnyH_ready (rs := [3]) (by kernel_rfl) (by simp) ?_
            refine AllReadyH.cons (o := _) rfl (fun K hK => ?_) AllReadyH.nil
            rw [if_pos (by rfl)]
            refine wp_store_mid _ _ _ rfl _ _ cs.toArray rfl rfl (by simpa using hth) (by simpa using hinf) (all_oneCell_toArray hone) ?_
            refine hK.out _ _ ⟨World.rangeAt_setCells_apart hra _ _ _ (.inl hne), World.there_setCells hth _ _ _⟩ (fun hHeld => ?_)
            clear hK K
            (try simp only [Act.put, List.getElem_toArray, List.getElem_cons_succ, List.getElem_cons_zero, List.setIfInBounds_toArray, List.set_cons_zero, List.set_cons_succ])
            refine wpAnyH_take (i := 4) (oi := _) (v := ?_) rfl (by kernel_rfl) (by kernel_rfl) (by kernel_rfl) (fun _ _ _ h => h) (Or.inl ⟨by rfl, ?_⟩) (by assumption) ?_
            rotate_left
            · intro w hSw
              (try dsimp only at hSw)
              go_simp
              (try with_reducible rfl)
            (try simp only [Act.put, List.getElem_toArray, List.getElem_cons_succ, List.getElem_cons_zero, List.setIfInBounds_toArray, List.set_cons_zero, List.set_cons_succ])
            refine wpAnyH_done (by kernel_rfl) ?_ _
            rw [HCS.out]
            clear hra hth hinf hone hlen hund
            go_wp2_with fail
            refine bodyPost_ret (v := .tuple #[.int .i64 (r : Int), .agg (stA A' (chC C i)), .bool true]) ?_ rfl ?_
            · rw [results_tmp_cell_tmp rfl]
              simp [asAddr, Result.andThen, HL.out]
            · exact ⟨r, A', chC C i, .inr ⟨rfl, by rw [HDE.out]; exact HBF.out, hlt, rfl, HCH.out, HFI.out, HNO.out⟩⟩
    · have hrn : r = M := by omega
      have hni : (M : Int) ≤ r := by omega
      have HT := hide (sta_there HZ.out z2 fF)
      have hput := sta_put HZ.out z2 fF
      have HL := hide (sta_load hput)
      have HBE := hide (setCells_bel (b := D + 1) (by omega) (stA z2 fF).toList 0 wr HB.out)
      clear hput hno hs hz hb
      go_wp2_with (first
        | (refine wpList_store_mid rfl 63 (.tmp 7) (.tmp 44) rfl (D + 1) 0 (stA z2 fF) rfl rfl HT.out (infoState2 z2 fF) (stA_one z2 fF) ?_))
      refine bodyPost_ret (v := .tuple #[.int .i64 ((0 : Nat) : Int), .agg (stA z2 fF), .bool false]) ?_ rfl ⟨0, z2, fF, false, rfl, by rw [HDE.out]; exact HBE.out, .inr ⟨rfl, fun c hc => HNO.out c (by omega)⟩⟩
      rw [results_tmp_cell_tmp rfl]
      simp [asAddr, Result.andThen, HL.out]
end Go.Proofs.YtnaggcadmfmibaaDoor