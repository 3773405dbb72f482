/- Nets: how they lie; package span: Check; the reference's NetCheck. -/
import Derived.Test.YtnaggcadmfmibaaDoorSpnE
import Derived.WalkKit
namespace Go.Proofs.YtnaggcadmfmibaaDoor
open Go.RowKit
set_option linter.unusedVariables false
set_option linter.unusedSimpArgs false

/-- is a number no set of ways? -/
def noSet (s : Int) : Bool := !decide (0 ≤ s ∧ s ≤ 8191)
theorem isno_any (s : Int) (w : World) : Calls Tryd.prog 48 #[.int .i64 s] w fun e w' => e = .returned (.bool (noSet s)) ∧ w' = w := by
  have K := hide (isset_any s)
  unfold noSet
  generalize decide (0 ≤ s ∧ s ≤ 8191) = b at *
  go_enter Tryd.func48, Tryd.ntmps48
  go_wp2_with fail
  refine (K.out _).mono ?_
  rintro e W ⟨rfl, rfl⟩
  go_wp2
  go_ret
  exact ⟨rfl, rfl⟩
/-- does one of the first k hold? -/
def anyB (b : Nat → Bool) : Nat → Bool
  | 0 => false
  | k + 1 => anyB b k || b k
/-- a slice's cells -/
def Cs (ad : Option Addr) (n : Nat) (v : Nat → Value) (X : World) : Prop := ∀ k, k < n → ∃ a, ad = some a ∧ X.cell? (a.add k) = some (v k)
theorem lt_of_cell {X : World} {p : Addr} {v : Value} (h : X.cell? p = some v) : p.block < X.heap.size := by
  rcases Nat.lt_or_ge p.block X.heap.size with hl | hl
  · exact hl
  · unfold World.cell? at h; rw [Array.getElem?_eq_none hl] at h; cases h
theorem Cs.step {ad : Option Addr} {n : Nat} {v : Nat → Value} {X X' : World} (h : Cs ad n v X) (hb : Below X.heap.size X X') : Cs ad n v X' := fun k hk => by
  obtain ⟨a, ha, hc⟩ := h k hk
  exact ⟨a, ha, (hb.cell (lt_of_cell hc)).trans hc⟩
/-- a net: its rows, and their sets -/
structure NetAt (ad : Option Addr) (n : Nat) (A : Nat → Option Addr) (L C : Nat → Nat) (g : Nat → Nat → Int) (X : World) : Prop where
  rows : Cs ad n (fun r => .slice (A r) (L r) (C r)) X
  sets : ∀ r, r < n → Cs (A r) (L r) (fun c => .int .i64 (g r c)) X
theorem NetAt.step {ad : Option Addr} {n : Nat} {A : Nat → Option Addr} {L C : Nat → Nat} {g : Nat → Nat → Int} {X X' : World} (h : NetAt ad n A L C g X) (hb : Below X.heap.size X X') : NetAt ad n A L C g X' :=
  ⟨h.rows.step hb, fun r hr => (h.sets r hr).step hb⟩
/-- what Check tells, of the rows from the k-th last on -/
def chkF (n : Nat) (L : Nat → Nat) (g : Nat → Nat → Int) : Nat → Int
  | 0 => 0
  | k + 1 => if L (n - (k + 1)) = n then (if anyB (fun c => noSet (g (n - (k + 1)) c)) n then 1 else chkF n L g k) else 5
def chk (n : Nat) (L : Nat → Nat) (g : Nat → Nat → Int) : Int := if n < 1 ∨ 6 < n then 6 else chkF n L g n
theorem anyB_hit {b : Nat → Bool} {k : Nat} (h : b k = true) : ∀ n, k < n → anyB b n = true
  | n + 1, hk => by
    unfold anyB
    rcases Nat.lt_or_ge k n with hl | hl
    · rw [anyB_hit h n hl]; rfl
    · have : k = n := by omega
      rw [← this, h]; simp
theorem anyB_congr {b c : Nat → Bool} : ∀ n, (∀ k, k < n → b k = c k) → anyB b n = anyB c n
  | 0, _ => rfl
  | n + 1, h => by unfold anyB; rw [anyB_congr n (fun k hk => h k (by omega)), h n (by omega)]
theorem chkF_at (n : Nat) (L : Nat → Nat) (g : Nat → Nat → Int) (r : Nat) (h : r < n) : chkF n L g (n - r) = if L r = n then (if anyB (fun c => noSet (g r c)) n then 1 else chkF n L g (n - (r + 1))) else 5 := by
  obtain ⟨k, hk⟩ : ∃ k, n - r = k + 1 := ⟨n - r - 1, by omega⟩
  have h1 : n - (k + 1) = r := by omega
  have h2 : n - (r + 1) = k := by omega
  rw [hk, h2]
  show (if L (n - (k + 1)) = n then (if anyB (fun c => noSet (g (n - (k + 1)) c)) n then 1 else chkF n L g k) else 5) = _
  rw [h1]
/-- an error's value -/
def ek (k : Int) : Value := if k = 0 then .nilIface else .iface 24 (.int .i64 k)
theorem ek_0 : ek 0 = .nilIface := by unfold ek; rw [if_pos rfl]
theorem ek_no {k : Int} (h : ¬ k = 0) : ek k = .iface 24 (.int .i64 k) := by unfold ek; rw [if_neg h]
theorem tell_ek (k : Int) (W : World) (hW : Hd W) : Calls Tryd.prog 11 #[ek k] W fun e w' => e = .returned (.int .i64 k) ∧ Below W.heap.size W w' := by
  by_cases h : k = 0
  · subst h; rw [ek_0]; exact tell_nil W
  · rw [ek_no h]; exact tell_err k W hW
set_option maxHeartbeats 2000000 in
theorem idxSet (ad : Option Addr) (n cap : Nat) (f : Nat → Int) (w : World) (h : Cs ad n (fun k => .int .i64 (f k)) w) (hn : n ≤ 1000) :
    Calls Tryd.prog 62 #[.slice ad n cap, .func (.func 48) #[] #[]] w fun e w' => ∃ i : Int, e = .returned (.int .i64 i) ∧ decide (0 ≤ i) = anyB (fun c => noSet (f c)) n ∧ w' = w := by
  have K := hide isno_any
  have H := hide h
  clear h
  go_enter Tryd.func62, Tryd.ntmps62
  go_wp2_with fail
  go_loop [8] (fun i => ∃ r : Nat, r ≤ n ∧ i = .int .i64 r ∧ anyB (fun c => noSet (f c)) r = false) (fun i => n - (intOf i).toNat)
  case atStart => exact ⟨0, by omega, rfl, rfl⟩
  case round =>
    obtain ⟨r, hr, rfl, hno⟩ := hrel
    have HNO := hide hno
    clear hno
    by_cases hlt : r < n
    · obtain ⟨a, rfl, hc⟩ := H.out r hlt
      have hri : (r : Int) < n := by omega
      have HB : Hid (anyB (fun c => noSet (f c)) (r + 1) = (anyB (fun c => noSet (f c)) r || noSet (f r))) := rfl
      have HH := hide (fun h : noSet (f r) = true => anyB_hit (b := fun c => noSet (f c)) h n hlt)
      have KK := hide (K.out (f r))
      generalize noSet (f r) = x at *
      go_wp2_with fail
      refine (KK.out _).mono ?_
      rintro e W ⟨rfl, rfl⟩
      cases x
      · go_wp2
        go_round
        case rel => exact ⟨r + 1, by omega, by go_num, by rw [HB.out, HNO.out]; rfl⟩
        case measure => simp [intOf]; omega
      · go_wp2
        go_ret
        exact ⟨r, rfl, by rw [HH.out trivial]; simp, rfl⟩
    · have hrn : r = n := by omega
      rw [hrn] at HNO
      have hni : (n : Int) ≤ r := by omega
      go_wp2
      go_ret
      exact ⟨-1, rfl, by rw [HNO.out]; rfl, rfl⟩
theorem conSet (ad : Option Addr) (n cap : Nat) (f : Nat → Int) (w : World) (h : Cs ad n (fun k => .int .i64 (f k)) w) (hn : n ≤ 1000) :
    Calls Tryd.prog 47 #[.slice ad n cap, .func (.func 48) #[] #[]] w fun e w' => e = .returned (.bool (anyB (fun c => noSet (f c)) n)) ∧ w' = w := by
  have K := hide (idxSet ad n cap f w h hn)
  generalize anyB (fun c => noSet (f c)) n = x at *
  clear h
  go_enter Tryd.func47, Tryd.ntmps47
  go_wp2_with fail
  refine K.out.mono ?_
  rintro e W ⟨i, rfl, hi, rfl⟩
  have HI := hide hi
  clear hi
  go_wp2
  go_ret
  exact ⟨by rw [← HI.out]; rfl, rfl⟩
set_option maxHeartbeats 4000000 in
theorem check_any (ad : Option Addr) (n cap : Nat) (A : Nat → Option Addr) (L C : Nat → Nat) (g : Nat → Nat → Int) (w : World) (h : NetAt ad n A L C g w) :
    Calls Tryd.prog 27 #[.slice ad n cap] w fun e w' => e = .returned (ek (chk n L g)) ∧ w' = w := by
  have H := hide h
  clear h
  by_cases hlim : n < 1 ∨ 6 < n
  · have e1 : chk n L g = 6 := by unfold chk; rw [if_pos hlim]
    rw [e1, ek_no (by decide)]
    clear e1
    rcases hlim with h1 | h6
    · have h1i : (n : Int) < 1 := by omega
      clear H h1
      go_enter Tryd.func27, Tryd.ntmps27
      go_wp2
      go_ret
      exact ⟨rfl, rfl⟩
    · have h1i : 1 ≤ (n : Int) := by omega
      have h6i : 6 < (n : Int) := by omega
      clear H h6
      go_enter Tryd.func27, Tryd.ntmps27
      go_wp2
      go_ret
      exact ⟨rfl, rfl⟩
  · have h1 : 1 ≤ n := by omega
    have h6 : n ≤ 6 := by omega
    have h1i : 1 ≤ (n : Int) := by omega
    have h6i : (n : Int) ≤ 6 := by omega
    have e1 : chk n L g = chkF n L g (n - 0) := by unfold chk; rw [if_neg hlim]; rfl
    have HE := hide e1
    clear e1 hlim
    generalize chk n L g = z at *
    go_enter Tryd.func27, Tryd.ntmps27
    go_wp2_with fail
    go_loop [15] (fun i => ∃ r : Nat, r ≤ n ∧ i = .int .i64 r ∧ z = chkF n L g (n - r)) (fun i => n - (intOf i).toNat)
    case atStart => exact ⟨0, by omega, rfl, HE.out⟩
    case round =>
      clear HE
      obtain ⟨r, hr, rfl, hz⟩ := hrel
      have HZ := hide hz
      clear hz
      by_cases hlt : r < n
      · have HA := hide (chkF_at n L g r hlt)
        obtain ⟨a, rfl, hc⟩ := H.out.rows r hlt
        have hri : (r : Int) < n := by omega
        by_cases hL : L r = n
        · have hLi : (L r : Int) = n := by omega
          have KC := hide (conSet (A r) n (C r) (g r) w (hL ▸ H.out.sets r hlt) (by omega))
          rw [if_pos hL] at HA
          generalize anyB (fun c => noSet (g r c)) n = x at *
          go_wp2_with fail
          refine KC.out.mono ?_
          rintro e W ⟨rfl, rfl⟩
          cases x
          · go_wp2
            go_round
            case rel => exact ⟨r + 1, by omega, by go_num, by rw [HZ.out, HA.out]; rfl⟩
            case measure => simp [intOf]; omega
          · go_wp2
            go_ret
            exact ⟨by rw [HZ.out, HA.out]; rfl, rfl⟩
        · have hLi : ¬ (L r : Int) = n := by omega
          rw [if_neg hL] at HA
          go_wp2
          go_ret
          exact ⟨by rw [HZ.out, HA.out]; rfl, rfl⟩
      · have hrn : r = n := by omega
        have hni : (n : Int) ≤ r := by omega
        rw [hrn, Nat.sub_self] at HZ
        go_wp2
        go_ret
        exact ⟨by rw [HZ.out]; rfl, rfl⟩
set_option maxHeartbeats 4000000 in
theorem rcheck_any (ad : Option Addr) (n cap : Nat) (A : Nat → Option Addr) (L C : Nat → Nat) (g : Nat → Nat → Int) (w : World) (h : NetAt ad n A L C g w) :
    Calls Tryd.prog 21 #[.slice ad n cap] w fun e w' => e = .returned (.int .i64 (chk n L g)) ∧ w' = w := by
  have H := hide h
  clear h
  by_cases hlim : n < 1 ∨ 6 < n
  · have e1 : chk n L g = 6 := by unfold chk; rw [if_pos hlim]
    rw [e1]
    clear e1
    rcases hlim with h1 | h6
    · have h1i : (n : Int) < 1 := by omega
      clear H h1
      go_enter Tryd.func21, Tryd.ntmps21
      go_wp2
      go_ret
      exact ⟨rfl, rfl⟩
    · have h1i : 1 ≤ (n : Int) := by omega
      have h6i : 6 < (n : Int) := by omega
      clear H h6
      go_enter Tryd.func21, Tryd.ntmps21
      go_wp2
      go_ret
      exact ⟨rfl, rfl⟩
  · have h1 : 1 ≤ n := by omega
    have h6 : n ≤ 6 := by omega
    have h1i : 1 ≤ (n : Int) := by omega
    have h6i : (n : Int) ≤ 6 := by omega
    have e1 : chk n L g = chkF n L g (n - 0) := by unfold chk; rw [if_neg hlim]; rfl
    have HE := hide e1
    clear e1 hlim
    generalize chk n L g = z at *
    have KS := hide setok_any
    go_enter Tryd.func21, Tryd.ntmps21
    go_wp2_with fail
    go_loop [3] (fun i => ∃ r : Nat, r ≤ n ∧ i = .int .i64 r ∧ z = chkF n L g (n - r)) (fun i => n - (intOf i).toNat)
    case atStart => exact ⟨0, by omega, rfl, HE.out⟩
    case round =>
      clear HE
      obtain ⟨r, hr, rfl, hz⟩ := hrel
      have HZ := hide hz
      clear hz
      by_cases hlt : r < n
      · have HA := hide (chkF_at n L g r hlt)
        obtain ⟨a, rfl, hc⟩ := H.out.rows r hlt
        have hri : (r : Int) < n := by omega
        by_cases hL : L r = n
        · have hLi : (L r : Int) = n := by omega
          have hs := (hL ▸ H.out.sets r hlt : Cs (A r) n (fun c => .int .i64 (g r c)) w)
          obtain ⟨a', ha', _⟩ := hs 0 (by omega)
          rw [ha'] at hs
          dsimp only at hc
          rw [ha'] at hc
          have HS := hide hs
          clear hs ha'
          rw [if_pos hL] at HA
          go_wp2_with fail
          go_loop [4] (fun i => ∃ m : Nat, m ≤ n ∧ i = .int .i64 m ∧ anyB (fun c => noSet (g r c)) m = false) (fun i => n - (intOf i).toNat)
          case atStart => exact ⟨0, by omega, rfl, rfl⟩
          case round =>
            obtain ⟨m, hm, rfl, hno⟩ := hrel
            have HNO := hide hno
            clear hno
            by_cases hmt : m < n
            · obtain ⟨a2, ha2, hc'⟩ := HS.out m hmt
              obtain rfl := Option.some.inj ha2
              have hmi : (m : Int) < n := by omega
              have HB : Hid (anyB (fun c => noSet (g r c)) (m + 1) = (anyB (fun c => noSet (g r c)) m || noSet (g r m))) := rfl
              have HH := hide (fun h : noSet (g r m) = true => anyB_hit (b := fun c => noSet (g r c)) h n hmt)
              have KK := hide (KS.out (g r m))
              have hns : noSet (g r m) = !decide (0 ≤ g r m ∧ g r m ≤ 8191) := rfl
              generalize decide (0 ≤ g r m ∧ g r m ≤ 8191) = x at *
              rw [hns] at HB HH
              clear hns
              clear ha2
              go_wp2_with fail
              refine (KK.out _).mono ?_
              rintro e W ⟨rfl, rfl⟩
              cases x
              · go_wp2
                go_ret
                exact ⟨by rw [HZ.out, HA.out, HH.out rfl]; rfl, rfl⟩
              · go_wp2
                go_round
                case rel => exact ⟨m + 1, by omega, by go_num, by rw [HB.out, HNO.out]; rfl⟩
                case measure => simp [intOf]; omega
            · have hmn : m = n := by omega
              have hni : (n : Int) ≤ m := by omega
              rw [hmn] at HNO
              rw [HNO.out] at HA
              go_wp2
              go_round
              case rel => exact ⟨r + 1, by omega, by go_num, by rw [HZ.out, HA.out]; rfl⟩
              case measure => simp [intOf]; omega
        · have hLi : ¬ (L r : Int) = n := by omega
          rw [if_neg hL] at HA
          go_wp2
          go_ret
          exact ⟨by rw [HZ.out, HA.out]; rfl, rfl⟩
      · have hrn : r = n := by omega
        have hni : (n : Int) ≤ r := by omega
        rw [hrn, Nat.sub_self] at HZ
        go_wp2
        go_ret
        exact ⟨by rw [HZ.out]; rfl, rfl⟩
end Go.Proofs.YtnaggcadmfmibaaDoor
