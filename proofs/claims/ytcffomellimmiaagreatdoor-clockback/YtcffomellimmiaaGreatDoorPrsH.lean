/- A stamp's text is read as the stamp. -/
import Derived.Test.YtcffomellimmiaaGreatDoorPrsG
import Derived.Test.YtcffomellimmiaaGreatDoorTxtI
namespace Go.Proofs.YtcffomellimmiaaGreatDoor
open Go.RowKit Go.Shelf
set_option linter.unusedVariables false
set_option linter.unusedSimpArgs false

theorem date_day (day y m d : Int) (d1 : -4000000 ≤ day) (d2 : day ≤ 4000000) (y1 : -20000 ≤ y) (y2 : y ≤ 20000) (hd : Alm.IsDate 1 day y m d) : derr 1 y m d = 0 ∧ dnum 1 y m d = day := by
  have e : dnum 1 y m d = day := by have := hd.eq; unfold dnum; omega
  have := hd.m1; have := hd.m2; have := hd.d1; have := hd.d2
  refine ⟨?_, e⟩
  unfold derr
  rw [e, if_neg (by omega), if_neg (by omega), if_neg (by omega), if_neg (by omega), if_neg (by omega)]
/-- the bytes of a time's text -/
def tL (y : Int) (M D h m x : Nat) : List UInt8 := (yL y ++ 45 :: (Tx.padL M 2 ++ 45 :: Tx.padL D 2)) ++ 84 :: cL h m x
theorem txt_data (y : Int) (M D h m x : Nat) : (Tx.txt y M D h m x).data.toList = tL y M D h m x := by
  unfold Tx.txt tL cL
  simp only [Tx.data_app, yL_data, Tx.pad_data]
  simp
theorem yL_length (y : Int) (y1 : -20000 ≤ y) (y2 : y ≤ 20000) : (yL y).length ≤ 6 := by
  rw [← yL_data, ← Tx.size_len]; exact Tx.ytx_size y y1 y2
theorem tL_length (y : Int) (M D h m x : Nat) (hM : M < 100) (hD : D < 100) (hh : h < 100) (hm : m < 100) (hx : x < 100) : (tL y M D h m x).length = (yL y).length + 6 + 1 + 8 := by
  unfold tL cL
  simp only [List.length_append, List.length_cons, Tx.padL_exact M 2 (by omega) (by omega), Tx.padL_exact D 2 (by omega) (by omega), Tx.padL_exact h 2 (by omega) (by omega), Tx.padL_exact m 2 (by omega) (by omega), Tx.padL_exact x 2 (by omega) (by omega)]
theorem seg_app (T S : ByteArray) : Tx.Seg (T ++ S) 0 (T.data.toList ++ S.data.toList) := ⟨[], [], by rw [Tx.data_app]; simp, rfl⟩

/-- the shape of a stamp's text: what stands behind its time, and what it tells -/
inductive Behind : ByteArray → Int → Int → Prop
  | none : Behind ⟨#[]⟩ 0 0
  | zulu : Behind ⟨#[90]⟩ 1 0
  | pos (k : Nat) (o : Int) (ho : o = k) (hk : k < 86400) (h6 : k % 60 = 0) : Behind (otx 43 k) 2 o
  | neg (k : Nat) (o : Int) (ho : -o = k) (hk : k < 86400) (h6 : k % 60 = 0) : Behind (otx 45 k) 2 o
theorem otx_data (sg : UInt8) (k : Nat) : (otx sg k).data.toList = sg :: (Tx.padL (k / 3600) 2 ++ 58 :: Tx.padL (k % 3600 / 60) 2) := by
  unfold otx
  simp only [Tx.data_app, Tx.pad_data]
  simp
theorem Behind.size {S : ByteArray} {z o : Int} (h : Behind S z o) : S.size ≤ 6 := by
  cases h with
  | none => decide
  | zulu => decide
  | pos k o ho hk h6 => exact Nat.le_of_eq (otx_size _ _ hk)
  | neg k o ho hk h6 => exact Nat.le_of_eq (otx_size _ _ hk)
theorem zone_back (b : Nat) (s S : ByteArray) (q : Nat) (z o : Int) (h : Behind S z o) (hs : s.size ≤ 1000000000) (hseg : Tx.Seg s q S.data.toList) (hend : s.size = q + S.size) (W : World) (hr : Rd b s q W) :
    Calls Tryz.prog 71 #[.pointer (some ⟨b, 0, none⟩), .bool true] W fun e w' => e = .returned (.tuple #[.int .i64 z, .int .i64 o, .nilIface]) ∧ Rd b s (q + S.size) w' ∧ Mv b W w' := by
  cases h with
  | none =>
    have e : (⟨#[]⟩ : ByteArray).size = 0 := rfl
    rw [e] at hend ⊢
    exact rzone_none b s q W hr hs (by omega) (Nx.end (by omega)) (Nx.end (by omega)) (Nx.end (by omega))
  | zulu =>
    exact rzone_zulu b s q W hr hs hseg
  | pos k o ho hk h6 =>
    rw [otx_data] at hseg
    have := rzone_pos b s q _ _ W hr hs hseg (by omega) (by omega)
    rw [show (3600 : Int) * ((k / 3600 : Nat) : Int) + 60 * ((k % 3600 / 60 : Nat) : Int) = o by omega] at this
    rw [otx_size _ _ hk]
    exact this
  | neg k o ho hk h6 =>
    rw [otx_data] at hseg
    have := rzone_neg b s q _ _ W hr hs hseg (by omega) (by omega)
    rw [show -((3600 : Int) * ((k / 3600 : Nat) : Int) + 60 * ((k % 3600 / 60 : Nat) : Int)) = o by omega] at this
    rw [otx_size _ _ hk]
    exact this
/-- Parse of a stamp's text -/
theorem parse_back (t y mo d z o : Int) (M D : Nat) (S : ByteArray) (t1 : -345600000000 ≤ t) (t2 : t ≤ 345600086399) (y1 : -20000 ≤ y) (y2 : y ≤ 20000) (hD : Alm.IsDate 1 (t / 86400) y mo d) (hM : mo = M) (hDD : d = D) (hMb : M < 100) (hDb : D < 100) (hS : Behind S z o) (w : World) :
    Calls Tryz.prog 22 #[.string (Tx.txt y M D ((t % 86400).toNat / 3600) ((t % 86400).toNat % 3600 / 60) ((t % 86400).toNat % 60) ++ S)] w fun e w' => e = .returned (.tuple #[.agg #[.int .i64 t, .int .i64 z, .int .i64 o], .nilIface]) ∧ Below w.heap.size w w' := by
  obtain ⟨he, hv⟩ := date_day (t / 86400) y mo d (by omega) (by omega) y1 y2 hD
  have kd := fun W => day_ok 1 y mo d W he
  rw [hv, hM, hDD] at kd
  have hh : (t % 86400).toNat / 3600 < 24 := by omega
  have hm : (t % 86400).toNat % 3600 / 60 < 60 := by omega
  have hx : (t % 86400).toNat % 60 < 60 := by omega
  have hsum : t = (t / 86400) * 86400 + (3600 * (((t % 86400).toNat / 3600 : Nat) : Int) + 60 * (((t % 86400).toNat % 3600 / 60 : Nat) : Int) + (((t % 86400).toNat % 60 : Nat) : Int)) := by omega
  generalize (t % 86400).toNat / 3600 = h at *
  generalize (t % 86400).toNat % 3600 / 60 = m at *
  generalize (t % 86400).toNat % 60 = x at *
  have hz := Tx.txt_size y M D h m x y1 y2 hMb hDb (by omega) (by omega) (by omega)
  have hz2 := hS.size
  have hsz : (Tx.txt y M D h m x ++ S).size = (yL y).length + 6 + 1 + 8 + S.size := by
    rw [ByteArray.size_append, Tx.size_len (Tx.txt y M D h m x), txt_data, tL_length y M D h m x hMb hDb (by omega) (by omega) (by omega)]
  have hseg := seg_app (Tx.txt y M D h m x) S
  rw [txt_data] at hseg
  have hsegz := hseg.right
  rw [tL_length y M D h m x hMb hDb (by omega) (by omega) (by omega)] at hsegz
  have hb := yL_length y y1 y2
  have hsN : (Tx.txt y M D h m x ++ S).size ≤ 1000000000 := by omega
  refine cparse_steps _ (0 + ((yL y).length + 6) + 1 + 8 + S.size) t z o w hsN (by omega) (fun b W hR => ?_)
  have := rstamp_any b _ 0 (0 + ((yL y).length + 6) + 1 + 8 + S.size) M D h m x y (t / 86400) z o W hR hsN hseg.left y1 y2 hMb hDb hh hm hx (by omega) (by omega) kd (fun W' hR' => zone_back b _ S _ z o hS hsN (by rw [show 0 + ((yL y).length + 6) + 1 + 8 = 0 + ((yL y).length + 6 + 1 + 8) by omega]; exact hsegz) (by omega) W' hR')
  rw [← hsum] at this
  exact this
end Go.Proofs.YtcffomellimmiaaGreatDoor
