/- Contracts of the small functions on numbers: remainders and quotients that are rounded down. -/
import Derived.Test.YtjmjabdokckdlaaDoorProg
import Derived.WalkKit
namespace Go.Proofs.YtjmjabdokckdlaaDoor
open Go.RowKit

theorem hide {p : Prop} (h : p) : Hid p := h

theorem ret_int {k : IntKind} {a b : Int} (h : a = b) : Ending.returned (.int k a) = .returned (.int k b) := by rw [h]

theorem ret_bool {a b : Bool} (h : a = b) : Ending.returned (.bool a) = .returned (.bool b) := by rw [h]

theorem tmod_cases (n b : Int) (hb : 0 < b) : (n.tmod b = n % b ∨ (n.tmod b + b = n % b ∧ n.tmod b < 0)) ∧ 0 ≤ n % b ∧ n % b < b := by
  have h1 := Int.emod_nonneg n (Int.ne_of_gt hb)
  have h2 := Int.emod_lt_of_pos n hb
  refine ⟨?_, h1, h2⟩
  rw [Int.tmod_eq_emod]
  split
  · left; omega
  · right; omega
theorem wrap64_id {x : Int} (h1 : -9223372036854775808 ≤ x) (h2 : x ≤ 9223372036854775807) : wrap64 x = x := by
  unfold wrap64; omega
theorem tdiv_cases (n b : Int) (hb : 0 < b) : n.tdiv b = n / b + (if n.tmod b < 0 then 1 else 0) := by
  have h := Int.tmod_add_mul_tdiv n b
  have k := Int.emod_add_mul_ediv n b
  obtain ⟨c, h1, h2⟩ := tmod_cases n b hb
  have e : b * (n.tdiv b - n / b) = n % b - n.tmod b := by rw [Int.mul_sub]; omega
  rcases c with c | ⟨c, c2⟩
  · rw [if_neg (by omega)]
    have : b * (n.tdiv b - n / b) = 0 := by omega
    rcases Int.mul_eq_zero.1 this with h | h <;> omega
  · rw [if_pos c2]
    have : b * (n.tdiv b - n / b - 1) = 0 := by rw [Int.mul_sub, e]; omega
    rcases Int.mul_eq_zero.1 this with h | h <;> omega
theorem tdiv_bd (n b : Int) (h1 : -9000000000000000000 ≤ n) (h2 : n ≤ 9000000000000000000) : -9000000000000000000 ≤ n.tdiv b ∧ n.tdiv b ≤ 9000000000000000000 := by
  have := Int.natAbs_tdiv_le_natAbs n b
  omega

theorem rfloor_eq (n b : Int) (hb : 0 < b) : (n - n % b).tdiv b = n / b := by
  have k := Int.emod_add_mul_ediv n b
  have : n - n % b = b * (n / b) := by omega
  rw [this, Int.mul_tdiv_cancel_left _ (by omega)]
end Go.Proofs.YtjmjabdokckdlaaDoor
