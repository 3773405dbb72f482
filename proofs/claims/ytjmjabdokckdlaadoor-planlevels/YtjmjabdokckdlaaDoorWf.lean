/- What a row says of an integer argument: it is of 64 bits. -/
import Derived.Test.YtjmjabdokckdlaaDoorLawBase
namespace Go.Proofs.YtjmjabdokckdlaaDoor
theorem wf_bd {n : Int} (h : (Lit.int .i64 n).wf = true) : -9223372036854775808 ≤ n ∧ n < 9223372036854775808 := by
  simp [Lit.wf, IntKind.min, IntKind.max, IntKind.signed, IntKind.bits] at h
  omega
end Go.Proofs.YtjmjabdokckdlaaDoor
