/- A byte that came in. -/
import Derived.Test.YtelijbnamiefcabRows
import Derived.ProofKit
namespace Go.Proofs.Ytelijbnamiefcab.Gl
open Go.RowKit

theorem u8_back (n : Int) (h : (Lit.int .u8 n).wf = true) : ∃ c : UInt8, n = (c.toNat : Int) := by
  simp [Lit.wf, IntKind.min, IntKind.max, IntKind.signed, IntKind.bits] at h
  refine ⟨UInt8.ofNat n.toNat, ?_⟩
  simp
  omega
end Go.Proofs.Ytelijbnamiefcab.Gl
