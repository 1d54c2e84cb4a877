/- Small numbers that came in. -/
import Derived.Test.YthmoinagfooncaaDoorTrOpen
namespace Go.Proofs.YthmoinagfooncaaDoor.Tr
theorem u16_back (n : Int) (h : (Lit.int .u16 n).wf = true) : ∃ k : Nat, n = (k : Int) ∧ k < 65536 := by
  have h2 : 0 ≤ n ∧ n < 65536 := by
    simp [Lit.wf] at h
    have h1 : IntKind.u16.min = 0 := by decide
    have h2 : IntKind.u16.max = 65535 := by decide
    rw [h1, h2] at h
    omega
  exact ⟨n.toNat, by omega, by omega⟩
theorem i8_back (n : Int) (h : (Lit.int .i8 n).wf = true) : -128 ≤ n ∧ n ≤ 127 := by
  simp [Lit.wf] at h
  have h1 : IntKind.i8.min = -128 := by decide
  have h2 : IntKind.i8.max = 127 := by decide
  rw [h1, h2] at h
  omega
end Go.Proofs.YthmoinagfooncaaDoor.Tr
