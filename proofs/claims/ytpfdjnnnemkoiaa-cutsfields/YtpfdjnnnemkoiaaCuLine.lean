/- A line with what stands between its fields, that came in, opened. -/
import Derived.Test.YtpfdjnnnemkoiaaCuOpen
import Derived.Test.YtpfdjnnnemkoiaaCuPlain
import Derived.Lib.SmallJoins
namespace Go.Proofs.Ytpfdjnnnemkoiaa.Cu
open Go.ChangeShapes Go.WideShapes Go.ChangeAt Go.RowKit Go.Deep

theorem u8_back (n : Int) (h : (Lit.int .u8 n).wf = true) : ∃ c : UInt8, n = (c.toNat : Int) := by
  simp [Lit.wf, IntKind.min, IntKind.max, IntKind.signed, IntKind.bits] at h
  refine ⟨UInt8.ofNat n.toNat, ?_⟩
  simp
  omega
set_option maxRecDepth 100000 in
theorem open_line {H : Type} {enc : TypeId × Value → H} {W : World} {base : Nat} {spare : Nat → Bool} {held : Bool} {r : Reach} {b0 : Nat} {v : Value} {d : DataW H} {p : List MemPlace}
    (hval : Value.okWide Try.prog W r b0 28 v) (h : DataW.Trod enc Try.prog W base spare held 28 v d p) (hz : ∀ n ∈ d.weights Try.prog 28, n ≤ reachBytes) :
    ∃ (s : ByteArray) (c : UInt8) (b : Bool), v = .agg #[.string s, .int .u8 c.toNat, .bool b] ∧ s.size ≤ reachBytes := by
  obtain ⟨v0, v1, v2, y0, y1, y2, n, rfl, rfl, rfl, h0, h1, h2⟩ := Go.Joins.open_agg3 Try.underlying28 (by kernel_rfl) (by kernel_rfl) hval h
  obtain ⟨a, e0, rfl, _⟩ := DataW.trod_string Try.underlying9 h0
  obtain ⟨k, e1, _, wk⟩ := DataW.trod_int Try.underlying5 h1
  obtain ⟨b, e2, _⟩ := DataW.trod_bool Try.underlying4 h2
  simp at e0 e1 e2
  subst e0 e1 e2
  obtain ⟨c, rfl⟩ := u8_back k wk
  refine ⟨a, c, b, rfl, ?_⟩
  exact hz a.data.toList.length (by simp [DataW.weights, DataW.weightsEach, Try.underlying28])
end Go.Proofs.Ytpfdjnnnemkoiaa.Cu
