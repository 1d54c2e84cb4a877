/- A line with what stands between its fields, that came in, opened. -/
import Derived.Test.YtpfdjnnnemkoiaaDoorCuOpen
import Derived.Test.YtpfdjnnnemkoiaaDoorCuPlain
import Derived.Lib.SmallJoins
import Derived.Test.YtpfdjnnnemkoiaaDoorCuU8
namespace Go.Proofs.YtpfdjnnnemkoiaaDoor.Cu
open Go.ChangeShapes Go.WideShapes Go.ChangeAt Go.RowKit Go.Deep

set_option maxRecDepth 100000 in
theorem open_line {H : Type} {enc : TypeId × Value → H} {W : World} {base : Nat} {spare : Nat → Bool} {held : Bool} {r : Reach} {b0 : Nat} {v : Value} {d : DataW H} {p : List MemPlace}
    (hval : Value.okWide Tryd.prog W r b0 46 v) (h : DataW.Trod enc Tryd.prog W base spare held 46 v d p) (hz : ∀ n ∈ d.weights Tryd.prog 46, n ≤ reachBytes) :
    ∃ (s : ByteArray) (c : UInt8) (b : Bool), v = .agg #[.string s, .int .u8 c.toNat, .bool b] ∧ s.size ≤ reachBytes := by
  obtain ⟨v0, v1, v2, y0, y1, y2, n, rfl, rfl, rfl, h0, h1, h2⟩ := Go.Joins.open_agg3 Tryd.underlying46 (by kernel_rfl) (by kernel_rfl) hval h
  obtain ⟨a, e0, rfl, _⟩ := DataW.trod_string Tryd.underlying9 h0
  obtain ⟨k, e1, _, wk⟩ := DataW.trod_int Tryd.underlying5 h1
  obtain ⟨b, e2, _⟩ := DataW.trod_bool Tryd.underlying4 h2
  simp at e0 e1 e2
  subst e0 e1 e2
  obtain ⟨c, rfl⟩ := u8_back k wk
  refine ⟨a, c, b, rfl, ?_⟩
  exact hz a.data.toList.length (by simp [DataW.weights, DataW.weightsEach, Tryd.underlying46])
end Go.Proofs.YtpfdjnnnemkoiaaDoor.Cu
