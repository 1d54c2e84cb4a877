/- Of a list of flags that came in: if it has no address it is nil. -/
import Derived.Test.YtjnlpllibpmclaaOpenFlags
namespace Go.Proofs.Ytjnlpllibpmclaa.Flags
open Go.ChangeShapes Go.WideShapes Go.ChangeAt Go.RowKit Go.Deep

theorem flags_nil {H : Type} {enc : TypeId × Value → H} {W : World} {base fuel : Nat} {spare : Nat → Bool} {held : Bool} {a : Option Addr} {len cap : Nat} {x : DataW H × List MemPlace}
    (hf : DataW.trod enc Try.prog W base spare held fuel 26 (Value.slice a len cap).cells.toList = some x) : a = none → len = 0 ∧ cap = 0 := by
  rcases open_slice_pairs Try.underlying26 Try.underlying35 Try.cellsFlag rfl rfl Try.cellsU8 Try.cellsStr hf with ⟨hcs, _⟩ | ⟨a', len', cap', m, n, V0, V1, D0, D1, P0, P1, hcs, _⟩
  · simp [Value.cells] at hcs
    obtain ⟨rfl, rfl, rfl⟩ := hcs
    exact fun _ => ⟨rfl, rfl⟩
  · simp [Value.cells] at hcs
    obtain ⟨rfl, rfl, rfl⟩ := hcs
    intro h; cases h
theorem flags_nil_of {H : Type} {enc : TypeId × Value → H} {W : World} {base : Nat} {spare : Nat → Bool} {held : Bool} {a : Option Addr} {len cap : Nat} {d : DataW H} {p : List MemPlace}
    (h : DataW.Trod enc Try.prog W base spare held 26 (.slice a len cap) d p) : a = none → len = 0 ∧ cap = 0 := by
  obtain ⟨fuel, hf⟩ := h
  exact flags_nil hf
end Go.Proofs.Ytjnlpllibpmclaa.Flags
