/- A list of bytes that came in is no longer than the reach. -/
import Derived.Test.YtjgboecifonjdaaDoorSeOpen
namespace Go.Proofs.YtjgboecifonjdaaDoor.Se
open Go.ChangeShapes Go.WideShapes Go.ChangeAt Go.RowKit

theorem Tryd.bytesByte : Tryd.prog.bytesOf 5 = 1 := by kernel_rfl
theorem open_reach {H : Type} {enc : TypeId × Value → H} {W : World} {base fuel : Nat} {spare : Nat → Bool} {held : Bool} {a : Option Addr} {len cap : Nat} {x : DataW H × List MemPlace}
    (hf : DataW.trod enc Tryd.prog W base spare held fuel 22 (Value.slice a len cap).cells.toList = some x) (hz : ∀ n ∈ x.1.weights Tryd.prog 22, n ≤ reachBytes) : len ≤ reachBytes := by
  rcases open_ints Tryd.underlying22 Tryd.underlying5 (by kernel_rfl) hf with ⟨hcs, _⟩ | ⟨x, l, c, zs, hcs, _, hl, hm, hzs, hx, hcell, hwz⟩
  · simp [Value.cells] at hcs
    obtain ⟨rfl, rfl, rfl⟩ := hcs
    exact Nat.zero_le _
  · simp [Value.cells] at hcs
    obtain ⟨rfl, rfl, rfl⟩ := hcs
    have hlz : len ≤ zs.length := by rw [hzs]; split <;> omega
    rw [hx] at hz
    have := hz (((lits .u8 (zs.take len) : List (DataW H)).length + (lits .u8 (zs.drop len) : List (DataW H)).length) * Tryd.prog.bytesOf 5) (by
      simp [DataW.weights, Tryd.underlying22])
    rw [Tryd.bytesByte] at this
    simp [lits] at this
    omega
end Go.Proofs.YtjgboecifonjdaaDoor.Se
