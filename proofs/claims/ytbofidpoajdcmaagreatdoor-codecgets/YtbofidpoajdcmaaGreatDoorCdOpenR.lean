/- A list of bytes that came in is no longer than the reach. -/
import Derived.Test.YtbofidpoajdcmaaGreatDoorCdOpen
namespace Go.Proofs.YtbofidpoajdcmaaGreatDoor.Cd
open Go.ChangeShapes Go.WideShapes Go.ChangeAt Go.RowKit

theorem Tryz.bytesByte : Tryz.prog.bytesOf 5 = 1 := by kernel_rfl
theorem open_reach {H : Type} {enc : TypeId × Value → H} {W : World} {base fuel : Nat} {spare : Nat → Bool} {held : Bool} {a : Option Addr} {len cap : Nat} {x : DataW H × List MemPlace}
    (hf : DataW.trod enc Tryz.prog W base spare held fuel 23 (Value.slice a len cap).cells.toList = some x) (hz : ∀ n ∈ x.1.weights Tryz.prog 23, n ≤ reachBytes) : len ≤ reachBytes := by
  rcases open_ints Tryz.underlying23 Tryz.underlying5 (by kernel_rfl) hf with ⟨hcs, _⟩ | ⟨x, l, c, zs, hcs, _, hl, hm, hzs, hx, hcell, hwz⟩
  · simp [Value.cells] at hcs
    obtain ⟨rfl, rfl, rfl⟩ := hcs
    exact Nat.zero_le _
  · simp [Value.cells] at hcs
    obtain ⟨rfl, rfl, rfl⟩ := hcs
    have hlz : len ≤ zs.length := by rw [hzs]; split <;> omega
    rw [hx] at hz
    have := hz (((lits .u8 (zs.take len) : List (DataW H)).length + (lits .u8 (zs.drop len) : List (DataW H)).length) * Tryz.prog.bytesOf 5) (by
      simp [DataW.weights, Tryz.underlying23])
    rw [Tryz.bytesByte] at this
    simp [lits] at this
    omega
end Go.Proofs.YtbofidpoajdcmaaGreatDoor.Cd
