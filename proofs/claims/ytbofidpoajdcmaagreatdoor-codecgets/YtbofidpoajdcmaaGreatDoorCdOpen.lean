/- A list of bytes that came in, opened. -/
import Derived.Test.YtbofidpoajdcmaaGreatDoorTrPlain
import Derived.ProofKit
import Derived.OpenShut
import Derived.SizedLaws
namespace Go.Proofs.YtbofidpoajdcmaaGreatDoor.Cd
open Go.ChangeShapes Go.WideShapes Go.ChangeAt Go.RowKit Cu Tr

theorem wf_u8 {n : Int} (h : (Lit.int .u8 n).wf = true) : 0 ≤ n ∧ n ≤ 255 := by
  simp [Lit.wf, IntKind.min, IntKind.max, IntKind.signed, IntKind.bits] at h; omega
def toB (n : Int) : UInt8 := UInt8.ofNat n.toNat
theorem toB_nat {n : Int} (h : 0 ≤ n ∧ n ≤ 255) : ((toB n).toNat : Int) = n := by
  unfold toB; simp; omega
theorem open_bytes {H : Type} {enc : TypeId × Value → H} {W : World} {base fuel : Nat} {spare : Nat → Bool} {held : Bool} {a : Option Addr} {len cap : Nat} {x : DataW H × List MemPlace}
    (hf : DataW.trod enc Tryz.prog W base spare held fuel 23 (Value.slice a len cap).cells.toList = some x) : ∃ l : Bs, By W a len cap l ∧ len ≤ 9223372036854775807 := by
  rcases open_ints Tryz.underlying23 Tryz.underlying5 (by kernel_rfl) hf with ⟨hcs, _⟩ | ⟨x, l, c, zs, hcs, _, hl, hm, hz, _, hcell, hwz⟩
  · simp [Value.cells] at hcs
    obtain ⟨rfl, rfl, rfl⟩ := hcs
    exact ⟨[], ⟨rfl, Nat.le_refl _, fun _ => ⟨rfl, rfl⟩, .inl rfl⟩, by omega⟩
  · simp [Value.cells] at hcs
    obtain ⟨rfl, rfl, rfl⟩ := hcs
    have hlz : len ≤ zs.length := by rw [hz]; split <;> omega
    unfold maxLen at hm
    have hg : ∀ i, i < len → (((zs.take len).map toB).getD i 0).toNat = zs.getD i 0 := fun i hi => by
      have hiz : i < zs.length := by omega
      have e : ((zs.take len).map toB).getD i 0 = toB zs[i] := by simp [List.getD, hi, List.getElem?_eq_getElem hiz]
      rw [e, toB_nat (wf_u8 (hwz _ (List.getElem_mem hiz)))]
      simp [List.getD, List.getElem?_eq_getElem hiz]
    refine ⟨(zs.take len).map toB, ⟨by simp; omega, hl, (by intro h; cases h), ?_⟩, by omega⟩
    by_cases h0 : len = 0
    · exact .inl h0
    · obtain ⟨b, off, rfl, hc⟩ := ints_at hcell (by omega)
      refine .inr ⟨b, off, rfl, ?_, fun i hi => ?_⟩
      · have := hc 0 (by omega)
        unfold World.cell? at this
        by_cases hlt : b < W.heap.size
        · exact hlt
        · simp [Array.getElem?_eq_none (Nat.le_of_not_lt hlt)] at this
      · rw [hc i (by omega)]
        congr 2
        exact (hg i hi).symm
end Go.Proofs.YtbofidpoajdcmaaGreatDoor.Cd
