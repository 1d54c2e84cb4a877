/- The law SetsClasses: walked, for every byte. -/
import Derived.Test.YtjgboecifonjdabSeClsA
import Derived.Test.YtjgboecifonjdabSeClsB
import Derived.Test.YtjgboecifonjdabSeClsC
import Derived.Test.YtjgboecifonjdabSeClsD
namespace Go.Proofs.Ytjgboecifonjdab.Se
open Go.RowKit

theorem classes_walk (c : UInt8) (w : World) :
    Calls Try.prog 5 #[.int .u8 c.toNat] w fun e w' => e = .returned (.bool true) ∧ Below w.heap.size w w' := by
  have h255 := c.toNat_lt
  have h : (((0 ≤ c.toNat ∧ c.toNat ≤ 8) ∨ (14 ≤ c.toNat ∧ c.toNat ≤ 31)) ∨ ((9 ≤ c.toNat ∧ c.toNat ≤ 9)) ∨ ((10 ≤ c.toNat ∧ c.toNat ≤ 13))) ∨ (((32 ≤ c.toNat ∧ c.toNat ≤ 32)) ∨ ((33 ≤ c.toNat ∧ c.toNat ≤ 47) ∨ (58 ≤ c.toNat ∧ c.toNat ≤ 64) ∨ (91 ≤ c.toNat ∧ c.toNat ≤ 96) ∨ (123 ≤ c.toNat ∧ c.toNat ≤ 126)) ∨ ((48 ≤ c.toNat ∧ c.toNat ≤ 57))) ∨ (((65 ≤ c.toNat ∧ c.toNat ≤ 70)) ∨ ((71 ≤ c.toNat ∧ c.toNat ≤ 90)) ∨ ((97 ≤ c.toNat ∧ c.toNat ≤ 102))) ∨ (((103 ≤ c.toNat ∧ c.toNat ≤ 122)) ∨ ((127 ≤ c.toNat ∧ c.toNat ≤ 127)) ∨ ((128 ≤ c.toNat ∧ c.toNat ≤ 255))) := by omega
  rcases h with h | h | h | h
  · exact classes_walkA c w h
  · exact classes_walkB c w h
  · exact classes_walkC c w h
  · exact classes_walkD c w h
end Go.Proofs.Ytjgboecifonjdab.Se
