/- The law SetsClasses: walked. -/
import Derived.Test.YtjgboecifonjdabSeAlive
import Derived.Test.YtjgboecifonjdabSeFacts
namespace Go.Proofs.Ytjgboecifonjdab.Se
open Go.RowKit

theorem bs_app (a b : ByteArray) : bs (a ++ b) = bs a ++ bs b := by simp [bs, ByteArray.data_append]
/-- the answers for the first k classes, the rest still false -/
def inA (k : Nat) (c : UInt8) : Array Value := ((List.range 12).map fun i => Value.bool (if i < k then clsAt i c else false)).toArray
theorem inA_get (k i : Nat) (c : UInt8) (h : i < 12) : (inA k c)[i]? = some (.bool (if i < k then clsAt i c else false)) := by
  simp [inA, h]
theorem inA_step (k : Nat) (c : UInt8) (h : k < 12) : (inA k c).setIfInBounds k (.bool (clsAt k c)) = inA (k + 1) c := by
  apply Array.ext_getElem?
  intro i
  by_cases hi : i < 12
  · rw [inA_get (k + 1) i c hi, Array.getElem?_setIfInBounds]
    by_cases e : k = i
    · rw [if_pos e, if_pos (by simp [inA]; omega), ← e, if_pos (by omega)]
    · rw [if_neg e, inA_get k i c hi]
      by_cases h2 : i < k
      · rw [if_pos h2, if_pos (by omega)]
      · rw [if_neg h2, if_neg (by omega)]
  · rw [Array.getElem?_eq_none (by simp [inA]; omega), Array.getElem?_eq_none (by simp [inA]; omega)]
def nm (i : Nat) : ByteArray := ⟨(nameAt i).toArray⟩
theorem nm_size : ∀ i, i < 12 → (nm i).size ≤ 6 := by decide +kernel
def pfx : ByteArray := { data := #[91, 58] }
def sfx : ByteArray := { data := #[58, 93] }
def sfx2 : ByteArray := { data := #[58, 93, 45, 91, 58, 100, 105, 103, 105, 116, 58, 93] }
theorem parse_nm (i : Nat) (h : i < 12) : parse (bs ((pfx ++ nm i) ++ sfx)) = (bytes.filter (clsAt i), 0) := by
  rw [bs_app, bs_app]; exact parse_one i h
theorem parse_nm2 (i : Nat) (h : i < 12) : parse (bs ((pfx ++ nm i) ++ sfx2)) = (bytes.filter (clsAt i) ++ 45 :: bytes.filter (clsAt 4), 0) := by
  rw [bs_app, bs_app]
  have := parse_two i h
  rw [List.append_assoc] at this
  exact this
/-- all answers for a byte -/
def bits (c : UInt8) : List Bool := (List.range 12).map fun i => clsAt i c
theorem inA_all (c : UInt8) : inA 12 c = ((bits c).map Value.bool).toArray := by
  apply Array.ext_getElem?
  intro i
  by_cases hi : i < 12
  · rw [inA_get 12 i c hi, if_pos hi]; simp [bits, hi]
  · rw [Array.getElem?_eq_none (by simp [inA]; omega), Array.getElem?_eq_none (by simp [bits]; omega)]
theorem reg0n : ∀ n, n < 256 → ((0 ≤ n ∧ n ≤ 8) ∨ (14 ≤ n ∧ n ≤ 31)) → bits (UInt8.ofNat n) = [false, false, false, true, false, false, false, false, false, false, false, false] := by decide +kernel
theorem reg0 (c : UInt8) (h0 : ((0 ≤ c.toNat ∧ c.toNat ≤ 8) ∨ (14 ≤ c.toNat ∧ c.toNat ≤ 31))) : bits c = [false, false, false, true, false, false, false, false, false, false, false, false] := by
  have := reg0n c.toNat c.toNat_lt h0
  rwa [UInt8.ofNat_toNat] at this
theorem reg1n : ∀ n, n < 256 → ((9 ≤ n ∧ n ≤ 9)) → bits (UInt8.ofNat n) = [false, false, true, true, false, false, false, false, false, true, false, false] := by decide +kernel
theorem reg1 (c : UInt8) (h0 : ((9 ≤ c.toNat ∧ c.toNat ≤ 9))) : bits c = [false, false, true, true, false, false, false, false, false, true, false, false] := by
  have := reg1n c.toNat c.toNat_lt h0
  rwa [UInt8.ofNat_toNat] at this
theorem reg2n : ∀ n, n < 256 → ((10 ≤ n ∧ n ≤ 13)) → bits (UInt8.ofNat n) = [false, false, false, true, false, false, false, false, false, true, false, false] := by decide +kernel
theorem reg2 (c : UInt8) (h0 : ((10 ≤ c.toNat ∧ c.toNat ≤ 13))) : bits c = [false, false, false, true, false, false, false, false, false, true, false, false] := by
  have := reg2n c.toNat c.toNat_lt h0
  rwa [UInt8.ofNat_toNat] at this
theorem reg3n : ∀ n, n < 256 → ((32 ≤ n ∧ n ≤ 32)) → bits (UInt8.ofNat n) = [false, false, true, false, false, false, false, true, false, true, false, false] := by decide +kernel
theorem reg3 (c : UInt8) (h0 : ((32 ≤ c.toNat ∧ c.toNat ≤ 32))) : bits c = [false, false, true, false, false, false, false, true, false, true, false, false] := by
  have := reg3n c.toNat c.toNat_lt h0
  rwa [UInt8.ofNat_toNat] at this
theorem reg4n : ∀ n, n < 256 → ((33 ≤ n ∧ n ≤ 47) ∨ (58 ≤ n ∧ n ≤ 64) ∨ (91 ≤ n ∧ n ≤ 96) ∨ (123 ≤ n ∧ n ≤ 126)) → bits (UInt8.ofNat n) = [false, false, false, false, false, true, false, true, true, false, false, false] := by decide +kernel
theorem reg4 (c : UInt8) (h0 : ((33 ≤ c.toNat ∧ c.toNat ≤ 47) ∨ (58 ≤ c.toNat ∧ c.toNat ≤ 64) ∨ (91 ≤ c.toNat ∧ c.toNat ≤ 96) ∨ (123 ≤ c.toNat ∧ c.toNat ≤ 126))) : bits c = [false, false, false, false, false, true, false, true, true, false, false, false] := by
  have := reg4n c.toNat c.toNat_lt h0
  rwa [UInt8.ofNat_toNat] at this
theorem reg5n : ∀ n, n < 256 → ((48 ≤ n ∧ n ≤ 57)) → bits (UInt8.ofNat n) = [false, true, false, false, true, true, false, true, false, false, false, true] := by decide +kernel
theorem reg5 (c : UInt8) (h0 : ((48 ≤ c.toNat ∧ c.toNat ≤ 57))) : bits c = [false, true, false, false, true, true, false, true, false, false, false, true] := by
  have := reg5n c.toNat c.toNat_lt h0
  rwa [UInt8.ofNat_toNat] at this
theorem reg6n : ∀ n, n < 256 → ((65 ≤ n ∧ n ≤ 70)) → bits (UInt8.ofNat n) = [true, true, false, false, false, true, false, true, false, false, true, true] := by decide +kernel
theorem reg6 (c : UInt8) (h0 : ((65 ≤ c.toNat ∧ c.toNat ≤ 70))) : bits c = [true, true, false, false, false, true, false, true, false, false, true, true] := by
  have := reg6n c.toNat c.toNat_lt h0
  rwa [UInt8.ofNat_toNat] at this
theorem reg7n : ∀ n, n < 256 → ((71 ≤ n ∧ n ≤ 90)) → bits (UInt8.ofNat n) = [true, true, false, false, false, true, false, true, false, false, true, false] := by decide +kernel
theorem reg7 (c : UInt8) (h0 : ((71 ≤ c.toNat ∧ c.toNat ≤ 90))) : bits c = [true, true, false, false, false, true, false, true, false, false, true, false] := by
  have := reg7n c.toNat c.toNat_lt h0
  rwa [UInt8.ofNat_toNat] at this
theorem reg8n : ∀ n, n < 256 → ((97 ≤ n ∧ n ≤ 102)) → bits (UInt8.ofNat n) = [true, true, false, false, false, true, true, true, false, false, false, true] := by decide +kernel
theorem reg8 (c : UInt8) (h0 : ((97 ≤ c.toNat ∧ c.toNat ≤ 102))) : bits c = [true, true, false, false, false, true, true, true, false, false, false, true] := by
  have := reg8n c.toNat c.toNat_lt h0
  rwa [UInt8.ofNat_toNat] at this
theorem reg9n : ∀ n, n < 256 → ((103 ≤ n ∧ n ≤ 122)) → bits (UInt8.ofNat n) = [true, true, false, false, false, true, true, true, false, false, false, false] := by decide +kernel
theorem reg9 (c : UInt8) (h0 : ((103 ≤ c.toNat ∧ c.toNat ≤ 122))) : bits c = [true, true, false, false, false, true, true, true, false, false, false, false] := by
  have := reg9n c.toNat c.toNat_lt h0
  rwa [UInt8.ofNat_toNat] at this
theorem reg10n : ∀ n, n < 256 → ((127 ≤ n ∧ n ≤ 127)) → bits (UInt8.ofNat n) = [false, false, false, true, false, false, false, false, false, false, false, false] := by decide +kernel
theorem reg10 (c : UInt8) (h0 : ((127 ≤ c.toNat ∧ c.toNat ≤ 127))) : bits c = [false, false, false, true, false, false, false, false, false, false, false, false] := by
  have := reg10n c.toNat c.toNat_lt h0
  rwa [UInt8.ofNat_toNat] at this
theorem reg11n : ∀ n, n < 256 → ((128 ≤ n ∧ n ≤ 255)) → bits (UInt8.ofNat n) = [false, false, false, false, false, false, false, false, false, false, false, false] := by decide +kernel
theorem reg11 (c : UInt8) (h0 : ((128 ≤ c.toNat ∧ c.toNat ≤ 255))) : bits c = [false, false, false, false, false, false, false, false, false, false, false, false] := by
  have := reg11n c.toNat c.toNat_lt h0
  rwa [UInt8.ofNat_toNat] at this

theorem infoIn : (Try.prog.info? 33).map (fun i => (i.zero, i.size)) = some (some (.agg (inA 0 0)), 12) := by kernel_rfl
theorem inA_zero (c : UInt8) : inA 0 c = inA 0 0 := by simp [inA]
end Go.Proofs.Ytjgboecifonjdab.Se
