/- Sums of bytes, each the lowest bit first, in plain words: numbers of 32 bits; no program is named here. -/
import Derived.Test.YtbofidpoajdcmaaGreatDoorCuBase
namespace Go.Proofs.YtbofidpoajdcmaaGreatDoor.Cd
open Go.RowKit Cu

abbrev U := BitVec 32
def rule : U := 0xedb88320#32
/-- one move to the right -/
def step (x : U) : U := (x >>> 1) ^^^ (if x.getLsbD 0 then rule else 0#32)
def moves : Nat → U → U
  | 0, x => x
  | n + 1, x => moves n (step x)
theorem moves_snoc : ∀ (n : Nat) (x : U), moves (n + 1) x = step (moves n x)
  | 0, _ => rfl
  | n + 1, x => by rw [moves, moves_snoc n, ← moves]
theorem moves_add : ∀ (m n : Nat) (x : U), moves (m + n) x = moves n (moves m x)
  | 0, n, x => by rw [Nat.zero_add]; rfl
  | m + 1, n, x => by rw [show m + 1 + n = (m + n) + 1 by omega, moves, moves_add m n, ← moves]
/-- a byte in the lowest bits -/
def low (c : UInt8) : U := BitVec.ofNat 32 c.toNat
/-- a byte further -/
def further (x : U) (c : UInt8) : U := moves 8 (x ^^^ low c)
def runs (x : U) (l : Bs) : U := l.foldl further x
theorem runs_snoc (x : U) (l : Bs) (c : UInt8) : runs x (l ++ [c]) = further (runs x l) c := by simp [runs]
theorem runs_app (x : U) (l m : Bs) : runs x (l ++ m) = runs (runs x l) m := by simp [runs]
def sumP (l : Bs) : U := ~~~ runs (BitVec.allOnes 32) l

theorem shr_xor (a b : U) (n : Nat) : (a ^^^ b) >>> n = (a >>> n) ^^^ (b >>> n) := by
  apply BitVec.eq_of_getLsbD_eq
  intro i hi
  simp only [BitVec.getLsbD_ushiftRight, BitVec.getLsbD_xor]
theorem xor_four (a b c d : U) : (a ^^^ b) ^^^ (c ^^^ d) = (a ^^^ c) ^^^ (b ^^^ d) := by
  apply BitVec.eq_of_getLsbD_eq
  intro i hi
  simp only [BitVec.getLsbD_xor]
  cases a.getLsbD i <;> cases b.getLsbD i <;> cases c.getLsbD i <;> cases d.getLsbD i <;> rfl
theorem pick_xor (x y : Bool) : (if (x ^^ y) then rule else 0#32) = (if x then rule else 0#32) ^^^ (if y then rule else 0#32) := by
  cases x <;> cases y <;> decide
theorem step_xor (a b : U) : step (a ^^^ b) = step a ^^^ step b := by
  unfold step
  rw [BitVec.getLsbD_xor, pick_xor, shr_xor, xor_four]
theorem moves_xor : ∀ (n : Nat) (a b : U), moves n (a ^^^ b) = moves n a ^^^ moves n b
  | 0, _, _ => rfl
  | n + 1, a, b => by rw [moves, step_xor, moves_xor n]; rfl
theorem lsb_even (x : U) : x.getLsbD 0 = decide (x.toNat % 2 = 1) := by
  rw [BitVec.getLsbD, Nat.testBit_zero]
theorem step_even (x : U) (h : x.toNat % 2 = 0) : (step x).toNat = x.toNat / 2 := by
  unfold step
  rw [lsb_even, if_neg (by simp; omega), BitVec.xor_zero, BitVec.toNat_ushiftRight, Nat.shiftRight_eq_div_pow]
theorem step_odd (x : U) (h : x.toNat % 2 = 1) : step x = (x >>> 1) ^^^ rule := by
  unfold step
  rw [lsb_even, if_pos (by simpa using h)]
theorem moves_pow : ∀ (n : Nat) (x : U) (y : Nat), x.toNat = y * 2 ^ n → (moves n x).toNat = y
  | 0, x, y, h => by simpa [moves] using h
  | n + 1, x, y, h => by
    have h1 : x.toNat = 2 * (y * 2 ^ n) := by rw [h, Nat.pow_succ]; rw [← Nat.mul_assoc, Nat.mul_comm]
    exact moves_pow n (step x) y (by rw [step_even x (by omega), h1]; omega)
/-- what eight moves make of a byte in the lowest bits -/
def tableP (c : UInt8) : U := moves 8 (low c)
theorem low_toNat (c : UInt8) : (low c).toNat = c.toNat := by
  have := c.toNat_lt
  unfold low
  rw [BitVec.toNat_ofNat, Nat.mod_eq_of_lt (by omega)]
/-- the byte in the lowest bits -/
def bot (x : U) : UInt8 := UInt8.ofNat x.toNat
theorem bot_toNat (x : U) : (bot x).toNat = x.toNat % 256 := by unfold bot; rw [UInt8.toNat_ofNat']
theorem parted (x : U) : x = low (bot x) ^^^ BitVec.ofNat 32 (x.toNat / 2 ^ 8 * 2 ^ 8) := by
  have hx := x.isLt
  apply BitVec.eq_of_toNat_eq
  rw [BitVec.toNat_xor, low_toNat, bot_toNat, BitVec.toNat_ofNat, Nat.mod_eq_of_lt (show x.toNat / 2 ^ 8 * 2 ^ 8 < 2 ^ 32 by omega)]
  apply Nat.eq_of_testBit_eq
  intro i
  rw [Nat.testBit_xor, Nat.testBit_mul_two_pow, show 256 = 2 ^ 8 from rfl, Nat.testBit_mod_two_pow, Nat.testBit_div_two_pow]
  by_cases h : i < 8
  · simp [h, show ¬ 8 ≤ i by omega]
  · simp [h, show 8 ≤ i by omega, show i - 8 + 8 = i by omega]
theorem low_xor (c d : UInt8) : low (c ^^^ d) = low c ^^^ low d := by
  apply BitVec.eq_of_toNat_eq
  rw [BitVec.toNat_xor, low_toNat, low_toNat, low_toNat, UInt8.toNat_xor]
theorem further_table (x : U) (c : UInt8) : further x c = (x >>> 8) ^^^ tableP (bot x ^^^ c) := by
  have hx := x.isLt
  have h1 : moves 8 (BitVec.ofNat 32 (x.toNat / 2 ^ 8 * 2 ^ 8)) = x >>> 8 := by
    apply BitVec.eq_of_toNat_eq
    rw [moves_pow 8 _ (x.toNat / 2 ^ 8) (by rw [BitVec.toNat_ofNat, Nat.mod_eq_of_lt (by omega)]), BitVec.toNat_ushiftRight, Nat.shiftRight_eq_div_pow]
  unfold further tableP
  rw [low_xor, ← h1, ← moves_xor]
  congr 1
  conv => lhs; rw [parted x]
  apply BitVec.eq_of_getLsbD_eq
  intro i hi
  simp only [BitVec.getLsbD_xor]
  cases (low (bot x)).getLsbD i <;> cases (low c).getLsbD i <;> cases (BitVec.ofNat 32 (x.toNat / 2 ^ 8 * 2 ^ 8)).getLsbD i <;> rfl
end Go.Proofs.YtbofidpoajdcmaaGreatDoor.Cd
