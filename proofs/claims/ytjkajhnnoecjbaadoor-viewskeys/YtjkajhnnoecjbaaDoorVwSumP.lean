/- Sums of bytes, in plain words: numbers of 32 bits; no program is named here. -/
import Derived.Test.YtjkajhnnoecjbaaDoorVwPlain
namespace Go.Proofs.YtjkajhnnoecjbaaDoor.Vw
open Go.RowKit Cu

abbrev U := BitVec 32
def poly : U := 0x04c11db7#32
/-- one move to the left -/
def step (x : U) : U := if x.msb then (x <<< 1) ^^^ poly else x <<< 1
def moves : Nat → U → U
  | 0, x => x
  | n + 1, x => moves n (step x)
theorem moves_snoc : ∀ (n : Nat) (x : U), moves (n + 1) x = step (moves n x)
  | 0, _ => rfl
  | n + 1, x => by rw [moves, moves_snoc n, ← moves]
/-- a byte in the highest bits -/
def high (c : UInt8) : U := BitVec.ofNat 32 c.toNat <<< 24
/-- a byte further -/
def further (x : U) (c : UInt8) : U := moves 8 (x ^^^ high c)
def runs (x : U) (l : Bs) : U := l.foldl further x
/-- how many, as bytes -/
def lenB (n : Nat) : Bs := if h : n = 0 then [] else UInt8.ofNat n :: lenB (n / 256)
decreasing_by exact Nat.div_lt_self (Nat.pos_of_ne_zero h) (by decide)
theorem lenB_zero : lenB 0 = [] := by rw [lenB]; simp
theorem lenB_pos (n : Nat) (h : 0 < n) : lenB n = UInt8.ofNat n :: lenB (n / 256) := by rw [lenB, dif_neg (by omega)]
def sumP (l : Bs) : U := ~~~ runs (runs 0 l) (lenB l.length)

theorem shl_xor (a b : U) (n : Nat) : (a ^^^ b) <<< n = (a <<< n) ^^^ (b <<< n) := by
  apply BitVec.eq_of_getLsbD_eq
  intro i hi
  simp only [BitVec.getLsbD_shiftLeft, BitVec.getLsbD_xor]
  cases decide (i < 32) <;> cases decide (i < n) <;> simp
theorem xor_swap (a b p : U) : (a ^^^ p) ^^^ (b ^^^ p) = a ^^^ b := by
  apply BitVec.eq_of_getLsbD_eq
  intro i hi
  simp only [BitVec.getLsbD_xor]
  cases a.getLsbD i <;> cases b.getLsbD i <;> cases p.getLsbD i <;> rfl
theorem step_xor (a b : U) : step (a ^^^ b) = step a ^^^ step b := by
  unfold step
  rw [BitVec.msb_xor, shl_xor]
  cases a.msb <;> cases b.msb <;> simp only [Bool.xor_false, Bool.xor_true, Bool.not_false, Bool.not_true, if_true, if_false, Bool.false_eq_true]
  · rw [BitVec.xor_assoc]
  · rw [BitVec.xor_assoc, BitVec.xor_assoc, BitVec.xor_comm poly]
  · rw [xor_swap]
theorem moves_xor : ∀ (n : Nat) (a b : U), moves n (a ^^^ b) = moves n a ^^^ moves n b
  | 0, _, _ => rfl
  | n + 1, a, b => by rw [moves, step_xor, moves_xor n]; rfl
theorem msb_small (x : U) (h : x.toNat < 2 ^ 31) : x.msb = false := by
  rw [BitVec.msb_eq_decide]; simp; omega
theorem step_small (x : U) (h : x.toNat < 2 ^ 31) : (step x).toNat = 2 * x.toNat := by
  unfold step
  rw [msb_small x h]
  simp only [Bool.false_eq_true, if_false, BitVec.toNat_shiftLeft, Nat.shiftLeft_eq]
  rw [Nat.mod_eq_of_lt (by omega)]
  omega
theorem moves_small : ∀ (n : Nat) (x : U), x.toNat * 2 ^ n < 2 ^ 32 → (moves n x).toNat = x.toNat * 2 ^ n
  | 0, x, _ => by simp [moves]
  | n + 1, x, h => by
    rw [moves]
    have h2 : 2 ^ n ≥ 1 := Nat.one_le_two_pow
    have h3 : x.toNat < 2 ^ 31 := by
      rw [Nat.pow_succ] at h
      have : x.toNat * 2 ≤ x.toNat * (2 ^ n * 2) := Nat.mul_le_mul_left _ (by omega)
      omega
    have hs := step_small x h3
    rw [moves_small n (step x) (by rw [hs]; rw [Nat.pow_succ] at h; rw [Nat.mul_comm 2, Nat.mul_assoc, Nat.mul_comm 2]; exact h), hs, Nat.pow_succ]
    rw [Nat.mul_comm 2, Nat.mul_assoc, Nat.mul_comm 2]
/-- what eight moves make of a byte in the highest bits -/
def tableP (c : UInt8) : U := moves 8 (high c)
theorem high_toNat (c : UInt8) : (high c).toNat = c.toNat * 2 ^ 24 := by
  have := c.toNat_lt
  unfold high
  rw [BitVec.toNat_shiftLeft, BitVec.toNat_ofNat, Nat.shiftLeft_eq, Nat.mod_eq_of_lt (show c.toNat < 2 ^ 32 by omega), Nat.mod_eq_of_lt (by omega)]
/-- the byte in the highest bits, and the rest -/
def top (x : U) : UInt8 := UInt8.ofNat (x.toNat / 2 ^ 24)
theorem top_toNat (x : U) : (top x).toNat = x.toNat / 2 ^ 24 := by
  have := x.isLt
  unfold top
  rw [UInt8.toNat_ofNat']
  exact Nat.mod_eq_of_lt (by omega)
theorem parted (x : U) : x = high (top x) ^^^ BitVec.ofNat 32 (x.toNat % 2 ^ 24) := by
  apply BitVec.eq_of_toNat_eq
  rw [BitVec.toNat_xor, high_toNat, top_toNat, BitVec.toNat_ofNat, Nat.mod_eq_of_lt (show x.toNat % 2 ^ 24 < 2 ^ 32 by omega)]
  apply Nat.eq_of_testBit_eq
  intro i
  rw [Nat.testBit_xor, Nat.testBit_mul_two_pow, Nat.testBit_mod_two_pow, Nat.testBit_div_two_pow]
  by_cases h : i < 24
  · simp [h, show ¬ 24 ≤ i by omega]
  · simp [h, show 24 ≤ i by omega, show i - 24 + 24 = i by omega]
theorem high_xor (c d : UInt8) : high (c ^^^ d) = high c ^^^ high d := by
  unfold high
  rw [← shl_xor]
  congr 1
  apply BitVec.eq_of_toNat_eq
  have h1 := c.toNat_lt
  have h2 := d.toNat_lt
  have h3 := (c ^^^ d).toNat_lt
  rw [BitVec.toNat_xor, BitVec.toNat_ofNat, BitVec.toNat_ofNat, BitVec.toNat_ofNat, Nat.mod_eq_of_lt (show c.toNat < 2 ^ 32 by omega), Nat.mod_eq_of_lt (show d.toNat < 2 ^ 32 by omega), Nat.mod_eq_of_lt (show (c ^^^ d).toNat < 2 ^ 32 by omega), UInt8.toNat_xor]
theorem low_moves (x : U) : moves 8 (BitVec.ofNat 32 (x.toNat % 2 ^ 24)) = x <<< 8 := by
  apply BitVec.eq_of_toNat_eq
  have h : (BitVec.ofNat 32 (x.toNat % 2 ^ 24)).toNat = x.toNat % 2 ^ 24 := by rw [BitVec.toNat_ofNat, Nat.mod_eq_of_lt (by omega)]
  rw [moves_small 8 _ (by rw [h]; omega), h, BitVec.toNat_shiftLeft, Nat.shiftLeft_eq]
  omega
/-- by the table -/
theorem further_table (x : U) (c : UInt8) : further x c = (x <<< 8) ^^^ tableP (top x ^^^ c) := by
  unfold further tableP
  have h : x ^^^ high c = high (top x ^^^ c) ^^^ BitVec.ofNat 32 (x.toNat % 2 ^ 24) := by
    rw [high_xor]
    conv => lhs; rw [parted x]
    rw [BitVec.xor_assoc, BitVec.xor_assoc, BitVec.xor_comm (high c)]
  rw [h, moves_xor, low_moves, BitVec.xor_comm]

/-! ### unlike ones stay unlike -/
theorem step_zero (x : U) (h : step x = 0) : x = 0 := by
  unfold step at h
  cases hm : x.msb
  · rw [hm] at h
    simp only [Bool.false_eq_true, if_false] at h
    have h1 := congrArg BitVec.toNat h
    rw [BitVec.toNat_shiftLeft, Nat.shiftLeft_eq] at h1
    have h2 : x.toNat < 2 ^ 31 := by
      rw [BitVec.msb_eq_decide] at hm
      simp at hm
      omega
    simp at h1
    apply BitVec.eq_of_toNat_eq
    simp
    omega
  · rw [hm] at h
    simp only [if_true] at h
    have h1 := congrArg (fun y : U => y.getLsbD 0) h
    simp [poly] at h1
theorem moves_zero : ∀ (n : Nat) (x : U), moves n x = 0 → x = 0
  | 0, _, h => h
  | n + 1, x, h => step_zero x (moves_zero n _ h)
theorem xor_eq_zero {a b : U} (h : a ^^^ b = 0) : a = b := by
  have := congrArg (fun x => x ^^^ b) h
  simp only [BitVec.xor_assoc, BitVec.xor_self, BitVec.xor_zero] at this
  simpa using this
theorem moves_inj (n : Nat) (a b : U) (h : moves n a = moves n b) : a = b := by
  have h1 : moves n (a ^^^ b) = 0 := by rw [moves_xor, h, BitVec.xor_self]; rfl
  exact xor_eq_zero (moves_zero n _ h1)
theorem xor_left {a b c : U} (h : a ^^^ c = b ^^^ c) : a = b := by
  have := congrArg (fun x => x ^^^ c) h
  simpa only [BitVec.xor_assoc, BitVec.xor_self, BitVec.xor_zero] using this
theorem further_left (a b : U) (c : UInt8) (h : further a c = further b c) : a = b := xor_left (moves_inj 8 _ _ h)
theorem high_inj (c d : UInt8) (h : high c = high d) : c = d := by
  have := congrArg BitVec.toNat h
  rw [high_toNat, high_toNat] at this
  exact UInt8.toNat_inj.1 (by omega)
theorem further_right (a : U) (c d : UInt8) (h : further a c = further a d) : c = d := by
  have := moves_inj 8 _ _ h
  rw [BitVec.xor_comm a, BitVec.xor_comm a] at this
  exact high_inj _ _ (xor_left this)
theorem runs_left : ∀ (l : Bs) (a b : U), runs a l = runs b l → a = b
  | [], _, _, h => h
  | c :: l, a, b, h => further_left a b c (runs_left l _ _ h)
theorem runs_app (x : U) (a b : Bs) : runs x (a ++ b) = runs (runs x a) b := List.foldl_append
/-- one byte is not the same: nor is the sum -/
theorem sum_one (a b : Bs) (c d : UInt8) (h : sumP (a ++ c :: b) = sumP (a ++ d :: b)) : c = d := by
  unfold sumP at h
  have h1 := congrArg (fun x => ~~~ x) h
  simp only [BitVec.not_not] at h1
  rw [show (a ++ d :: b).length = (a ++ c :: b).length by simp] at h1
  have h2 := runs_left _ _ _ h1
  rw [runs_app, runs_app] at h2
  exact further_right _ _ _ (runs_left b _ _ h2)
end Go.Proofs.YtjkajhnnoecjbaaDoor.Vw
