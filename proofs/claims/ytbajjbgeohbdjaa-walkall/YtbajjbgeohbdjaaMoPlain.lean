/- Modes and changes to them, in plain words. -/
import Derived.Test.YtbajjbgeohbdjaaRows
import Derived.WalkKit
import Derived.WalkSpells
import Derived.MapKept
import Derived.Carry
import Derived.Deep.QuietTactic
import Derived.BigQuiet
namespace Go.Proofs.Ytbajjbgeohbdjaa.Mo
open Go.RowKit

abbrev Bs := List UInt8
theorem hide {p : Prop} (h : p) : Hid p := h
theorem unhide {p : Prop} (h : Hid p) : p := h

/-- a change -/
structure Ch where
  who : Int
  op : UInt8
  bits : Int
  cp : UInt8
  dirs : Bool

/-- a without the bits of b -/
def clr (a b : Nat) : Nat := a ^^^ (a &&& b)
theorem clr_bit (a b i : Nat) : (clr a b).testBit i = (a.testBit i && !b.testBit i) := by
  unfold clr
  rw [Nat.testBit_xor, Nat.testBit_and]
  cases a.testBit i <;> cases b.testBit i <;> rfl
theorem lt_of_bits {n k : Nat} (h : ∀ i, k ≤ i → n.testBit i = false) : n < 2 ^ k := Nat.lt_pow_two_of_testBit n h
theorem bits_of_lt {n k i : Nat} (h : n < 2 ^ k) (hi : k ≤ i) : n.testBit i = false := Nat.testBit_lt_two_pow (Nat.lt_of_lt_of_le h (Nat.pow_le_pow_right (by decide) hi))
/-- two modes are the same if their nine bits are -/
theorem mode_ext {a b : Nat} (ha : a < 512) (hb : b < 512) (h : ∀ i, i < 9 → a.testBit i = b.testBit i) : a = b := by
  apply Nat.eq_of_testBit_eq
  intro i
  by_cases hi : i < 9
  · exact h i hi
  · rw [bits_of_lt (k := 9) ha (by omega), bits_of_lt (k := 9) hb (by omega)]

/-- the nine bits of a number -/
def m9 (x : Int) : Nat := (x % 512).toNat
theorem m9_lt (x : Int) : m9 x < 512 := by unfold m9; omega
theorem m9_val (x : Int) : ((m9 x : Nat) : Int) = x % 512 := by unfold m9; omega
theorem m9_nat (n : Nat) (h : n < 512) : m9 (n : Int) = n := by unfold m9; omega

/-- whether who tells the i-th of others, group, user -/
def wb (who : Int) (i : Nat) : Bool := decide (who / 2 ^ i % 2 = 1)
/-- each of those that are told has these bits -/
def sp (w0 w1 w2 : Bool) (b : Nat) : Nat := (if w0 then b else 0) ||| (if w1 then b * 8 else 0) ||| (if w2 then b * 64 else 0)
def spreadP (who : Int) (b : Nat) : Nat := sp (wb who 0) (wb who 1) (wb who 2) b
def sel (w0 w1 w2 : Bool) (p : Nat) : Bool := if p = 0 then w0 else if p = 1 then w1 else if p = 2 then w2 else false
theorem sp_bit : ∀ (b : Nat), b < 8 → ∀ (i : Nat), i < 9 → ∀ w0 w1 w2, (sp w0 w1 w2 b).testBit i = (sel w0 w1 w2 (i / 3) && b.testBit (i % 3)) := by decide +kernel
theorem sp_lt : ∀ (b : Nat), b < 8 → ∀ w0 w1 w2, sp w0 w1 w2 b < 512 := by decide +kernel
theorem sel_wb (who : Int) (p : Nat) (hp : p < 3) : sel (wb who 0) (wb who 1) (wb who 2) p = wb who p := by
  match p, hp with
  | 0, _ => rfl
  | 1, _ => rfl
  | 2, _ => rfl
theorem spreadP_bit (who : Int) (b i : Nat) (hb : b < 8) (hi : i < 9) : (spreadP who b).testBit i = (wb who (i / 3) && b.testBit (i % 3)) := by
  unfold spreadP
  rw [sp_bit b hb i hi, sel_wb _ _ (by omega)]
theorem spreadP_lt (who : Int) (b : Nat) (hb : b < 8) : spreadP who b < 512 := sp_lt b hb _ _ _

/-- the three bits that a mode has of user, group or others -/
def partP (x : Int) (c : UInt8) : Nat := if c = 117 then (x / 64 % 8).toNat else if c = 103 then (x / 8 % 8).toNat else if c = 111 then (x % 8).toNat else 0
theorem partP_lt (x : Int) (c : UInt8) : partP x c < 8 := by unfold partP; (repeat' split) <;> omega
/-- what a change may touch -/
def reachP (who mask : Int) : Nat := if who % 8 = 0 then clr 511 (m9 mask) else spreadP who 7
theorem reachP_lt (who mask : Int) : reachP who mask < 512 := by
  unfold reachP
  split
  · exact lt_of_bits (k := 9) fun i hi => by rw [clr_bit, bits_of_lt (k := 9) (by decide) hi]; rfl
  · exact spreadP_lt _ _ (by decide)
/-- somebody has x -/
def anyX (m : Nat) : Bool := m &&& 73 != 0
/-- what a change tells for each of those whom it is for -/
def bitsP (c : Ch) (m : Nat) (dir : Bool) : Nat := ((c.bits % 8).toNat ||| partP m c.cp) ||| (if c.dirs && (dir || anyX m) then 1 else 0)
theorem or_lt8 {a b : Nat} (ha : a < 8) (hb : b < 8) : a ||| b < 8 := Nat.or_lt_two_pow (n := 3) ha hb
theorem bitsP_lt (c : Ch) (m : Nat) (dir : Bool) : bitsP c m dir < 8 := by
  unfold bitsP
  refine or_lt8 (or_lt8 (by omega) (partP_lt _ _)) ?_
  split <;> decide
/-- what an Op does -/
def doP (op : UInt8) (m b r : Nat) : Nat := if op = 43 then m ||| b else if op = 45 then clr m b else if op = 61 then clr m r ||| b else m
def chgP (c : Ch) (m : Nat) (mask : Int) (dir : Bool) : Nat := doP c.op m (spreadP 7 (bitsP c m dir) &&& reachP c.who mask) (reachP c.who mask)
theorem and_lt9 {a b : Nat} (h : b < 512) : a &&& b < 512 := Nat.lt_of_le_of_lt Nat.and_le_right h
theorem clr_lt {a b k : Nat} (h : a < 2 ^ k) : clr a b < 2 ^ k := lt_of_bits fun i hi => by rw [clr_bit, bits_of_lt h hi]; rfl
theorem chgP_lt (c : Ch) (m : Nat) (mask : Int) (dir : Bool) (h : m < 512) : chgP c m mask dir < 512 := by
  unfold chgP doP
  have hr := reachP_lt c.who mask
  have hb : spreadP 7 (bitsP c m dir) &&& reachP c.who mask < 512 := and_lt9 hr
  split
  · exact Nat.or_lt_two_pow (n := 9) h hb
  · split
    · exact clr_lt (k := 9) h
    · split
      · exact Nat.or_lt_two_pow (n := 9) (clr_lt (k := 9) h) hb
      · exact h
/-- all changes, one behind the other -/
def applyP : List Ch → Nat → Int → Bool → Nat
  | [], m, _, _ => m
  | c :: l, m, mask, dir => applyP l (chgP c m mask dir) mask dir
theorem applyP_lt (l : List Ch) (m : Nat) (mask : Int) (dir : Bool) (h : m < 512) : applyP l m mask dir < 512 := by
  induction l generalizing m with
  | nil => exact h
  | cons c l ih => exact ih _ (chgP_lt c m mask dir h)
theorem applyP_app (l l' : List Ch) (m : Nat) (mask : Int) (dir : Bool) : applyP (l ++ l') m mask dir = applyP l' (applyP l m mask dir) mask dir := by
  induction l generalizing m with
  | nil => rfl
  | cons c l ih => exact ih _

theorem ceq {c d : UInt8} (h : ((c.toNat : Int) == ((d.toNat : Nat) : Int)) = true) : c = d := UInt8.toNat_inj.1 (by have := eq_of_beq h; omega)
theorem cne {c d : UInt8} (h : ((c.toNat : Int) == ((d.toNat : Nat) : Int)) = false) : c ≠ d := fun e => by subst e; simp at h
theorem ret_i {a b : Int} (h : a = b) : Ending.returned (.int .i64 a) = .returned (.int .i64 b) := by rw [h]
/-! ### numbers as the program has them -/
theorem wrap_toInt (x : BitVec 64) : IntKind.i64.wrap (x.toNat : Int) = x.toInt := by
  have := x.isLt
  simp only [IntKind.wrap, IntKind.signed, IntKind.bits, BitVec.toInt]
  simp
  split <;> split <;> omega
theorem bits_and_nat (a b : Nat) (ha : a < 2 ^ 63) (hb : b < 2 ^ 63) : bits .and .i64 (a : Int) (b : Int) = ((a &&& b : Nat) : Int) := by
  show IntKind.i64.wrap ((BitVec.ofInt 64 (a : Int) &&& BitVec.ofInt 64 (b : Int)).toNat : Int) = _
  have hab := Nat.and_lt_two_pow (n := 63) a hb
  rw [wrap_toInt, BitVec.ofInt_natCast, BitVec.ofInt_natCast, BitVec.toInt_eq_toNat_of_lt] <;> simp <;> rw [Nat.mod_eq_of_lt (by omega), Nat.mod_eq_of_lt (by omega)] <;> omega
theorem bits_or_nat (a b : Nat) (ha : a < 2 ^ 63) (hb : b < 2 ^ 63) : bits .or .i64 (a : Int) (b : Int) = ((a ||| b : Nat) : Int) := by
  show IntKind.i64.wrap ((BitVec.ofInt 64 (a : Int) ||| BitVec.ofInt 64 (b : Int)).toNat : Int) = _
  have hab := Nat.or_lt_two_pow (n := 63) ha hb
  rw [wrap_toInt, BitVec.ofInt_natCast, BitVec.ofInt_natCast, BitVec.toInt_eq_toNat_of_lt] <;> simp <;> rw [Nat.mod_eq_of_lt (by omega), Nat.mod_eq_of_lt (by omega)] <;> omega
theorem toNat_ofInt_mod (x : Int) (k : Nat) (hk : k ≤ 64) : (BitVec.ofInt 64 x).toNat % 2 ^ k = (x % 2 ^ k).toNat := by
  rw [BitVec.toNat_ofInt]
  have h1 : ((x % (2 ^ 64 : Nat)).toNat : Int) = x % (2 ^ 64 : Nat) := Int.toNat_of_nonneg (Int.emod_nonneg _ (by decide))
  have hd : (2 ^ k : Int) ∣ ((2 ^ 64 : Nat) : Int) := by exact_mod_cast Nat.pow_dvd_pow 2 hk
  generalize (x % (2 ^ 64 : Nat)).toNat = y at *
  have h3 : 0 ≤ x % 2 ^ k := Int.emod_nonneg _ (by have : (0:Int) < 2 ^ k := Int.pow_pos (by decide); omega)
  have h2 : ((y % 2 ^ k : Nat) : Int) = x % 2 ^ k := by
    rw [Int.natCast_emod, h1, Int.natCast_pow]
    exact Int.emod_emod_of_dvd _ hd
  omega
theorem bits_mask_k (x : Int) (k : Nat) (hk : k ≤ 62) : bits .and .i64 x ((2 ^ k - 1 : Nat) : Int) = x % 2 ^ k := by
  show IntKind.i64.wrap ((BitVec.ofInt 64 x &&& BitVec.ofInt 64 ((2 ^ k - 1 : Nat) : Int)).toNat : Int) = _
  have h62 : (2 : Nat) ^ k ≤ 2 ^ 62 := Nat.pow_le_pow_right (by decide) hk
  have e : (BitVec.ofInt 64 x &&& BitVec.ofInt 64 ((2 ^ k - 1 : Nat) : Int)).toNat = (x % 2 ^ k).toNat := by
    rw [BitVec.toNat_and, BitVec.ofInt_natCast, BitVec.toNat_ofNat, Nat.mod_eq_of_lt (a := 2 ^ k - 1) (by omega), Nat.and_two_pow_sub_one_eq_mod, toNat_ofInt_mod x k (by omega)]
  rw [e]
  have h3 : 0 ≤ x % 2 ^ k := Int.emod_nonneg _ (by have : (0:Int) < 2 ^ k := Int.pow_pos (by decide); omega)
  have h4 : x % 2 ^ k < 2 ^ k := Int.emod_lt_of_pos _ (Int.pow_pos (by decide))
  have h5 : ((2 : Int) ^ k) ≤ 2 ^ 62 := by exact_mod_cast h62
  rw [Int.toNat_of_nonneg h3]
  simp only [IntKind.wrap, IntKind.signed, IntKind.bits]
  simp
  omega
theorem and511 (x : Int) : bits .and .i64 x 511 = x % 512 := bits_mask_k x 9 (by decide)
theorem and7 (x : Int) : bits .and .i64 x 7 = x % 8 := bits_mask_k x 3 (by decide)
theorem and1 (x : Int) : bits .and .i64 x 1 = x % 2 := bits_mask_k x 1 (by decide)
theorem toInt_of_bits (x : BitVec 64) (n : Nat) (hn : n < 2 ^ 63) (h : ∀ i, i < 64 → x.getLsbD i = n.testBit i) : x.toInt = (n : Int) := by
  have e : x.toNat = n := by
    apply Nat.eq_of_testBit_eq
    intro i
    by_cases hi : i < 64
    · exact h i hi
    · rw [bits_of_lt (k := 64) x.isLt (by omega), bits_of_lt (k := 63) hn (by omega)]
  rw [BitVec.toInt_eq_toNat_of_lt (by omega), e]
theorem ofInt_bit (x : Int) (i : Nat) (hi : i < 9) : (BitVec.ofInt 64 x).getLsbD i = (m9 x).testBit i := by
  have h := toNat_ofInt_mod x 9 (by decide)
  have : (m9 x) = (BitVec.ofInt 64 x).toNat % 2 ^ 9 := by rw [h]; rfl
  rw [this, Nat.testBit_mod_two_pow]
  simp [BitVec.getLsbD, hi]
theorem ofNat_bit (n : Nat) (h : n < 2 ^ 64) (i : Nat) : (BitVec.ofInt 64 (n : Int)).getLsbD i = n.testBit i := by
  rw [BitVec.ofInt_natCast, BitVec.getLsbD, BitVec.toNat_ofNat, Nat.mod_eq_of_lt h]
/-- a &^ b, of nine bits -/
theorem bits_clr (a : Nat) (x : Int) (ha : a < 512) : bits .andNot .i64 (a : Int) x = ((clr a (m9 x) : Nat) : Int) := by
  show IntKind.i64.wrap ((BitVec.ofInt 64 (a : Int) &&& ~~~ BitVec.ofInt 64 x).toNat : Int) = _
  rw [wrap_toInt]
  have hc : clr a (m9 x) < 2 ^ 9 := clr_lt (k := 9) ha
  refine toInt_of_bits _ _ (by omega) fun i hi => ?_
  rw [clr_bit, BitVec.getLsbD_and, ofNat_bit a (by omega), BitVec.getLsbD_not]
  by_cases h9 : i < 9
  · rw [ofInt_bit x i h9]; simp [hi]
  · rw [bits_of_lt (k := 9) ha (by omega)]; rfl
end Go.Proofs.Ytbajjbgeohbdjaa.Mo
