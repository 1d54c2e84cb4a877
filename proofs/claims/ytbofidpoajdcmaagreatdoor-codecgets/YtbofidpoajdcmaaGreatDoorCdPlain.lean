/- Calls as bytes, in plain words; no program is named here. -/
import Derived.Test.YtbofidpoajdcmaaGreatDoorTrPlain
namespace Go.Proofs.YtbofidpoajdcmaaGreatDoor.Cd
open Go.RowKit Cu Tr

/-- a call -/
structure Ca where
  kind : UInt8
  path : ByteArray
  other : ByteArray
  mode : Int
  user : Int
  group : Int
  time : Int
  data : Bs
  eu : Int
  eg : Int
  em : Int
  ed : Int
/-- a number as so many bytes, the lowest first -/
def le : Nat → Nat → Bs
  | 0, _ => []
  | k + 1, x => UInt8.ofNat x :: le k (x / 256)
theorem le_len : ∀ (k x : Nat), (le k x).length = k
  | 0, _ => rfl
  | k + 1, x => by simp [le, le_len k]
theorem le_get : ∀ (k x i : Nat), i < k → (le k x)[i]? = some (UInt8.ofNat (x / 256 ^ i))
  | 0, _, i, h => by omega
  | k + 1, x, 0, _ => by simp [le]
  | k + 1, x, i + 1, h => by
    simp only [le, List.getElem?_cons_succ]
    rw [le_get k _ i (by omega), Nat.div_div_eq_div_mul, Nat.pow_succ, Nat.mul_comm 256]
def u64 (z : Int) : Nat := (z % 18446744073709551616).toNat
theorem u64_lt (z : Int) : u64 z < 18446744073709551616 := by unfold u64; omega
def numB (z : Int) : Bs := le 8 (u64 z)
def lenB (n : Nat) : Bs := le 4 n
def txtB (l : Bs) : Bs := lenB l.length ++ l
theorem numB_len (z : Int) : (numB z).length = 8 := le_len _ _
theorem lenB_len (n : Nat) : (lenB n).length = 4 := le_len _ _
theorem txtB_len (l : Bs) : (txtB l).length = 4 + l.length := by simp [txtB, lenB_len]
def numsB (l : List Int) : Bs := l.flatMap numB
def putP (c : Ca) : Bs := [c.kind] ++ txtB (bs c.path) ++ txtB (bs c.other) ++ numsB [c.mode, c.user, c.group, c.time] ++ txtB c.data ++ numsB [c.eu, c.eg, c.em, c.ed]
theorem numsB_len (l : List Int) : (numsB l).length = 8 * l.length := by
  induction l with
  | nil => rfl
  | cons a l ih => simp only [numsB, List.flatMap_cons, List.length_append, numB_len, List.length_cons] at *; omega
theorem putP_len (c : Ca) : (putP c).length = 77 + c.path.size + c.other.size + c.data.length := by
  simp only [putP, List.length_append, txtB_len, numsB_len, bs_len, List.length_cons, List.length_nil]; omega
/-- whether its texts may be -/
def mayPut (c : Ca) : Bool := decide (c.path.size ≤ 65536) && decide (c.other.size ≤ 65536) && decide (c.data.length ≤ 65536)

/-! ### back -/
def takeP (n : Nat) (l : Bs) : Option (Bs × Bs) := if n ≤ l.length then some (l.take n, l.drop n) else none
def val : Bs → Nat
  | [] => 0
  | c :: l => c.toNat + 256 * val l
def numN (k : Nat) (l : Bs) : Option (Nat × Bs) := (takeP k l).map fun p => (val p.1, p.2)
/-- a number of 64 bits as an int -/
def s64 (n : Nat) : Int := if n < 9223372036854775808 then (n : Int) else (n : Int) - 18446744073709551616
def intP (l : Bs) : Option (Int × Bs) := (numN 8 l).map fun p => (s64 p.1, p.2)
def lenP (most : Nat) (l : Bs) : Option (Nat × Bs) := (numN 4 l).bind fun p => if p.1 ≤ most then some p else none
def txtP (l : Bs) : Option (Bs × Bs) := (lenP 65536 l).bind fun p => takeP p.1 p.2
def intsP : Nat → Bs → Option (List Int × Bs)
  | 0, l => some ([], l)
  | k + 1, l => (intP l).bind fun p => (intsP k p.2).map fun q => (p.1 :: q.1, q.2)
def ba (l : Bs) : ByteArray := ⟨l.toArray⟩
theorem bs_ba (l : Bs) : bs (ba l) = l := rfl
theorem ba_size (l : Bs) : (ba l).size = l.length := rfl
end Go.Proofs.YtbofidpoajdcmaaGreatDoor.Cd
