/- What a word's number is, in plain words over lists of bytes: no program is named here. -/
import Derived.WalkKit
namespace Go.Proofs.Ytebnmjelelkcmab.Plain

def dig (c : UInt8) : Bool := decide (48 ≤ c.toNat) && decide (c.toNat ≤ 57)
def nval (l : List UInt8) : Int := l.foldl (fun v c => v * 10 + ((c.toNat : Int) - 48)) 0
def digs : List UInt8 → List UInt8
  | [] => []
  | c :: t => if c.toNat = 45 ∨ c.toNat = 43 then t else c :: t
def neg : List UInt8 → Bool
  | [] => false
  | c :: _ => decide (c.toNat = 45)
def okD (d : List UInt8) : Bool := decide (1 ≤ d.length) && decide (d.length ≤ 18) && d.all dig
def numB (s : List UInt8) : Bool := okD (digs s)
def numV (s : List UInt8) : Int := if numB s then (if neg s then -nval (digs s) else nval (digs s)) else 0

theorem nval_snoc (l : List UInt8) (c : UInt8) : nval (l ++ [c]) = nval l * 10 + ((c.toNat : Int) - 48) := by
  simp [nval]

theorem fold_bd (l : List UInt8) (h : l.all dig = true) (v : Int) (m : Nat) (h0 : 0 ≤ v) (h1 : v < 10 ^ m) :
    0 ≤ l.foldl (fun v c => v * 10 + ((c.toNat : Int) - 48)) v ∧ l.foldl (fun v c => v * 10 + ((c.toNat : Int) - 48)) v < 10 ^ (m + l.length) := by
  induction l generalizing v m with
  | nil => simpa using ⟨h0, h1⟩
  | cons c l ih =>
    simp only [List.all_cons, Bool.and_eq_true] at h
    obtain ⟨h2, h3⟩ := h
    simp [dig] at h2
    have := ih h3 (v * 10 + ((c.toNat : Int) - 48)) (m + 1) (by omega) (by rw [Int.pow_succ]; omega)
    simpa [Nat.add_assoc, Nat.add_comm 1] using this

theorem nval_bd (l : List UInt8) (h : l.all dig = true) : 0 ≤ nval l ∧ nval l < 10 ^ l.length := by
  simpa [nval] using fold_bd l h 0 0 (by omega) (by omega)

theorem nval_lt (l : List UInt8) (h : l.all dig = true) (n : Nat) (hl : l.length ≤ n) : 0 ≤ nval l ∧ nval l < 10 ^ n := by
  have h1 := nval_bd l h
  have h2 : (10 : Int) ^ l.length ≤ 10 ^ n := by
    have := Nat.pow_le_pow_right (n := 10) (by omega) hl
    exact_mod_cast this
  omega

theorem take_snoc (l : List UInt8) (k : Nat) (h : k < l.length) : l.take (k + 1) = l.take k ++ [l[k]] :=
  List.take_succ_eq_append_getElem h

end Go.Proofs.Ytebnmjelelkcmab.Plain
