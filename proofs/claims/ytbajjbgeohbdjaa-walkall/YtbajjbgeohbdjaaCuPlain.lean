/- Parts of lines in plain words: tabs as blanks; things at places; a line in parts; numbers. -/
import Derived.Test.YtbajjbgeohbdjaaRows
import Derived.WalkKit
namespace Go.Proofs.Ytbajjbgeohbdjaa.Cu
open Go.RowKit

abbrev Bs := List UInt8
theorem hide {p : Prop} (h : p) : Hid p := h
theorem unhide {p : Prop} (h : Hid p) : p := h

/-! ### tabs as blanks -/
/-- so many blanks stand for a tab at that column -/
def gap (n col : Nat) : Nat := n - col % n
/-- a text without tabs, from a column on -/
def ex (n : Nat) : Nat → Bs → Bs
  | _, [] => []
  | col, c :: s => if c = 9 then List.replicate (gap n col) 32 ++ ex n (col + gap n col) s else if c = 10 then 10 :: ex n 0 s else c :: ex n (col + 1) s
theorem ex_tab (n col : Nat) (s : Bs) : ex n col (9 :: s) = List.replicate (gap n col) 32 ++ ex n (col + gap n col) s := by simp [ex]
theorem ex_end (n col : Nat) (s : Bs) : ex n col (10 :: s) = 10 :: ex n 0 s := by simp [ex]
theorem ex_else (n col : Nat) (c : UInt8) (s : Bs) (h9 : c ≠ 9) (h10 : c ≠ 10) : ex n col (c :: s) = c :: ex n (col + 1) s := by simp [ex, h9, h10]
theorem gap_pos (n col : Nat) (h : 0 < n) : 0 < gap n col := by unfold gap; have := Nat.mod_lt col h; omega
theorem gap_le (n col : Nat) : gap n col ≤ n := by unfold gap; omega
theorem gap_mod (n col : Nat) (h : 0 < n) : (col + gap n col) % n = 0 := by
  unfold gap
  have h1 := Nat.mod_lt col h
  have h2 := Nat.div_add_mod col n
  have : col + (n - col % n) = n * (col / n + 1) := by rw [Nat.mul_add, Nat.mul_one]; omega
  rw [this, Nat.mul_mod_right]
theorem gap_first (n col j : Nat) (h : 0 < n) (h1 : 1 ≤ j) (hj : j ≤ gap n col) (hm : (col + j) % n = 0) : j = gap n col := by
  unfold gap at *
  have h1 := Nat.mod_lt col h
  have e : (col + j) % n = (col % n + j) % n := by rw [Nat.mod_add_mod]
  rw [e] at hm
  by_cases hlt : col % n + j < n
  · rw [Nat.mod_eq_of_lt hlt] at hm; omega
  · omega
theorem ex_len (n : Nat) (h : 0 < n) (s : Bs) : ∀ col, (ex n col s).length ≤ n * s.length := by
  induction s with
  | nil => intro col; simp [ex]
  | cons c s ih =>
    intro col
    have hg := gap_le n col
    rw [List.length_cons, Nat.mul_add, Nat.mul_one]
    unfold ex
    split
    · have := ih (col + gap n col); simp; omega
    · split
      · have := ih 0; simp; omega
      · have := ih (col + 1); simp; omega
def noText : Value := .string { data := #[] }
def exAns (n : Int) (s : Bs) : Value :=
  if n < 1 ∨ 100 < n then .tuple #[noText, .int .i64 1] else if 1048576 < (ex n.toNat 0 s).length then .tuple #[noText, .int .i64 3] else .tuple #[.string ⟨(ex n.toNat 0 s).toArray⟩, .int .i64 0]
end Go.Proofs.Ytbajjbgeohbdjaa.Cu
