/- What reach, Head, Tail, HeadBytes and TailBytes answer. -/
import Derived.Test.YtoignkaldlohmaaDoorLnSplit
namespace Go.Proofs.YtoignkaldlohmaaDoor.Ln
open Go.RowKit Go.Shelf

attribute [local go_sem] Oper.semAt_some

/-- how many bytes the first so many lines have -/
def reachN (l : List UInt8) (n : Int) : Nat := szs ((parts isEnd l).take n.toNat)
theorem szs_snoc (pre : List (List UInt8 × Bool)) (x : List UInt8 × Bool) : szs (pre ++ [x]) = szs pre + sz x := by simp [szs]
theorem szs_take_le (p : List (List UInt8 × Bool)) (k : Nat) : szs (p.take k) ≤ szs p := by
  have : szs (p.take k ++ p.drop k) = szs (p.take k) + szs (p.drop k) := by simp [szs, -List.take_append_drop]
  rw [List.take_append_drop] at this
  omega
theorem reachN_le (l : List UInt8) (n : Int) : reachN l n ≤ l.length := by
  have := szs_take_le (parts isEnd l) n.toNat
  rw [szs_parts] at this
  exact this
theorem szs_prefix {p q : List (List UInt8 × Bool)} (h : p <+: q) : szs p ≤ szs q := by
  obtain ⟨r, rfl⟩ := h
  simp [szs]

theorem bt_drop (s : ByteArray) (i : Nat) : bt (s.data.toList.drop i) = s.extract i s.size := by
  rw [bt_extract, List.take_of_length_le (by rw [List.length_drop]; exact Nat.le_refl _)]
end Go.Proofs.YtoignkaldlohmaaDoor.Ln
