/- Lines with their numbers, in plain words. -/
import Derived.Test.YtpfdjnnnemkoiabDoorCuPlain
import Derived.Lib.ItoaNum
import Derived.Lib.Repeat
namespace Go.Proofs.YtpfdjnnnemkoiabDoor.Cu
open Go.RowKit

def pad (wd : Nat) (d : Bs) : Bs := List.replicate (wd - d.length) 32 ++ d
/-- a line with its number -/
def numX (k wd : Nat) (x : Bs) : Bs := pad wd (Lib.decDigits k) ++ 9 :: x
def numL (wd : Nat) : Nat → List Bs → List Bs
  | _, [] => []
  | k, x :: r => numX k wd x :: numL wd (k + 1) r
theorem numL_app (wd : Nat) (a b : List Bs) : ∀ k, numL wd k (a ++ b) = numL wd k a ++ numL wd (k + a.length) b := by
  induction a with
  | nil => intro k; simp [numL]
  | cons x a ih => intro k; rw [List.cons_append, numL, numL, ih, show k + 1 + a.length = k + (x :: a).length by simp; omega]; rfl
theorem numL_snoc (wd k : Nat) (a : List Bs) (x : Bs) : numL wd k (a ++ [x]) = numL wd k a ++ [numX (k + a.length) wd x] := by rw [numL_app]; rfl
theorem numL_len (wd : Nat) (a : List Bs) : ∀ k, (numL wd k a).length = a.length := by
  induction a with
  | nil => intro k; rfl
  | cons x a ih => intro k; rw [numL, List.length_cons, ih, List.length_cons]
theorem numL_get (wd : Nat) (a : List Bs) : ∀ k i (h : i < a.length), (numL wd k a)[i]? = some (numX (k + i) wd a[i]) := by
  induction a with
  | nil => intro k i h; simp at h
  | cons x a ih =>
    intro k i h
    cases i with
    | zero => simp [numL]
    | succ i => rw [numL, List.getElem?_cons_succ, ih (k + 1) i (by simpa using h), show k + 1 + i = k + (i + 1) by omega]; rfl
theorem repeat_blank (n : Nat) : Lib.repeatL [32] n = List.replicate n 32 := by
  induction n with
  | zero => rfl
  | succ n ih => rw [Lib.repeatL, ih]; rfl
/-- n, or what is nearest to it from 0 up to most -/
def inside (n : Int) (most : Nat) : Nat := (min (max n 0) (most : Int)).toNat
theorem inside_le (n : Int) (most : Nat) : inside n most ≤ most := by unfold inside; omega
end Go.Proofs.YtpfdjnnnemkoiabDoor.Cu
