/- A line in parts, in plain words. -/
import Derived.Test.YtpfdjnnnemkoiabDoorCuPlain
namespace Go.Proofs.YtpfdjnnnemkoiabDoor.Cu
open Go.RowKit

def blk (c : UInt8) : Bool := decide (c = 32) || decide (c = 9)
/-- behind the last blank among the first i bytes -/
def cutAt (s : Bs) : Nat → Option Nat
  | 0 => none
  | i + 1 => if blk (s.getD i 0) = true then some (i + 1) else cutAt s i
theorem cutAt_none (s : Bs) : ∀ k, (∀ j, j < k → blk (s.getD j 0) = false) → cutAt s k = none
  | 0, _ => rfl
  | k + 1, h => by
    rw [cutAt, if_neg (by rw [h k (by omega)]; simp)]
    exact cutAt_none s k (fun j hj => h j (by omega))
theorem cutAt_some (s : Bs) (i : Nat) (hi : blk (s.getD i 0) = true) : ∀ k, i < k → (∀ j, i < j → j < k → blk (s.getD j 0) = false) → cutAt s k = some (i + 1)
  | 0, h, _ => by omega
  | k + 1, h, hn => by
    rw [cutAt]
    by_cases hk : k = i
    · subst hk; rw [if_pos hi]
    · rw [if_neg (by rw [hn k (by omega) (by omega)]; simp)]
      exact cutAt_some s i hi k (by omega) (fun j h1 h2 => hn j h1 (by omega))
theorem cutAt_spec (s : Bs) : ∀ k, (cutAt s k = none ∧ ∀ j, j < k → blk (s.getD j 0) = false) ∨ ∃ i, i < k ∧ cutAt s k = some (i + 1) ∧ blk (s.getD i 0) = true ∧ ∀ j, i < j → j < k → blk (s.getD j 0) = false
  | 0 => .inl ⟨rfl, fun j h => by omega⟩
  | k + 1 => by
    rw [cutAt]
    split
    · rename_i h
      exact .inr ⟨k, by omega, rfl, h, fun j h1 h2 => by omega⟩
    · rename_i h
      have h' : blk (s.getD k 0) = false := by simpa using h
      rcases cutAt_spec s k with ⟨h1, h2⟩ | ⟨i, h1, h2, h3, h4⟩
      · refine .inl ⟨h1, fun j hj => ?_⟩
        by_cases e : j = k
        · subst e; exact h'
        · exact h2 j (by omega)
      · refine .inr ⟨i, by omega, h2, h3, fun j hj hk => ?_⟩
        by_cases e : j = k
        · subst e; exact h'
        · exact h4 j hj (by omega)
theorem cutAt_take (s : Bs) (n : Nat) : ∀ k, k ≤ n → cutAt (s.take n) k = cutAt s k
  | 0, _ => rfl
  | k + 1, h => by
    have e : (s.take n).getD k 0 = s.getD k 0 := by simp [List.getD, show k < n by omega]
    rw [cutAt, cutAt, e, cutAt_take s n k (by omega)]
/-- how many bytes the next part has -/
def psize (n : Nat) (bl : Bool) (s : Bs) : Nat := if bl = true then (cutAt s n).getD n else n
theorem psize_le (n : Nat) (bl : Bool) (s : Bs) (h : 1 ≤ n) : 1 ≤ psize n bl s ∧ psize n bl s ≤ n := by
  unfold psize
  split
  · rcases cutAt_spec s n with ⟨h1, _⟩ | ⟨i, h1, h2, _⟩
    · rw [h1]; simp; exact h
    · rw [h2]; simp; omega
  · omega
def parts (n : Nat) (bl : Bool) : Nat → Bs → List Bs
  | 0, s => [s]
  | f + 1, s => if n < s.length then s.take (psize n bl s) :: parts n bl f (s.drop (psize n bl s)) else [s]
theorem parts_fuel (n : Nat) (bl : Bool) (hn : 1 ≤ n) : ∀ (f g : Nat) (s : Bs), s.length ≤ f → s.length ≤ g → parts n bl f s = parts n bl g s
  | 0, 0, s, _, _ => rfl
  | 0, g + 1, s, hf, _ => by rw [parts, parts, if_neg (by omega)]
  | f + 1, 0, s, _, hg => by rw [parts, parts, if_neg (by omega)]
  | f + 1, g + 1, s, hf, hg => by
    have hp := psize_le n bl s hn
    rw [parts, parts]
    split
    · rw [parts_fuel n bl hn f g (s.drop (psize n bl s)) (by rw [List.length_drop]; omega) (by rw [List.length_drop]; omega)]
    · rfl
/-- a line in parts of n bytes at most -/
def foldL (n : Nat) (bl : Bool) (s : Bs) : List Bs := parts n bl s.length s
theorem foldL_end (n : Nat) (bl : Bool) (s : Bs) (h : s.length ≤ n) : foldL n bl s = [s] := by
  unfold foldL
  cases hl : s.length with
  | zero => rfl
  | succ k => rw [parts, if_neg (by omega)]
theorem foldL_step (n : Nat) (bl : Bool) (s : Bs) (hn : 1 ≤ n) (h : n < s.length) : foldL n bl s = s.take (psize n bl s) :: foldL n bl (s.drop (psize n bl s)) := by
  have hp := psize_le n bl s hn
  unfold foldL
  obtain ⟨k, hk⟩ : ∃ k, s.length = k + 1 := ⟨s.length - 1, by omega⟩
  rw [hk, parts, if_pos h, parts_fuel n bl hn k (s.drop (psize n bl s)).length _ (by rw [List.length_drop]; omega) (Nat.le_refl _)]
theorem foldL_len (n : Nat) (bl : Bool) (hn : 1 ≤ n) : ∀ (k : Nat) (s : Bs), s.length ≤ k → (foldL n bl s).length ≤ s.length + 1
  | 0, s, h => by rw [foldL_end n bl s (by omega)]; simp
  | k + 1, s, h => by
    by_cases hl : n < s.length
    · have hp := psize_le n bl s hn
      have := foldL_len n bl hn k (s.drop (psize n bl s)) (by rw [List.length_drop]; omega)
      rw [List.length_drop] at this
      rw [foldL_step n bl s hn hl, List.length_cons]
      omega
    · rw [foldL_end n bl s (by omega)]; simp
def bad (n : Int) : Prop := n < 1 ∨ 65536 < n
theorem badDec (n : Int) : bad n ∨ ¬ bad n := Classical.em _
end Go.Proofs.YtpfdjnnnemkoiabDoor.Cu
