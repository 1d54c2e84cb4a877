/- Bytes in octal, in plain words. -/
import Derived.Test.YtjkajhnnoecjbaaDoorVwPlain
set_option linter.unusedVariables false
namespace Go.Proofs.YtjkajhnnoecjbaaDoor.Vw
open Go.RowKit Cu

/-- an octal digit -/
def dg (n : Nat) : UInt8 := UInt8.ofNat (48 + n % 8)
/-- octal digits, none of 0 -/
def d0 (n : Nat) : Bs := if h : n = 0 then [] else d0 (n / 8) ++ [dg n]
decreasing_by exact Nat.div_lt_self (Nat.pos_of_ne_zero h) (by decide)
theorem d0_zero : d0 0 = [] := by rw [d0]; simp
theorem d0_pos (n : Nat) (h : 0 < n) : d0 n = d0 (n / 8) ++ [dg n] := by rw [d0, dif_neg (by omega)]
/-- octal digits, one at least -/
def digs (n : Nat) : Bs := if n = 0 then [48] else d0 n
theorem digs_zero : digs 0 = [48] := rfl
theorem digs_pos (n : Nat) (h : 0 < n) : digs n = d0 n := by rw [digs, if_neg (by omega)]
/-- so many digits at least -/
def octP (n w : Nat) : Bs := List.replicate (w - (digs n).length) 48 ++ digs n
/-- what stands ahead of so many digits that are there -/
def ahead (w n k : Nat) : Bs := List.replicate (w - k - (d0 n).length) 48 ++ d0 n
theorem ahead_start (w n : Nat) (h : 0 < w) : ahead w n 0 = octP n w := by
  unfold ahead octP
  by_cases hn : n = 0
  · subst hn
    rw [d0_zero, digs_zero, List.append_nil]
    show List.replicate w 48 = List.replicate (w - 1) 48 ++ [48]
    obtain ⟨k, rfl⟩ : ∃ k, w = k + 1 := ⟨w - 1, by omega⟩
    rw [Nat.add_sub_cancel, List.replicate_succ']
  · rw [digs_pos n (by omega), Nat.sub_zero]
theorem ahead_step (w n k : Nat) (h : 0 < n ∨ k < w) : ahead w n k = ahead w (n / 8) (k + 1) ++ [dg n] := by
  unfold ahead
  by_cases hn : n = 0
  · subst hn
    rw [Nat.zero_div, d0_zero, List.append_nil, List.append_nil]
    show List.replicate (w - k) 48 = List.replicate (w - (k + 1)) 48 ++ [48]
    obtain ⟨j, hj⟩ : ∃ j, w - k = j + 1 := ⟨w - k - 1, by omega⟩
    rw [hj, show w - (k + 1) = j by omega, List.replicate_succ']
  · rw [d0_pos n (by omega), ← List.append_assoc, List.length_append]
    congr 3
    show _ - (_ + 1) = _
    omega
theorem ahead_end (w k : Nat) (h : w ≤ k) : ahead w 0 k = [] := by
  unfold ahead
  rw [d0_zero, show w - k = 0 by omega]; rfl
theorem d0_len : ∀ (k n : Nat), n < 8 ^ k → (d0 n).length ≤ k
  | 0, n, h => by
    obtain rfl : n = 0 := by simpa using h
    rw [d0_zero]; simp
  | k + 1, n, h => by
    by_cases hn : n = 0
    · subst hn; rw [d0_zero]; simp
    · rw [d0_pos n (by omega), List.length_append]
      have := d0_len k (n / 8) (by rw [Nat.div_lt_iff_lt_mul (by decide)]; rw [Nat.pow_succ] at h; exact h)
      simp; omega
theorem digs_len (n : Nat) (h : n < 2 ^ 63) : (digs n).length ≤ 21 ∧ 0 < (digs n).length := by
  by_cases hn : n = 0
  · subst hn; rw [digs_zero]; simp
  · rw [digs_pos n (by omega)]
    refine ⟨d0_len 21 n (by rw [show (8 : Nat) = 2 ^ 3 from rfl, ← Nat.pow_mul]; exact h), ?_⟩
    rw [d0_pos n (by omega)]; simp
theorem octP_len (n w : Nat) (h : n < 2 ^ 63) : (octP n w).length ≤ w + 21 := by
  have := digs_len n h
  unfold octP
  simp; omega
theorem octP_len3 (c : UInt8) : (octP c.toNat 3).length = 3 := by
  have h := c.toNat_lt
  have h1 : (digs c.toNat).length ≤ 3 := by
    by_cases hn : c.toNat = 0
    · rw [hn, digs_zero]; simp
    · rw [digs_pos _ (by omega)]; exact d0_len 3 _ (by omega)
  unfold octP
  simp; omega

/-! ### lines of bytes -/
/-- a line's end ahead of a place -/
def nl (k : Nat) : Bs := if 0 < k then [10] else []
/-- what is told of the first k bytes -/
def dumpTo (s : Bs) : Nat → Bs
  | 0 => []
  | k + 1 => (dumpTo s k ++ if k % 16 = 0 then nl k ++ octP k 7 else []) ++ 32 :: octP (s.getD k 0).toNat 3
def dumpP (s : Bs) : Bs := dumpTo s s.length ++ nl s.length ++ octP s.length 7 ++ [10]
theorem nl_len (k : Nat) : (nl k).length ≤ 1 := by unfold nl; split <;> simp
theorem dumpTo_len (s : Bs) : ∀ k, k < 2 ^ 63 → (dumpTo s k).length ≤ 40 * k
  | 0, _ => by simp [dumpTo]
  | k + 1, h => by
    have h1 := dumpTo_len s k (by omega)
    have h2 := octP_len k 7 (by omega)
    have h3 := nl_len k
    have h4 := octP_len3 (s.getD k 0)
    have h5 : (if k % 16 = 0 then nl k ++ octP k 7 else []).length ≤ 29 := by
      split
      · simp; omega
      · simp
    rw [dumpTo]
    rw [List.length_append, List.length_append, List.length_cons, h4]
    omega
end Go.Proofs.YtjkajhnnoecjbaaDoor.Vw
