/- Runs, in plain words. -/
import Derived.Test.YtmpppdbomdepoaaGreatDoorSoLines
namespace Go.Proofs.YtmpppdbomdepoaaGreatDoor.So
open Go.RowKit Ky

abbrev Rs := List (ByteArray × Nat)
/-- what is left of a line -/
def lf (f b : Int) (x : ByteArray) : Bs := leftOf f b x.data.toList
/-- one more in the last run -/
def bump (r : Rs) : Rs := match r.reverse with | [] => [] | (z, n) :: t => ((z, n + 1) :: t).reverse
/-- runs, of lines that come one behind the other: those of the first ones, then the next line -/
def runsN (f b : Int) (A : Ls) : Nat → Rs
  | 0 => []
  | 1 => [(A.getD 0 ByteArray.empty, 1)]
  | k + 2 => if lf f b (A.getD k ByteArray.empty) = lf f b (A.getD (k + 1) ByteArray.empty) then bump (runsN f b A (k + 1)) else runsN f b A (k + 1) ++ [(A.getD (k + 1) ByteArray.empty, 1)]
theorem bump_len (r : Rs) : (bump r).length = r.length := by
  unfold bump
  cases h : r.reverse with
  | nil => have := congrArg List.length h; simp at this; simp [this]
  | cons x t => have := congrArg List.length h; simp at this; simp [this]
theorem runsN_len (f b : Int) (A : Ls) : ∀ k, (runsN f b A k).length ≤ k ∧ (0 < k → 0 < (runsN f b A k).length)
  | 0 => by simp [runsN]
  | 1 => by simp [runsN]
  | k + 2 => by
    have i := runsN_len f b A (k + 1)
    unfold runsN
    split
    · rw [bump_len]; exact ⟨by omega, fun _ => i.2 (by omega)⟩
    · rw [List.length_append, List.length_singleton]; omega
/-- as cells -/
def rcells (r : Rs) : List Value := r.flatMap fun x => [.string x.1, .int .i64 (x.2 : Int)]
theorem rcells_len (r : Rs) : (rcells r).length = r.length * 2 := by
  induction r with
  | nil => rfl
  | cons x r ih => simp [rcells] at ih ⊢; omega
theorem rcells_snoc (r : Rs) (x : ByteArray × Nat) : rcells (r ++ [x]) = rcells r ++ [.string x.1, .int .i64 (x.2 : Int)] := by simp [rcells]
theorem rs_last {r : Rs} (h : 0 < r.length) : ∃ t z n, r = t ++ [(z, n)] := by
  rcases List.eq_nil_or_concat r with rfl | ⟨t, x, rfl⟩
  · simp at h
  · exact ⟨t, x.1, x.2, by simp⟩
theorem bump_snoc (t : Rs) (z : ByteArray) (n : Nat) : bump (t ++ [(z, n)]) = t ++ [(z, n + 1)] := by simp [bump]
theorem rcells_set (t : Rs) (z : ByteArray) (n m : Nat) : (rcells (t ++ [(z, n)])).set (t.length * 2 + 1) (.int .i64 (m : Int)) = rcells (t ++ [(z, m)]) := by
  rw [rcells_snoc, rcells_snoc, List.set_append_right _ _ (by rw [rcells_len]; omega), rcells_len]
  simp
/-- how great the last one may be -/
theorem runsN_max (f b : Int) (A : Ls) : ∀ k, ∀ x ∈ runsN f b A k, 1 ≤ x.2 ∧ x.2 ≤ k
  | 0 => by simp [runsN]
  | 1 => by simp [runsN]
  | k + 2 => by
    have i := runsN_max f b A (k + 1)
    intro x hx
    unfold runsN at hx
    split at hx
    · obtain ⟨t, z, n, e⟩ := rs_last ((runsN_len f b A (k + 1)).2 (by omega))
      rw [e, bump_snoc] at hx
      rw [e] at i
      rcases List.mem_append.1 hx with q | q
      · have := i x (by simp [q]); omega
      · simp at q; subst q
        have := i (z, n) (by simp); simp at this ⊢; omega
    · rcases List.mem_append.1 hx with q | q
      · have := i x q; omega
      · simp at q; subst q; simp

end Go.Proofs.YtmpppdbomdepoaaGreatDoor.So
