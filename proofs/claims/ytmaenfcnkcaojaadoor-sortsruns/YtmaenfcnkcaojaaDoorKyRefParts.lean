/- What the document's Check and Parts answer. -/
import Derived.Test.YtmaenfcnkcaojaaDoorKyRefPlain
import Derived.Test.YtmaenfcnkcaojaaDoorKyRow
import Derived.Test.YtmaenfcnkcaojaaDoorLnRefSplit
import Derived.Deep.DeepCutAuto
import Derived.Deep.CutBlock
namespace Go.Proofs.YtmaenfcnkcaojaaDoor.Ky
open Go.RowKit Go.Shelf

attribute [local go_sem] Oper.semAt_some

theorem rblank_any (c : UInt8) (w : World) :
    Calls Tryd.prog 21 #[.int .u8 (c.toNat : Int)] w fun e w' => e = .returned (.bool (bl c)) ∧ w' = w := by
  have e : bl c = decide ((c.toNat : Int) = 32 ∨ (c.toNat : Int) = 9) := by
    unfold bl
    have h1 := u8_eq c 32
    have h2 := u8_eq c 9
    simp only [decide_eq_decide] at h1 h2
    simp only [h1, h2]; rfl
  rw [e]
  generalize (c.toNat : Int) = x
  clear e
  by_cases h1 : x = 32
  · subst h1
    go_enter Tryd.func21, Tryd.ntmps21
    go_wp2
    go_ret
    exact ⟨rfl, rfl⟩
  · by_cases h2 : x = 9
    · subst h2
      go_enter Tryd.func21, Tryd.ntmps21
      go_wp2
      go_ret
      exact ⟨rfl, rfl⟩
    · have a1 : (x == 32) = false := by simpa using h1
      have a2 : (x == 9) = false := by simpa using h2
      go_enter Tryd.func21, Tryd.ntmps21
      go_wp2
      go_ret
      exact ⟨by simp [h1, h2], rfl⟩

theorem parts_more (l : Bs) (pre : List Bs) (k : Nat) (h : k < l.length) (hp : partsOf l = pre ++ partsOf (l.drop k)) : partsOf l = (pre ++ [(l.drop k).take (fend l k - k)]) ++ partsOf (l.drop (fend l k)) ∧ k < fend l k := by
  obtain ⟨c, r, e⟩ := partsOf_at l k h
  have h1 := partsOf_cons c r
  rw [← e] at h1
  have h2 : part1 (l.drop k) = (l.drop k).take (fend l k - k) := by
    rw [fend_eq, Nat.add_sub_cancel_left]
    have := congrArg (List.take (part1 (l.drop k)).length) (part12 (l.drop k))
    rw [List.take_left] at this
    exact this
  refine ⟨by rw [hp, h1, fend_drop, h2]; simp, ?_⟩
  have h3 := part2_lt c r
  rw [← e, ← fend_drop] at h3
  have h4 := congrArg List.length e
  rw [List.length_drop, List.length_cons] at h4
  rw [List.length_drop] at h3
  omega
theorem pre_len (l : Bs) (pre : List Bs) (k : Nat) (hp : partsOf l = pre ++ partsOf (l.drop k)) : pre.length ≤ l.length := by
  have h : ∀ n (l : Bs), l.length ≤ n → (partsOf l).length ≤ l.length := by
    intro n
    induction n with
    | zero => intro l h; cases l with
      | nil => exact Nat.le_refl _
      | cons c r => simp at h
    | succ n ih =>
      intro l h
      cases l with
      | nil => exact Nat.le_refl _
      | cons c r =>
        have h1 := part2_lt c r
        simp at h
        have h2 := ih (part2 (c :: r)) (by omega)
        rw [partsOf_cons]; simp; omega
  have h1 := h l.length l (Nat.le_refl _)
  rw [hp, List.length_append] at h1
  omega

end Go.Proofs.YtmaenfcnkcaojaaDoor.Ky
