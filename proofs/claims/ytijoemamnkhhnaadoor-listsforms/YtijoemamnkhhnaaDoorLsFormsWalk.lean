/- The law ListsForms: walked. -/
import Derived.Test.YtijoemamnkhhnaaDoorLsFormsA
import Derived.Test.YtijoemamnkhhnaaDoorLsFormsB
import Derived.Test.YtijoemamnkhhnaaDoorLsFormsC
import Derived.Test.YtijoemamnkhhnaaDoorLsFormsD
import Derived.Test.YtijoemamnkhhnaaDoorLsOpen
namespace Go.Proofs.YtijoemamnkhhnaaDoor.Ls
open Go.RowKit Go.Shelf Go.ChangeShapes Go.WideShapes Go.ChangeAt

theorem forms_walk (f t : Nat) (n : Int) (w : World) (hf : (f : Int) ≤ 4294967295) (htt : (t : Int) ≤ 4294967295) (ht : Tab w) :
    Calls Tryd.prog 7 #[.int .u32 f, .int .u32 t, .int .i64 n] w fun e w' => e = .returned (.bool true) ∧ Below w.heap.size w w' := by
  have fc : (f : Int) < 1 ∨ (1 ≤ (f : Int) ∧ (f : Int) ≤ 2147483647) ∨ 2147483647 < (f : Int) := by omega
  have tc : (t : Int) < 1 ∨ (1 ≤ (t : Int) ∧ (t : Int) ≤ 2147483647) ∨ 2147483647 < (t : Int) := by omega
  rcases fc with h1 | ⟨h1, h2⟩ | h1
  · rcases tc with h3 | ⟨h3, h4⟩ | h3
    · exact forms_00 f t n w hf htt ht h1 h3 (Fm.of (by omega) (by omega) (.inr ⟨by unfold ok; omega, rfl, rfl, rfl, rfl⟩) (.inr ⟨by unfold ok; omega, rfl, rfl⟩) (.inr ⟨by unfold ok; omega, rfl, rfl⟩))
    · exact forms_01 f t n w hf htt ht h1 h3 h4 (Fm.of (by omega) (by omega) (.inr ⟨by unfold ok; omega, rfl, rfl, rfl, rfl⟩) (.inr ⟨by unfold ok; omega, rfl, rfl⟩) (.inl ⟨by unfold ok; omega, rfl, rfl⟩))
    · exact forms_02 f t n w hf htt ht h1 h3 (Fm.of (by omega) (by omega) (.inr ⟨by unfold ok; omega, rfl, rfl, rfl, rfl⟩) (.inr ⟨by unfold ok; omega, rfl, rfl⟩) (.inr ⟨by unfold ok; omega, rfl, rfl⟩))
  · rcases tc with h3 | ⟨h3, h4⟩ | h3
    · exact forms_10 f t n w hf htt ht h1 h2 h3 (Fm.of (by omega) (by omega) (.inl ⟨by unfold ok; omega, rfl, rfl, rfl, rfl⟩) (.inr ⟨by unfold ok; omega, rfl, rfl⟩) (.inr ⟨by unfold ok; omega, rfl, rfl⟩))
    · by_cases h5 : (f : Int) ≤ (t : Int)
      · exact forms_11le f t n w hf htt ht h1 h2 h3 h4 h5 (Fm.of (by omega) (by omega) (.inl ⟨by unfold ok; omega, rfl, rfl, rfl, rfl⟩) (.inl ⟨by unfold ok; omega, by unfold ok; omega, by omega, rfl, rfl⟩) (.inl ⟨by unfold ok; omega, rfl, rfl⟩))
      · exact forms_11gt f t n w hf htt ht h1 h2 h3 h4 (by omega) (Fm.of (by omega) (by omega) (.inl ⟨by unfold ok; omega, rfl, rfl, rfl, rfl⟩) (.inr ⟨by unfold ok; omega, rfl, rfl⟩) (.inl ⟨by unfold ok; omega, rfl, rfl⟩))
    · exact forms_12 f t n w hf htt ht h1 h2 h3 (Fm.of (by omega) (by omega) (.inl ⟨by unfold ok; omega, rfl, rfl, rfl, rfl⟩) (.inr ⟨by unfold ok; omega, rfl, rfl⟩) (.inr ⟨by unfold ok; omega, rfl, rfl⟩))
  · rcases tc with h3 | ⟨h3, h4⟩ | h3
    · exact forms_20 f t n w hf htt ht h1 h3 (Fm.of (by omega) (by omega) (.inr ⟨by unfold ok; omega, rfl, rfl, rfl, rfl⟩) (.inr ⟨by unfold ok; omega, rfl, rfl⟩) (.inr ⟨by unfold ok; omega, rfl, rfl⟩))
    · exact forms_21 f t n w hf htt ht h1 h3 h4 (Fm.of (by omega) (by omega) (.inr ⟨by unfold ok; omega, rfl, rfl, rfl, rfl⟩) (.inr ⟨by unfold ok; omega, rfl, rfl⟩) (.inl ⟨by unfold ok; omega, rfl, rfl⟩))
    · exact forms_22 f t n w hf htt ht h1 h3 (Fm.of (by omega) (by omega) (.inr ⟨by unfold ok; omega, rfl, rfl, rfl, rfl⟩) (.inr ⟨by unfold ok; omega, rfl, rfl⟩) (.inr ⟨by unfold ok; omega, rfl, rfl⟩))
theorem forms_at (f t n : Int) (w : World) (hf : (Lit.int .u32 f).wf = true) (htt : (Lit.int .u32 t).wf = true) (ht : Tab w) :
    Calls Tryd.prog 7 #[.int .u32 f, .int .u32 t, .int .i64 n] w fun e w' => e = .returned (.bool true) ∧ Below w.heap.size w w' := by
  have h1 := bounds_u32 hf
  have h2 := bounds_u32 htt
  obtain ⟨f', rfl⟩ : ∃ k : Nat, f = k := ⟨f.toNat, by omega⟩
  obtain ⟨t', rfl⟩ : ∃ k : Nat, t = k := ⟨t.toNat, by omega⟩
  exact forms_walk f' t' n w (by omega) (by omega) ht
end Go.Proofs.YtijoemamnkhhnaaDoor.Ls
