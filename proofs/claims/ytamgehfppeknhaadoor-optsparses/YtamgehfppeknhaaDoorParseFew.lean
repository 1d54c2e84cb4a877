/- How many flags and words an answer of parse has at most: no program is named here. -/
import Derived.Test.YtamgehfppeknhaaDoorParsePlain
namespace Go.Proofs.YtamgehfppeknhaaDoor.Pa
open Go.RowKit

theorem lets_few {K : Int → Int} {nx : Option ByteArray} {l : List UInt8} {fl fl' : Fl} {b : Bool} (h : lets K nx l fl = some (fl', b)) : fl'.length ≤ fl.length + l.length := by
  induction l generalizing fl with
  | nil => simp only [lets, Option.some.injEq, Prod.mk.injEq] at h; rw [← h.1]; simp
  | cons c t ih =>
    simp only [lets] at h
    split at h
    · have := ih h
      simp only [List.length_append, List.length_cons, List.length_nil] at this ⊢
      omega
    · split at h
      · split at h
        · split at h
          · cases h
          · simp only [Option.some.injEq, Prod.mk.injEq] at h
            rw [← h.1]
            simp only [List.length_append, List.length_cons, List.length_nil]
            omega
        · simp only [Option.some.injEq, Prod.mk.injEq] at h
          rw [← h.1]
          simp only [List.length_append, List.length_cons, List.length_nil]
          omega
      · cases h

theorem words_few (K : Int → Int) (n : Nat) : ∀ (ss : List ByteArray) (fl fl' : Fl) (rest : List ByteArray), ss.length ≤ n → words K ss fl = some (fl', rest) → fl'.length ≤ fl.length + tot ss ∧ rest.length ≤ ss.length := by
  induction n with
  | zero =>
    intro ss fl fl' rest hn h
    obtain rfl : ss = [] := List.eq_nil_of_length_eq_zero (by omega)
    simp only [words, Option.some.injEq, Prod.mk.injEq] at h
    rw [← h.1, ← h.2]
    exact ⟨by omega, Nat.le_refl _⟩
  | succ n ih =>
    intro ss fl fl' rest hn h
    cases ss with
    | nil =>
      simp only [words, Option.some.injEq, Prod.mk.injEq] at h
      rw [← h.1, ← h.2]
      exact ⟨by omega, Nat.le_refl _⟩
    | cons s ws =>
      rw [words_cons] at h
      have hs : s.data.toList.length = s.size := rfl
      simp only [tot, List.length_cons] at hn ⊢
      split at h
      · simp only [Option.some.injEq, Prod.mk.injEq] at h
        rw [← h.1, ← h.2]
        exact ⟨by omega, by omega⟩
      · split at h
        · cases hl : lets K ws.head? (s.data.toList.drop 1) fl with
          | none => rw [hl] at h; cases h
          | some q =>
            obtain ⟨f1, b⟩ := q
            have h1 := lets_few hl
            rw [List.length_drop] at h1
            rw [hl] at h
            cases b with
            | false =>
              have h2 := ih ws f1 fl' rest (by omega) h
              omega
            | true =>
              cases ws with
              | nil => cases h
              | cons x ws' =>
                have h2 := ih ws' f1 fl' rest (by simp only [List.length_cons] at hn; omega) h
                simp only [tot, List.length_cons]
                omega
        · simp only [Option.some.injEq, Prod.mk.injEq] at h
          rw [← h.1, ← h.2]
          exact ⟨by omega, by simp⟩

theorem parse_few (which : ByteArray) (ss : List ByteArray) : (parse which ss).1.length ≤ tot ss ∧ (parse which ss).2.1.length ≤ ss.length := by
  unfold parse
  split
  · simp
  · split
    · simp
    · split
      · simp
      · rename_i fl rest hw
        have := words_few _ _ ss [] fl rest (Nat.le_refl _) hw
        simpa using this
end Go.Proofs.YtamgehfppeknhaaDoor.Pa
