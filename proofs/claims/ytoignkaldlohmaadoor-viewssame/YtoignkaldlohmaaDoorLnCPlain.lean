/- Counting, in plain words. -/
import Derived.Test.YtoignkaldlohmaaDoorLnCount
namespace Go.Proofs.YtoignkaldlohmaaDoor.Ln
open Go.RowKit

theorem endsN_cons (p : UInt8 → Bool) (c : UInt8) (l : List UInt8) : endsN (parts p (c :: l)) = (if p c then 1 else 0) + endsN (parts p l) := by
  rw [parts]
  split
  · rename_i h; simp [endsN]; omega
  · split
    · rename_i h1; rw [h1]; simp [endsN]
    · rename_i x b r h1; rw [h1]; cases b <;> simp [endsN]
theorem longN_cons (q : List UInt8 × Bool) (l : List (List UInt8 × Bool)) : longN (q :: l) = max q.1.length (longN l) := by
  have : ∀ (l : List (List UInt8 × Bool)) m, l.foldl (fun m q => max m q.1.length) m = max m (longN l) := by
    intro l
    induction l with
    | nil => intro m; simp [longN]
    | cons q l ih =>
      intro m
      simp only [longN, List.foldl_cons]
      rw [ih, ih]
      omega
  simp only [longN, List.foldl_cons]
  rw [this]
  simp [longN]
/-- the longest line of what is left, k bytes of its first line having come -/
def longF (k : Nat) : List UInt8 → Nat
  | [] => k
  | c :: l => if isEnd c then max k (longF 0 l) else longF (k + 1) l
theorem longF_eq : ∀ (l : List UInt8) (k : Nat), longF k l = match parts isEnd l with | [] => k | q :: r => max (k + q.1.length) (longN r)
  | [], k => by simp [longF, parts]
  | c :: l, k => by
    rw [longF, parts]
    split
    · rw [longF_eq l 0]
      cases parts isEnd l with
      | nil => simp [longN]
      | cons q r => simp [longN_cons]
    · rw [longF_eq l (k + 1)]
      cases parts isEnd l with
      | nil => simp [longN]
      | cons q r => obtain ⟨x, b⟩ := q; simp; omega
theorem longF_zero (l : List UInt8) : longF 0 l = longN (parts isEnd l) := by
  rw [longF_eq]
  cases parts isEnd l with
  | nil => simp [longN]
  | cons q r => simp [longN_cons]
theorem longF_ge : ∀ (l : List UInt8) (k : Nat), k ≤ longF k l
  | [], k => Nat.le_refl _
  | c :: l, k => by
    rw [longF]
    split
    · omega
    · have := longF_ge l (k + 1); omega
/-- how many words begin; does a byte between words, or none, stand ahead? -/
def wc (p : UInt8 → Bool) : Bool → List UInt8 → Nat
  | _, [] => 0
  | b, c :: l => (if !p c && b then 1 else 0) + wc p (p c) l
theorem wc_two (p : UInt8 → Bool) (l : List UInt8) : wc p true l = wc p false l + (match l with | [] => 0 | c :: _ => if p c then 0 else 1) := by
  cases l with
  | nil => rfl
  | cons c l => simp only [wc]; cases p c <;> simp; omega
theorem wc_runs (p : UInt8 → Bool) : ∀ l : List UInt8, (runsOf (parts p l)).length = wc p true l
  | [] => rfl
  | c :: l => by
    have ih := wc_runs p l
    rw [parts, wc]
    split
    · rename_i h; simp [runsOf, h] at ih ⊢; exact ih
    · rename_i h
      have h' : p c = false := by simpa using h
      rw [h']
      have h2 := wc_two p l
      split
      · rename_i h1
        have := parts_none _ h1
        subst this
        simp [runsOf, wc]
      · rename_i x b r h1
        rw [h1] at ih
        have h3 : (match l with | [] => 0 | c :: _ => if p c then 0 else 1) = if x.isEmpty then 0 else 1 := by
          cases l with
          | nil => simp [parts] at h1
          | cons d l =>
            rw [parts] at h1
            split at h1
            · rename_i hd; simp at h1; simp [← h1.1.1, hd]
            · rename_i hd
              split at h1
              · simp at h1; simp [← h1.1.1, hd]
              · simp at h1; simp [← h1.1.1, hd]
        rw [h3] at h2
        rw [h2] at ih
        cases x with
        | nil => simp [runsOf] at ih ⊢; omega
        | cons d x => simp [runsOf] at ih ⊢; omega


theorem endsN_two (l1 l2 : List UInt8) : endsN (parts isEnd (l1 ++ 10 :: l2)) = endsN (parts isEnd l1) + endsN (parts isEnd l2) + 1 := by
  induction l1 with
  | nil => rw [List.nil_append, endsN_cons]; simp [isEnd, parts, endsN]; omega
  | cons c l ih => rw [List.cons_append, endsN_cons, endsN_cons, ih]; omega
theorem wc_app (p : UInt8 → Bool) (d : UInt8) (hd : p d = true) (l2 : List UInt8) : ∀ (l1 : List UInt8) (b : Bool), wc p b (l1 ++ d :: l2) = wc p b l1 + wc p true l2
  | [], b => by simp [wc, hd]
  | c :: l, b => by rw [List.cons_append, wc, wc, wc_app p d hd l2 l]; omega
theorem words_two (l1 l2 : List UInt8) : (runsOf (parts isSpace (l1 ++ 10 :: l2))).length = (runsOf (parts isSpace l1)).length + (runsOf (parts isSpace l2)).length := by
  rw [wc_runs, wc_runs, wc_runs, wc_app isSpace 10 rfl]
theorem longF_app (l2 : List UInt8) : ∀ (l1 : List UInt8) (k : Nat), longF k (l1 ++ 10 :: l2) = max (longF k l1) (longF 0 l2)
  | [], k => by
    rw [List.nil_append, longF]
    simp [isEnd, longF]
  | c :: l, k => by
    rw [List.cons_append, longF, longF]
    split
    · rw [longF_app l2 l]; omega
    · rw [longF_app l2 l]
theorem longN_two (l1 l2 : List UInt8) : longN (parts isEnd (l1 ++ 10 :: l2)) = max (longN (parts isEnd l1)) (longN (parts isEnd l2)) := by
  rw [← longF_zero, ← longF_zero, ← longF_zero, longF_app]
end Go.Proofs.YtoignkaldlohmaaDoor.Ln
