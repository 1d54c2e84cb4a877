/- Sets of bytes in plain words: what a text tells, what is left, what becomes of a text. -/
import Derived.Test.YtjgboecifonjdaaGreatDoorRows
import Derived.WalkKit
namespace Go.Proofs.YtjgboecifonjdaaGreatDoor.Se
open Go.RowKit

abbrev Bs := List UInt8
theorem hide {p : Prop} (h : p) : Hid p := h
theorem unhide {p : Prop} (h : Hid p) : p := h

def low (c : UInt8) : Bool := decide (97 ≤ c) && decide (c ≤ 122)
def cutC : Bs → Option (Bs × Bs)
  | a :: b :: r => if a = 91 ∧ b = 58 then (match r.dropWhile low with
      | c :: d :: t => if c = 58 ∧ d = 93 then some (r.takeWhile low, t) else none
      | _ => none) else none
  | _ => none
def isO (c : UInt8) : Bool := decide (48 ≤ c) && decide (c ≤ 55)
/-- at most k digits: the number, and what stands behind -/
def octs : Nat → Nat → Bs → Nat × Bs
  | 0, n, s => (n, s)
  | _ + 1, n, [] => (n, [])
  | k + 1, n, c :: r => if isO c then octs k (n * 8 + (c.toNat - 48)) r else (n, c :: r)
def octal (s : Bs) : Option (UInt8 × Bs) :=
  match s with
  | [] => none
  | c :: _ => if isO c = true ∧ (octs 3 0 s).1 ≤ 255 then some (UInt8.ofNat (octs 3 0 s).1, (octs 3 0 s).2) else none
def single : Bs → Option (UInt8 × Bs)
  | [] => none
  | c :: r => if c = 92 then (match r with
     | [] => none
     | d :: t => if d = 92 then some (92, t) else if d = 110 then some (10, t) else if d = 116 then some (9, t) else octal (d :: t)) else some (c, r)
def goesOn : Bs → Bool
  | c :: d :: t => decide (c = 45) && (cutC (d :: t)).isNone
  | _ => false
def range (s : Bs) : Option (UInt8 × UInt8 × Bs) :=
  match single s with
  | none => none
  | some (a, r) => if goesOn r = true then (match single (r.drop 1) with
      | none => none
      | some (b, t) => if a ≤ b then some (a, b, t) else none) else some (a, a, r)
/-- k bytes from n on -/
def span : Nat → Nat → Bs
  | _, 0 => []
  | n, k + 1 => UInt8.ofNat n :: span (n + 1) k
def spanTo (a b : UInt8) : Bs := span a.toNat (b.toNat + 1 - a.toNat)
def bytes : Bs := span 0 256

/-! ### classes -/
def bt (a b : UInt8) (c : UInt8) : Bool := decide (a ≤ c) && decide (c ≤ b)
def kAlpha (c : UInt8) : Bool := bt 65 90 c || bt 97 122 c
def kAlnum (c : UInt8) : Bool := bt 48 57 c || kAlpha c
def kPunct (c : UInt8) : Bool := bt 33 126 c && !kAlnum c
def clsL : List (Bs × (UInt8 → Bool)) := [
  ([97, 108, 112, 104, 97], kAlpha),
  ([97, 108, 110, 117, 109], kAlnum),
  ([98, 108, 97, 110, 107], fun c => bt 9 9 c || bt 32 32 c),
  ([99, 110, 116, 114, 108], fun c => bt 0 31 c || bt 127 127 c),
  ([100, 105, 103, 105, 116], bt 48 57),
  ([103, 114, 97, 112, 104], bt 33 126),
  ([108, 111, 119, 101, 114], bt 97 122),
  ([112, 114, 105, 110, 116], fun c => bt 32 32 c || bt 33 126 c),
  ([112, 117, 110, 99, 116], kPunct),
  ([115, 112, 97, 99, 101], fun c => bt 9 13 c || bt 32 32 c),
  ([117, 112, 112, 101, 114], bt 65 90),
  ([120, 100, 105, 103, 105, 116], fun c => bt 48 57 c || (bt 65 70 c || bt 97 102 c))]
def look {α : Type} (n : Bs) : List (Bs × α) → Option α
  | [] => none
  | (k, p) :: l => if n = k then some p else look n l
def clsOf (n : Bs) : Option (UInt8 → Bool) := look n clsL

def thing (s : Bs) : Option (Bs × Bs) :=
  match cutC s with
  | some (n, r) => (match clsOf n with | none => none | some p => some (bytes.filter p, r))
  | none => (match range s with | none => none | some (a, b, r) => some (spanTo a b, r))
def tell : Nat → Bs → Option Bs
  | _, [] => some []
  | 0, _ :: _ => none
  | f + 1, c :: r => match thing (c :: r) with | none => none | some (l, t) => (tell f t).map (l ++ ·)
def told (s : Bs) : Option Bs := tell s.length s
/-- what Parse answers: bytes, an error's number -/
def parse (s : Bs) : Bs × Int :=
  match told s with
  | none => ([], 5)
  | some l => if 65536 < l.length then ([], 3) else (l, 0)

/-! ### sets -/
def rest (l : Bs) : Bs := bytes.filter fun c => !l.elem c
def becomes (f t : Bs) (c : UInt8) : UInt8 :=
  if f.elem c = true then t.getD (min (f.idxOf c) (t.length - 1)) 0 else c
def drop (s l : Bs) : Bs := s.filter fun c => !l.elem c
def sq (l : Bs) : Option UInt8 → Bs → Bs
  | _, [] => []
  | p, c :: r => if p = some c ∧ l.elem c = true then sq l (some c) r else c :: sq l (some c) r
def squeeze (s l : Bs) : Bs := sq l none s

/-! ### small facts -/
theorem span_length (n k : Nat) : (span n k).length = k := by induction k generalizing n with | zero => rfl | succ k ih => simp [span, ih]
theorem bytes_length : bytes.length = 256 := span_length _ _
theorem span_snoc (n k : Nat) : span n (k + 1) = span n k ++ [UInt8.ofNat (n + k)] := by
  induction k generalizing n with
  | zero => rfl
  | succ k ih => rw [span, ih, span]; simp [Nat.add_assoc, Nat.add_comm 1]
theorem span_get (n k i : Nat) (h : i < k) : (span n k)[i]? = some (UInt8.ofNat (n + i)) := by
  induction k generalizing n i with
  | zero => omega
  | succ k ih =>
    cases i with
    | zero => simp [span]
    | succ i => simp only [span, List.getElem?_cons_succ]; rw [ih (n + 1) i (by omega)]; congr 2; omega
theorem mem_bytes (c : UInt8) : c ∈ bytes := by
  have h := c.toNat_lt
  have := span_get 0 256 c.toNat (by omega)
  rw [List.mem_iff_getElem?]
  exact ⟨c.toNat, by rw [show bytes = span 0 256 from rfl, this]; simp⟩
theorem octs_le (k n : Nat) (s : Bs) : (octs k n s).2.length ≤ s.length := by
  induction k generalizing n s with
  | zero => simp [octs]
  | succ k ih =>
    cases s with
    | nil => simp [octs]
    | cons c r =>
      unfold octs
      split
      · exact Nat.le_trans (ih _ _) (by simp)
      · simp
theorem octal_lt {s : Bs} {c : UInt8} {r : Bs} (h : octal s = some (c, r)) : r.length < s.length := by
  cases s with
  | nil => simp [octal] at h
  | cons d t =>
    unfold octal at h
    simp only at h
    split at h
    · rename_i hc
      simp only [Option.some.injEq, Prod.mk.injEq] at h
      rw [← h.2]
      show (octs (2 + 1) 0 (d :: t)).2.length < _
      unfold octs
      rw [if_pos hc.1]
      exact Nat.lt_of_le_of_lt (octs_le _ _ _) (by simp)
    · cases h
theorem single_lt {s : Bs} {c : UInt8} {r : Bs} (h : single s = some (c, r)) : r.length < s.length := by
  cases s with
  | nil => simp [single] at h
  | cons d t =>
    by_cases h92 : d = 92
    · cases t with
      | nil => simp [single, h92] at h
      | cons e u =>
        unfold single at h
        simp only [h92, ↓reduceIte] at h
        split at h
        · simp only [Option.some.injEq, Prod.mk.injEq] at h; rw [← h.2]; simp; omega
        · split at h
          · simp only [Option.some.injEq, Prod.mk.injEq] at h; rw [← h.2]; simp; omega
          · split at h
            · simp only [Option.some.injEq, Prod.mk.injEq] at h; rw [← h.2]; simp; omega
            · have := octal_lt h; simp at this ⊢; omega
    · unfold single at h
      simp only [h92, ↓reduceIte, Option.some.injEq, Prod.mk.injEq] at h; rw [← h.2]; simp
theorem range_lt {s : Bs} {a b : UInt8} {r : Bs} (h : range s = some (a, b, r)) : r.length < s.length := by
  unfold range at h
  split at h
  · cases h
  · rename_i a' r' h1
    have h2 := single_lt h1
    split at h
    · split at h
      · cases h
      · rename_i b' t' h3
        have h4 := single_lt h3
        split at h
        · simp only [Option.some.injEq, Prod.mk.injEq] at h
          rw [← h.2.2]
          have : (r'.drop 1).length ≤ r'.length := by simp
          omega
        · cases h
    · simp only [Option.some.injEq, Prod.mk.injEq] at h
      rw [← h.2.2]; exact h2
theorem range_le {s : Bs} {a b : UInt8} {r : Bs} (h : range s = some (a, b, r)) : a ≤ b := by
  unfold range at h
  split at h
  · cases h
  · split at h
    · split at h
      · cases h
      · split at h
        · rename_i hab
          simp only [Option.some.injEq, Prod.mk.injEq] at h
          rw [← h.1, ← h.2.1]; exact hab
        · cases h
    · simp only [Option.some.injEq, Prod.mk.injEq] at h
      rw [← h.1, ← h.2.1]; exact UInt8.le_refl _
theorem dropWhile_le (p : UInt8 → Bool) (s : Bs) : (s.dropWhile p).length ≤ s.length := (List.dropWhile_sublist p).length_le
theorem cutC_lt {s n r : Bs} (h : cutC s = some (n, r)) : r.length < s.length := by
  unfold cutC at h
  split at h
  · rename_i a b t
    split at h
    · split at h
      · rename_i c d u hd
        split at h
        · simp only [Option.some.injEq, Prod.mk.injEq] at h
          have := dropWhile_le low t
          rw [hd] at this
          rw [← h.2]; simp at this ⊢; omega
        · cases h
      · cases h
    · cases h
  · cases h
theorem thing_lt {s l r : Bs} (h : thing s = some (l, r)) : r.length < s.length := by
  unfold thing at h
  split at h
  · rename_i n t hc
    split at h
    · cases h
    · simp only [Option.some.injEq, Prod.mk.injEq] at h
      rw [← h.2]; exact cutC_lt hc
  · split at h
    · cases h
    · rename_i a b t hr
      simp only [Option.some.injEq, Prod.mk.injEq] at h
      rw [← h.2]; exact range_lt hr
theorem thing_len {s l r : Bs} (h : thing s = some (l, r)) : l.length ≤ 256 := by
  unfold thing at h
  split at h
  · split at h
    · cases h
    · simp only [Option.some.injEq, Prod.mk.injEq] at h
      rw [← h.1]; exact Nat.le_trans (List.length_filter_le _ _) (by rw [bytes_length]; exact Nat.le_refl _)
  · split at h
    · cases h
    · rename_i a b t hr
      simp only [Option.some.injEq, Prod.mk.injEq] at h
      rw [← h.1, spanTo, span_length]; have := b.toNat_lt; omega
end Go.Proofs.YtjgboecifonjdaaGreatDoor.Se
