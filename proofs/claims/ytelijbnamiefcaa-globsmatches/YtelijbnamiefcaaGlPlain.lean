/- Names by patterns in plain words: the things of a pattern, what they match, and the places of a pattern where a name may be. -/
import Derived.Test.YtelijbnamiefcaaRows
import Derived.WalkKit
namespace Go.Proofs.Ytelijbnamiefcaa.Gl
open Go.RowKit

abbrev Bs := List UInt8
theorem hide {p : Prop} (h : p) : Hid p := h
theorem unhide {p : Prop} (h : Hid p) : p := h

/-- a thing of a pattern: any bytes, or one byte that p has -/
structure Th where
  star : Bool
  p : UInt8 → Bool

/-! ### how a pattern is read -/
def bang : Bs → Bool
  | [] => false
  | c :: _ => decide (c = 33)
def unbang (s : Bs) : Bs := if bang s = true then s.drop 1 else s
/-- how many bytes the bracket has that a pattern begins with; 0: there is none -/
def brk (s : Bs) : Nat :=
  match unbang (s.drop 1) with
  | [] => 0
  | _ :: r => if r.idxOf 93 < r.length then s.length - (r.length + 1) + 1 + r.idxOf 93 + 1 else 0
/-- the kind of the first thing, and how many bytes it has -/
def kindP : Bs → Nat × Nat
  | [] => (4, 1)
  | c :: r => if c = 42 then (0, 1) else if c = 63 then (1, 1) else if c = 92 then (2, 2) else if c = 91 then (if 0 < brk (c :: r) then (3, brk (c :: r)) else (4, 1)) else (4, 1)
def bt (a b c : UInt8) : Bool := decide (a ≤ c) && decide (c ≤ b)
/-- which bytes the inside of a bracket has -/
def ins : Bs → UInt8 → Bool
  | [], _ => false
  | [a], c => decide (a = c)
  | [a, b], c => decide (a = c) || decide (b = c)
  | a :: m :: b :: r, c => if m = 45 then (bt a b c || ins r c) else (decide (a = c) || ins (m :: b :: r) c)
def withinP (t : Bs) (c : UInt8) : Bool := ins (unbang t) c != bang t
def predP (k : Nat) (t : Bs) : UInt8 → Bool := fun c =>
  if k = 2 then decide (c = t.getD 1 0) else if k = 3 then withinP ((t.drop 1).take (t.length - 2)) c else if k = 4 then decide (c = t.getD 0 0) else true
def thP (k : Nat) (t : Bs) : Th := ⟨decide (k = 0), predP k t⟩
def rd : Nat → Bs → Option (List Th)
  | _, [] => some []
  | 0, _ :: _ => none
  | f + 1, c :: r => if (c :: r).length < (kindP (c :: r)).2 then none else (rd f ((c :: r).drop (kindP (c :: r)).2)).map (thP (kindP (c :: r)).1 ((c :: r).take (kindP (c :: r)).2) :: ·)
def readP (s : Bs) : Option (List Th) := if 4096 < s.length then none else rd s.length s

theorem brk_le (s : Bs) : brk s ≤ s.length := by
  unfold brk
  split
  · omega
  · rename_i a r h
    have h1 : (unbang (s.drop 1)).length ≤ s.length - 1 := by
      unfold unbang; split <;> simp
      omega
    rw [h] at h1
    simp only [List.length_cons] at h1
    split
    · omega
    · omega
theorem kind_pos (s : Bs) : 1 ≤ (kindP s).2 := by
  unfold kindP
  split
  · simp
  · repeat' split
    all_goals (first | exact Nat.le_refl _ | exact Nat.le_succ _ | (rename_i h; exact h))
theorem rd_fuel (f : Nat) : ∀ s : Bs, s.length ≤ f → rd f s = rd s.length s := by
  induction f using Nat.strongRecOn with
  | _ f ih =>
    intro s hs
    cases s with
    | nil => cases f <;> rfl
    | cons c r =>
      cases f with
      | zero => simp at hs
      | succ f =>
        rw [List.length_cons]
        unfold rd
        split
        · rfl
        · have hk := kind_pos (c :: r)
          have h1 : ((c :: r).drop (kindP (c :: r)).2).length ≤ r.length := by rw [List.length_drop, List.length_cons]; omega
          simp only [List.length_cons] at hs
          rw [ih f (by omega) _ (by omega)]
          by_cases hf : r.length < f + 1
          · rw [ih r.length hf _ h1]
          · omega
theorem rd_cons (c : UInt8) (r : Bs) : rd (c :: r).length (c :: r) = if (c :: r).length < (kindP (c :: r)).2 then none else (rd ((c :: r).drop (kindP (c :: r)).2).length ((c :: r).drop (kindP (c :: r)).2)).map (thP (kindP (c :: r)).1 ((c :: r).take (kindP (c :: r)).2) :: ·) := by
  have hk := kind_pos (c :: r)
  rw [← rd_fuel r.length ((c :: r).drop (kindP (c :: r)).2) (by rw [List.length_drop, List.length_cons]; omega)]
  rfl
/-- the things of a pattern, of any length -/
def rdA (s : Bs) : Option (List Th) := rd s.length s
theorem rdA_nil : rdA [] = some [] := rfl
theorem rdA_cons (s : Bs) (h : s ≠ []) : rdA s = if s.length < (kindP s).2 then none else (rdA (s.drop (kindP s).2)).map (thP (kindP s).1 (s.take (kindP s).2) :: ·) := by
  cases s with
  | nil => exact absurd rfl h
  | cons c r => exact rd_cons c r

/-! ### what the inside of a bracket has -/
theorem ins_one (a c : UInt8) (r : Bs) (h : ∀ m b t, r = m :: b :: t → m ≠ 45) : ins (a :: r) c = (decide (a = c) || ins r c) := by
  match r, h with
  | [], _ => simp [ins]
  | [b], _ => simp [ins]
  | m :: b :: t, h => rw [ins, if_neg (h m b t rfl)]
theorem ins_range (a b c : UInt8) (t : Bs) : ins (a :: 45 :: b :: t) c = (bt a b c || ins t c) := by
  rw [ins, if_pos rfl]

/-! ### what things match -/
def tls : Bs → List Bs
  | [] => [[]]
  | c :: r => (c :: r) :: tls r
def mt : List Th → Bs → Bool
  | [], n => n.isEmpty
  | t :: ts, n => if t.star = true then (tls n).any (mt ts) else match n with
    | [] => false
    | c :: n' => t.p c && mt ts n'
theorem mt_star_nil {t : Th} {ts : List Th} (h : t.star = true) : mt (t :: ts) [] = mt ts [] := by simp [mt, h, tls]
theorem mt_star_cons {t : Th} {ts : List Th} (h : t.star = true) (c : UInt8) (n : Bs) : mt (t :: ts) (c :: n) = (mt ts (c :: n) || mt (t :: ts) n) := by simp [mt, h, tls]
theorem mt_one_nil {t : Th} {ts : List Th} (h : t.star = false) : mt (t :: ts) [] = false := by simp [mt, h]
theorem mt_one_cons {t : Th} {ts : List Th} (h : t.star = false) (c : UInt8) (n : Bs) : mt (t :: ts) (c :: n) = (t.p c && mt ts n) := by simp [mt, h]
theorem mt_star_of {t : Th} {ts : List Th} (h : t.star = true) {n : Bs} (hm : mt ts n = true) : mt (t :: ts) n = true := by
  cases n with
  | nil => rw [mt_star_nil h, hm]
  | cons c n => rw [mt_star_cons h, hm]; rfl

/-! ### places -/
def ones (ts : List Th) : List Th := ts.filter fun t => !t.star
def stayP : List Th → Nat → Bool
  | [], _ => false
  | t :: ts, j => if t.star = true then (decide (j = 0) || stayP ts j) else match j with
    | 0 => false
    | j + 1 => stayP ts j
def fit (ts : List Th) (i : Nat) (c : UInt8) : Bool := match (ones ts)[i]? with
  | none => false
  | some t => t.p c
/-- what is left behind the first j things that match one byte -/
def frm : List Th → Nat → List Th
  | ts, 0 => ts
  | [], _ + 1 => []
  | t :: ts, j + 1 => if t.star = true then frm ts (j + 1) else frm ts j
def stp (ts : List Th) (c : UInt8) (A : Nat → Bool) (j : Nat) : Bool := A j && stayP ts j || (match j with
  | 0 => false
  | i + 1 => A i && fit ts i c)
theorem ones_star {t : Th} {ts : List Th} (h : t.star = true) : ones (t :: ts) = ones ts := by simp [ones, h]
theorem ones_one {t : Th} {ts : List Th} (h : t.star = false) : ones (t :: ts) = t :: ones ts := by simp [ones, h]
theorem stay_star_end {t : Th} (h : t.star = true) (ts : List Th) (j : Nat) : stayP (ts ++ [t]) j = (stayP ts j || decide (j = (ones ts).length)) := by
  induction ts generalizing j with
  | nil => cases j <;> simp [stayP, h, ones]
  | cons u us ih =>
    rw [List.cons_append]
    cases hu : u.star
    · cases j with
      | zero => simp [stayP, hu, ones_one hu]
      | succ j => simp [stayP, hu, ones_one hu, ih]
    · simp [stayP, hu, ones_star hu, ih, Bool.or_assoc]
theorem stay_one_end {t : Th} (h : t.star = false) (ts : List Th) (j : Nat) : stayP (ts ++ [t]) j = stayP ts j := by
  induction ts generalizing j with
  | nil => cases j <;> simp [stayP, h]
  | cons u us ih =>
    rw [List.cons_append]
    cases hu : u.star
    · cases j with
      | zero => simp [stayP, hu]
      | succ j => simp [stayP, hu, ih]
    · simp [stayP, hu, ih]
theorem frm_nil (j : Nat) : frm [] j = [] := by cases j <;> rfl
theorem frm_stay (ts : List Th) (j : Nat) : stayP (frm ts j) 0 = stayP ts j := by
  induction ts generalizing j with
  | nil => rw [frm_nil]; rfl
  | cons t ts ih =>
    cases j with
    | zero => rw [frm]
    | succ j =>
      cases ht : t.star
      · simp [frm, stayP, ht, ih]
      · simp [frm, stayP, ht, ih]
theorem frm_ones (ts : List Th) (j : Nat) : ones (frm ts j) = (ones ts).drop j := by
  induction ts generalizing j with
  | nil => rw [frm_nil]; simp [ones]
  | cons t ts ih =>
    cases j with
    | zero => rw [frm, List.drop_zero]
    | succ j =>
      cases ht : t.star
      · simp [frm, ht, ones_one ht, ih]
      · simp [frm, ht, ones_star ht, ih]
theorem frm_next (ts : List Th) (j : Nat) : frm (frm ts j) 1 = frm ts (j + 1) := by
  induction ts generalizing j with
  | nil => rw [frm_nil, frm_nil, frm_nil]
  | cons t ts ih =>
    cases j with
    | zero => rw [frm]
    | succ j =>
      cases ht : t.star
      · simp [frm, ht, ih]
      · simp [frm, ht, ih]
theorem mt_first (ts : List Th) (c : UInt8) (n : Bs) : mt ts (c :: n) = (stayP ts 0 && mt ts n || (match ones ts with
    | [] => false
    | t :: _ => t.p c && mt (frm ts 1) n)) := by
  induction ts with
  | nil => simp [mt, stayP, ones]
  | cons t ts ih =>
    cases ht : t.star
    · rw [mt_one_cons ht, ones_one ht]
      simp [stayP, ht, frm]
    · rw [mt_star_cons ht, ih, ones_star ht]
      have e1 : stayP (t :: ts) 0 = true := by simp [stayP, ht]
      have e2 : frm (t :: ts) 1 = frm ts 1 := by simp [frm, ht]
      rw [e1, e2]
      generalize (match ones ts with
        | [] => false
        | t :: _ => t.p c && mt (frm ts 1) n) = X
      cases hm : mt ts n
      · cases X <;> cases mt (t :: ts) n <;> simp
      · rw [mt_star_of ht hm]; cases X <;> cases stayP ts 0 <;> simp
theorem mt_place (ts : List Th) (j : Nat) (c : UInt8) (n : Bs) : mt (frm ts j) (c :: n) = (stayP ts j && mt (frm ts j) n || fit ts j c && mt (frm ts (j + 1)) n) := by
  rw [mt_first, frm_stay, frm_ones, frm_next]
  congr 1
  unfold fit
  by_cases hj : j < (ones ts).length
  · rw [List.drop_eq_getElem_cons hj, List.getElem?_eq_getElem hj]
  · rw [List.drop_eq_nil_of_le (by omega), List.getElem?_eq_none (by omega)]; rfl
theorem mt_nil (ts : List Th) : mt ts [] = (ones ts).isEmpty := by
  induction ts with
  | nil => rfl
  | cons t ts ih =>
    cases ht : t.star
    · rw [mt_one_nil ht, ones_one ht]; rfl
    · rw [mt_star_nil ht, ones_star ht, ih]
/-- from one of these places on the name is matched -/
def Runs (ts : List Th) (A : Nat → Bool) (n : Bs) : Prop := ∃ j, j ≤ (ones ts).length ∧ A j = true ∧ mt (frm ts j) n = true
theorem fit_lt {ts : List Th} {i : Nat} {c : UInt8} (h : fit ts i c = true) : i < (ones ts).length := by
  unfold fit at h
  by_cases hi : i < (ones ts).length
  · exact hi
  · rw [List.getElem?_eq_none (by omega)] at h; cases h
theorem runs_step (ts : List Th) (A : Nat → Bool) (c : UInt8) (n : Bs) : Runs ts A (c :: n) ↔ Runs ts (stp ts c A) n := by
  constructor
  · rintro ⟨j, hj, hA, hm⟩
    rw [mt_place, Bool.or_eq_true, Bool.and_eq_true, Bool.and_eq_true] at hm
    rcases hm with ⟨h1, h2⟩ | ⟨h1, h2⟩
    · exact ⟨j, hj, by simp [stp, hA, h1], h2⟩
    · exact ⟨j + 1, fit_lt h1, by simp [stp, hA, h1], h2⟩
  · rintro ⟨j, hj, hA, hm⟩
    unfold stp at hA
    rw [Bool.or_eq_true, Bool.and_eq_true] at hA
    rcases hA with ⟨h1, h2⟩ | h
    · exact ⟨j, hj, h1, by rw [mt_place, h2, hm]; rfl⟩
    · cases j with
      | zero => cases h
      | succ i =>
        simp only [Bool.and_eq_true] at h
        exact ⟨i, by omega, h.1, by rw [mt_place, h.2, hm]; simp⟩
theorem runs_nil (ts : List Th) (A : Nat → Bool) : Runs ts A [] ↔ A (ones ts).length = true := by
  constructor
  · rintro ⟨j, hj, hA, hm⟩
    rw [mt_nil, frm_ones] at hm
    have : j = (ones ts).length := by
      simp at hm
      omega
    rw [← this]; exact hA
  · intro h
    exact ⟨_, Nat.le_refl _, h, by rw [mt_nil, frm_ones]; simp⟩
theorem runs_zero (ts : List Th) (n : Bs) : Runs ts (fun j => decide (j = 0)) n ↔ mt ts n = true := by
  constructor
  · rintro ⟨j, _, hA, hm⟩
    simp at hA
    subst hA
    cases ts <;> exact hm
  · intro h
    refine ⟨0, Nat.zero_le _, rfl, ?_⟩
    cases ts <;> exact h
/-- the places behind each byte of the name -/
def stps (ts : List Th) : Bs → (Nat → Bool) → Nat → Bool
  | [], A => A
  | c :: n, A => stps ts n (stp ts c A)
theorem runs_stps (ts : List Th) (n : Bs) : ∀ A, stps ts n A (ones ts).length = true ↔ Runs ts A n := by
  induction n with
  | nil => intro A; rw [runs_nil]; rfl
  | cons c n ih => intro A; rw [runs_step, ← ih]; rfl
def matchP (s n : Bs) : Bool := match readP s with
  | none => false
  | some ts => mt ts n

/-! ### quoted names -/
def sign (c : UInt8) : Bool := decide (c = 42) || decide (c = 63) || decide (c = 91) || decide (c = 92)
def quoteP : Bs → Bs
  | [] => []
  | c :: r => if sign c = true then 92 :: c :: quoteP r else c :: quoteP r
theorem quote_app (a b : Bs) : quoteP (a ++ b) = quoteP a ++ quoteP b := by
  induction a with
  | nil => rfl
  | cons c a ih =>
    rw [List.cons_append, quoteP, quoteP]
    split <;> simp [ih]
theorem quote_len (s : Bs) : (quoteP s).length ≤ 2 * s.length := by
  induction s with
  | nil => simp [quoteP]
  | cons c s ih => unfold quoteP; split <;> simp <;> omega
end Go.Proofs.Ytelijbnamiefcaa.Gl
