/- Plain facts on sets: a list and its rest; swapped back; dropped and squeezed; singles; classes. -/
import Derived.Test.YtjgboecifonjdaaGreatDoorSePlain
namespace Go.Proofs.YtjgboecifonjdaaGreatDoor.Se
open Go.RowKit

/-! ### a list and its rest -/
theorem elem_filter (p : UInt8 → Bool) (c : UInt8) : (bytes.filter p).elem c = p c := by
  rw [Bool.eq_iff_iff, List.elem_iff, List.mem_filter]
  exact ⟨fun h => h.2, fun h => ⟨mem_bytes c, h⟩⟩
theorem rest_elem (l : Bs) (c : UInt8) : (rest l).elem c = !l.elem c := elem_filter _ c
theorem rest_rest_elem (l : Bs) (c : UInt8) : (rest (rest l)).elem c = l.elem c := by rw [rest_elem, rest_elem]; simp
theorem filter_both (p : UInt8 → Bool) (l : Bs) : (l.filter p).length + (l.filter fun c => !p c).length = l.length := by
  induction l with
  | nil => rfl
  | cons c l ih =>
    cases h : p c <;> simp [h] <;> omega
theorem rest_both (l : Bs) : (rest l).length + (rest (rest l)).length = 256 := by
  have h : rest (rest l) = bytes.filter fun c => !!l.elem c := by
    unfold rest
    congr 1
    funext c
    rw [show (List.filter (fun c => !List.elem c l) bytes) = rest l from rfl, rest_elem]
  rw [h]
  exact (filter_both (fun c => !l.elem c) bytes).trans bytes_length
theorem rest_le (l : Bs) : (rest l).length ≤ 256 := by have := rest_both l; omega
theorem span_ge (n k : Nat) (h : n + k ≤ 256) : ∀ x ∈ span n k, n ≤ x.toNat := by
  induction k generalizing n with
  | zero => intro x hx; cases hx
  | succ k ih =>
    intro x hx
    rcases List.mem_cons.1 hx with rfl | hx
    · simp; omega
    · have := ih (n + 1) (by omega) x hx; omega
theorem span_rises (n k : Nat) (h : n + k ≤ 256) : (span n k).Pairwise fun a b => a.toNat < b.toNat := by
  induction k generalizing n with
  | zero => exact .nil
  | succ k ih =>
    refine .cons (fun x hx => ?_) (ih (n + 1) (by omega))
    have := span_ge (n + 1) k (by omega) x hx
    simp; omega
theorem rest_rises (l : Bs) (i : Nat) (h : i + 1 < (rest l).length) : ((rest l)[i]).toNat < ((rest l)[i + 1]).toNat :=
  List.pairwise_iff_getElem.1 ((span_rises 0 256 (Nat.le_refl _)).filter _) i (i + 1) _ _ (Nat.lt_succ_self i)

/-! ### swapped -/
theorem becomes_out {f t : Bs} {c : UInt8} (h : f.elem c = false) : becomes f t c = c := by unfold becomes; rw [h]; rfl
theorem becomes_in {f t : Bs} {c : UInt8} (h : f.elem c = true) : becomes f t c = t.getD (min (f.idxOf c) (t.length - 1)) 0 := by unfold becomes; rw [if_pos h]
theorem becomes_back {f t : Bs} (hl : f.length = t.length) (ht : t.Nodup) {c : UInt8} (h : t.elem c = true → f.elem c = true) : becomes t f (becomes f t c) = c := by
  cases hc : f.elem c
  · rw [becomes_out hc]
    cases h2 : t.elem c
    · rw [becomes_out h2]
    · rw [h h2] at hc; cases hc
  · have hm := List.elem_iff.1 hc
    have hi : f.idxOf c < f.length := List.idxOf_lt_length_iff.2 hm
    have e1 : becomes f t c = t[f.idxOf c]'(by omega) := by
      rw [becomes_in hc, Nat.min_eq_left (by omega)]
      simp [List.getD, List.getElem?_eq_getElem (show f.idxOf c < t.length by omega)]
    rw [e1]
    have hm2 : t[f.idxOf c]'(by omega) ∈ t := List.getElem_mem _
    rw [becomes_in (List.elem_iff.2 hm2)]
    have e2 : t.idxOf (t[f.idxOf c]'(by omega)) = f.idxOf c := ht.idxOf_getElem _ _
    rw [e2, Nat.min_eq_left (by omega)]
    simp [List.getD, List.getElem?_eq_getElem hi]
theorem swap_back {f t : Bs} (hl : f.length = t.length) (ht : t.Nodup) (s : Bs) (h : ∀ c ∈ s, t.elem c = true → f.elem c = true) : (s.map (becomes f t)).map (becomes t f) = s := by
  rw [List.map_map]
  conv => rhs; rw [← List.map_id s]
  refine List.map_congr_left fun c hc => ?_
  exact becomes_back hl ht (h c hc)

/-! ### dropped and squeezed -/
theorem drop_drop (s l : Bs) : drop (drop s l) l = drop s l := by unfold drop; rw [List.filter_filter]; simp
theorem drop_le (s l : Bs) : (drop s l).length ≤ s.length := List.length_filter_le _ _
theorem sq_sq (l : Bs) (p : Option UInt8) (s : Bs) : sq l p (sq l p s) = sq l p s := by
  induction s generalizing p with
  | nil => rfl
  | cons c r ih =>
    by_cases h : p = some c ∧ l.elem c = true
    · have e : sq l p (c :: r) = sq l (some c) r := by rw [sq, if_pos h]
      rw [e, h.1]; exact ih _
    · have e : sq l p (c :: r) = c :: sq l (some c) r := by rw [sq, if_neg h]
      rw [e, sq, if_neg h, ih]
theorem sq_le (l : Bs) (p : Option UInt8) (s : Bs) : (sq l p s).length ≤ s.length := by
  induction s generalizing p with
  | nil => exact Nat.le_refl _
  | cons c r ih =>
    rw [sq]; split
    · exact Nat.le_trans (ih _) (by simp)
    · simp; exact ih _
theorem drop_sq (l : Bs) (p : Option UInt8) (s : Bs) : drop (sq l p s) l = drop s l := by
  induction s generalizing p with
  | nil => rfl
  | cons c r ih =>
    rw [sq]; split
    · rename_i h
      rw [ih]
      unfold drop; rw [List.filter_cons, if_neg (by rw [h.2]; decide)]
    · unfold drop at ih ⊢
      rw [List.filter_cons, List.filter_cons, ih]
theorem sq_head (l : Bs) (c : UInt8) (s : Bs) (h : (sq l (some c) s)[0]? = some c) : l.elem c = false := by
  induction s with
  | nil => simp [sq] at h
  | cons d r ih =>
    rw [sq] at h
    split at h
    · rename_i hd
      rw [Option.some.inj hd.1] at ih
      rw [Option.some.inj hd.1] at h ⊢
      exact ih h
    · rename_i hd
      simp only [List.getElem?_cons_zero, Option.some.injEq] at h
      subst h
      cases he : l.elem d
      · rfl
      · exact absurd ⟨rfl, he⟩ hd
theorem sq_next (l : Bs) (p : Option UInt8) (s : Bs) (i : Nat) (c : UInt8) (h0 : (sq l p s)[i]? = some c) (h1 : (sq l p s)[i + 1]? = some c) : l.elem c = false := by
  induction s generalizing p i with
  | nil => simp [sq] at h0
  | cons d r ih =>
    rw [sq] at h0 h1
    split at h0
    · rename_i hd
      rw [if_pos hd] at h1
      exact ih _ _ h0 h1
    · rename_i hd
      rw [if_neg hd] at h1
      cases i with
      | zero =>
        simp only [List.getElem?_cons_zero, Option.some.injEq] at h0
        simp only [Nat.zero_add, List.getElem?_cons_succ] at h1
        subst h0
        exact sq_head l d r h1
      | succ i =>
        simp only [List.getElem?_cons_succ] at h0 h1
        exact ih _ _ h0 h1

/-! ### singles -/
def octB (c : UInt8) : Bs := [92, 48 + c / 64, 48 + c / 8 % 8, 48 + c % 8]
def digs (c : UInt8) : Bool := isO (48 + c / 64) && isO (48 + c / 8 % 8) && isO (48 + c % 8) && decide ((((48 + c / 64).toNat - 48) * 8 + ((48 + c / 8 % 8).toNat - 48)) * 8 + ((48 + c % 8).toNat - 48) = c.toNat)
  && decide (48 + c / 64 ≠ 92) && decide (48 + c / 64 ≠ 110) && decide (48 + c / 64 ≠ 116)
theorem digs_nat : ∀ n, n < 256 → digs (UInt8.ofNat n) = true := by decide +kernel
theorem digs_all (c : UInt8) : digs c = true := by
  have := digs_nat c.toNat c.toNat_lt
  simpa using this
theorem single_octB (c : UInt8) (t : Bs) : single (octB c ++ t) = some (c, t) := by
  have h := digs_all c
  unfold digs at h
  simp only [Bool.and_eq_true, decide_eq_true_eq] at h
  obtain ⟨⟨⟨⟨⟨⟨h1, h2⟩, h3⟩, h4⟩, h5⟩, h6⟩, h7⟩ := h
  have ho : octs 3 0 ((48 + c / 64) :: (48 + c / 8 % 8) :: (48 + c % 8) :: t) = (c.toNat, t) := by
    simp only [octs, h1, h2, h3, ↓reduceIte, Nat.zero_mul, Nat.zero_add, h4]
  unfold octB
  simp only [List.cons_append, List.nil_append]
  unfold single
  simp only [↓reduceIte, h5, h6, h7]
  unfold octal
  simp only [ho, h1, true_and]
  rw [if_pos (by have := c.toNat_lt; omega)]
  simp
theorem spanTo_self (c : UInt8) : spanTo c c = [c] := by
  unfold spanTo
  rw [show c.toNat + 1 - c.toNat = 1 from by omega]
  simp [span]
theorem thing_octB (c : UInt8) (t : Bs) (h : goesOn t = false) : thing (octB c ++ t) = some ([c], t) := by
  have hc : cutC (octB c ++ t) = none := by simp [octB, cutC]
  unfold thing
  rw [hc]
  simp only [range, single_octB, h]
  simp [spanTo_self]
theorem goesOn_octs (l : Bs) : goesOn (l.flatMap octB) = false := by
  cases l with
  | nil => rfl
  | cons c l => simp [octB, goesOn]
theorem tell_octs (l : Bs) : ∀ f, (l.flatMap octB).length ≤ f → tell f (l.flatMap octB) = some l := by
  induction l with
  | nil => intro f _; cases f <;> rfl
  | cons c l ih =>
    intro f hf
    rw [List.flatMap_cons] at hf ⊢
    have e : octB c ++ l.flatMap octB = 92 :: (octB c ++ l.flatMap octB).tail := by simp [octB]
    cases f with
    | zero => rw [e] at hf; simp at hf
    | succ f =>
      have ht := thing_octB c (l.flatMap octB) (goesOn_octs l)
      rw [e] at ht ⊢
      rw [tell, ht]
      simp only
      rw [ih f (by rw [List.length_append, show (octB c).length = 4 from rfl] at hf; omega)]
      simp
theorem parse_octs (l : Bs) (h : l.length ≤ 65536) : parse (l.flatMap octB) = (l, 0) := by
  unfold parse told
  rw [tell_octs l _ (Nat.le_refl _)]
  simp only
  rw [if_neg (by omega)]
theorem thing_pair (a b : UInt8) : thing (octB a ++ (45 :: (octB b ++ []))) = if a ≤ b then some (spanTo a b, []) else none := by
  have hc : cutC (octB a ++ (45 :: (octB b ++ []))) = none := by simp [octB, cutC]
  have hg : goesOn (45 :: (octB b ++ [])) = true := by simp [octB, goesOn, cutC]
  unfold thing
  rw [hc]
  simp only [range, single_octB, hg, ↓reduceIte, List.drop_succ_cons, List.drop_zero]
  split <;> rename_i h
  · split at h <;> simp_all
  · rename_i x y z
    split at h <;> simp_all
theorem parse_pair (a b : UInt8) : parse (octB a ++ (45 :: (octB b ++ []))) = if a ≤ b then (spanTo a b, 0) else ([], 5) := by
  have ht := thing_pair a b
  have e : octB a ++ (45 :: (octB b ++ [])) = 92 :: (octB a ++ (45 :: (octB b ++ []))).tail := by simp [octB]
  unfold parse told
  rw [e] at ht ⊢
  rw [List.length_cons, tell, ht]
  by_cases h : a ≤ b
  · rw [if_pos h, if_pos h]
    simp only [tell]
    have hl : (spanTo a b).length ≤ 256 := by rw [spanTo, span_length]; have := b.toNat_lt; omega
    simp only [Option.map_some, List.append_nil]
    rw [if_neg (by omega)]
  · rw [if_neg h, if_neg h]

/-! ### classes -/
def nameAt (i : Nat) : Bs := (clsL.getD i ([], fun _ => false)).1
def clsAt (i : Nat) : UInt8 → Bool := (clsL.getD i ([], fun _ => false)).2
theorem parse_one : ∀ i, i < 12 → parse ([91, 58] ++ nameAt i ++ [58, 93]) = (bytes.filter (clsAt i), 0) := by decide +kernel
theorem parse_two : ∀ i, i < 12 → parse ([91, 58] ++ nameAt i ++ [58, 93] ++ [45, 91, 58, 100, 105, 103, 105, 116, 58, 93]) = (bytes.filter (clsAt i) ++ 45 :: bytes.filter (clsAt 4), 0) := by decide +kernel
theorem digit_len : (bytes.filter (clsAt 4)).length = 10 := by decide +kernel
end Go.Proofs.YtjgboecifonjdaaGreatDoor.Se
