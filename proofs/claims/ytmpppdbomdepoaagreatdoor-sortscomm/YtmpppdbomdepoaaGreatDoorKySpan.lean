/- Where fields begin and end; a key by these places. -/
import Derived.Test.YtmpppdbomdepoaaGreatDoorKyPlain
namespace Go.Proofs.YtmpppdbomdepoaaGreatDoor.Ky
open Go.RowKit

theorem dropWhile_le {p : UInt8 → Bool} (s : Bs) : (s.dropWhile p).length ≤ s.length := (List.dropWhile_sublist p).length_le
theorem part2_lt (c : UInt8) (r : Bs) : (part2 (c :: r)).length ≤ r.length := by
  unfold part2
  cases h : bl c
  · rw [List.dropWhile_cons, h]; simp [h]; exact dropWhile_le r
  · rw [List.dropWhile_cons, h]; simp; exact Nat.le_trans (dropWhile_le _) (dropWhile_le _)
theorem parts_fuel : ∀ (f g : Nat) (s : Bs), s.length ≤ f → s.length ≤ g → parts f s = parts g s
  | _, _, [], _, _ => by simp [parts]
  | 0, _, c :: r, h, _ => by simp at h
  | _ + 1, 0, c :: r, _, h => by simp at h
  | f + 1, g + 1, c :: r, h1, h2 => by
    have := part2_lt c r
    simp at h1 h2
    rw [parts, parts, parts_fuel f g (part2 (c :: r)) (by omega) (by omega)]
def partsOf (s : Bs) : List Bs := parts s.length s
theorem partsOf_nil : partsOf [] = [] := rfl
theorem partsOf_cons (c : UInt8) (r : Bs) : partsOf (c :: r) = part1 (c :: r) :: partsOf (part2 (c :: r)) := by
  have := part2_lt c r
  unfold partsOf
  rw [List.length_cons, parts, parts_fuel r.length (part2 (c :: r)).length (part2 (c :: r)) (by omega) (Nat.le_refl _)]
theorem part12 (s : Bs) : part1 s ++ part2 s = s := by
  unfold part1 part2
  rw [List.append_assoc, List.takeWhile_append_dropWhile, List.takeWhile_append_dropWhile]

/-! ### joining -/
def lead (b : Bs) (l : List Bs) : Bs := l.flatMap (fun x => x ++ b)
theorem lead_app (b : Bs) (l m : List Bs) : lead b (l ++ m) = lead b l ++ lead b m := by simp [lead]
theorem join_app (b : Bs) : ∀ (l m : List Bs), m ≠ [] → join b (l ++ m) = lead b l ++ join b m
  | [], m, _ => rfl
  | [x], m, h => by
    cases m with
    | nil => exact absurd rfl h
    | cons y m => simp [join, lead]
  | x :: y :: l, m, h => by
    have := join_app b (y :: l) m h
    simp only [List.cons_append, join] at this ⊢
    rw [this]; simp [lead]
theorem join_head (b x : Bs) (l : List Bs) : ∃ t, join b (x :: l) = x ++ t := by
  cases l with
  | nil => exact ⟨[], by simp [join]⟩
  | cons y l => exact ⟨b ++ join b (y :: l), by simp [join]⟩
theorem partsOf_join (n : Nat) : ∀ (s : Bs), s.length ≤ n → join [] (partsOf s) = s := by
  induction n with
  | zero => intro s h; cases s with
    | nil => rfl
    | cons c r => simp at h
  | succ n ih =>
    intro s h
    cases s with
    | nil => rfl
    | cons c r =>
      have := part2_lt c r
      simp at h
      rw [partsOf_cons]
      have e := part12 (c :: r)
      have i := ih (part2 (c :: r)) (by omega)
      cases hp : partsOf (part2 (c :: r)) with
      | nil => rw [hp] at i; rw [← i] at e; simp [join] at e ⊢; rw [e]
      | cons y l => rw [hp] at i; simp only [join, List.append_nil]; rw [i, e]
theorem split_ne (p : UInt8) (s : Bs) : split p s ≠ [] := by
  cases s with
  | nil => simp [split]
  | cons c r => rw [split]; split
                · simp
                · split <;> simp
theorem split_join (p : UInt8) : ∀ s, join [p] (split p s) = s
  | [] => rfl
  | c :: r => by
    have i := split_join p r
    have hn := split_ne p r
    rw [split]
    split
    · rename_i h
      cases hs : split p r with
      | nil => exact absurd hs hn
      | cons y l => rw [hs] at i; simp only [join]; rw [i]; simp [h]
    · cases hs : split p r with
      | nil => exact absurd hs hn
      | cons y l => 
        rw [hs] at i
        simp only
        cases l with
        | nil => simp [join] at i ⊢; exact i
        | cons z l => simp only [join, List.cons_append] at i ⊢; rw [i]
theorem fields_join (o : Ord) (s : Bs) : join (btw o) (fields o s) = s := by
  unfold btw fields
  split
  · exact partsOf_join _ s (Nat.le_refl _)
  · exact split_join _ s

/-! ### places -/
def spans (g : Nat) : Nat → List Bs → List (Nat × Nat)
  | _, [] => []
  | b, x :: l => (b, b + x.length) :: spans g (b + x.length + g) l
theorem spans_len (g : Nat) : ∀ (b : Nat) (l : List Bs), (spans g b l).length = l.length
  | _, [] => rfl
  | b, x :: l => by simp [spans, spans_len g _ l]
theorem spans_app (b : Bs) : ∀ (n : Nat) (l m : List Bs), spans b.length n (l ++ m) = spans b.length n l ++ spans b.length (n + (lead b l).length) m
  | _, [], m => by simp [spans, lead]
  | n, x :: l, m => by
    have := spans_app b (n + x.length + b.length) l m
    simp only [List.cons_append, spans, this]
    simp only [lead, List.flatMap_cons, List.length_append]
    congr 3; omega
theorem spans_mid (b : Bs) (A R : List Bs) (x : Bs) : spans b.length 0 (A ++ x :: R) = spans b.length 0 A ++ ((lead b A).length, (lead b A).length + x.length) :: spans b.length ((lead b A).length + x.length + b.length) R := by
  rw [spans_app, Nat.zero_add]; rfl
/-- what stands ahead of a span, it, and what stands behind -/
theorem spans_cut {b : Bs} {l : List Bs} {pre rest : List (Nat × Nat)} {x : Nat × Nat} (h : spans b.length 0 l = pre ++ x :: rest) :
    ∃ A y R, l = A ++ y :: R ∧ A.length = pre.length ∧ x = ((lead b A).length, (lead b A).length + y.length) ∧ pre = spans b.length 0 A := by
  have hl : pre.length < l.length := by
    have := congrArg List.length h
    rw [spans_len] at this; simp at this; omega
  have e : l = l.take pre.length ++ l[pre.length] :: l.drop (pre.length + 1) := by
    rw [← List.drop_eq_getElem_cons hl, List.take_append_drop]
  have h2 := spans_mid b (l.take pre.length) (l.drop (pre.length + 1)) l[pre.length]
  rw [← e, h] at h2
  have hlen : pre.length = (spans b.length 0 (l.take pre.length)).length := by rw [spans_len]; simp; omega
  obtain ⟨i, j⟩ := List.append_inj h2 hlen
  exact ⟨_, _, _, e, by simp; omega, (List.cons.inj j).1, i⟩
/-- where the From-th field begins, of those that have come; else the end -/
def fromAt (n fr : Nat) (pre : List (Nat × Nat)) : Nat := match pre[fr - 1]? with | some x => x.1 | none => n
theorem fromAt_snoc {n fr : Nat} (pre : List (Nat × Nat)) (x : Nat × Nat) (h : 0 < fr) : fromAt n fr (pre ++ [x]) = if pre.length + 1 = fr then x.1 else fromAt n fr pre := by
  unfold fromAt
  by_cases e : pre.length + 1 = fr
  · rw [if_pos e, ← e]; simp
  · rw [if_neg e]
    by_cases h2 : fr - 1 < pre.length
    · rw [List.getElem?_append_left h2]
    · rw [List.getElem?_eq_none (by rw [List.length_append, List.length_singleton]; omega), List.getElem?_eq_none (by omega)]
theorem fromAt_in {n fr : Nat} {b : Bs} (A : List Bs) (h : 0 < fr) (h2 : fr ≤ A.length) : fromAt n fr (spans b.length 0 A) = (lead b (A.take (fr - 1))).length := by
  have hl : fr - 1 < A.length := by omega
  have e : A = A.take (fr - 1) ++ A[fr - 1] :: A.drop fr := by
    have := List.drop_eq_getElem_cons hl
    rw [show fr - 1 + 1 = fr by omega] at this
    rw [← this, List.take_append_drop]
  have h3 := spans_mid b (A.take (fr - 1)) (A.drop fr) A[fr - 1]
  rw [← e] at h3
  unfold fromAt
  rw [h3, List.getElem?_append_right (by rw [spans_len]; simp; omega), spans_len]
  simp [show fr - 1 - (min (fr - 1) A.length) = 0 by omega]
theorem fromAt_out {n fr : Nat} {pre : List (Nat × Nat)} (h : pre.length < fr) : fromAt n fr pre = n := by
  unfold fromAt; rw [List.getElem?_eq_none (by omega)]
theorem join_mid (b : Bs) (A M R : List Bs) (x : Bs) : join b (M ++ [x]) = ((join b (A ++ (M ++ x :: R))).drop (lead b A).length).take ((lead b M).length + x.length) := by
  obtain ⟨t, ht⟩ := join_head b x R
  rw [join_app b A _ (by simp), List.drop_left, join_app b M (x :: R) (by simp), join_app b M [x] (by simp), ht, ← List.append_assoc, List.take_left' (by simp)]
  rfl
theorem join_rest (b : Bs) (l : List Bs) (i : Nat) (h : i < l.length) : join b (l.drop i) = (join b l).drop (lead b (l.take i)).length := by
  have : join b (l.take i ++ l.drop i) = lead b (l.take i) ++ join b (l.drop i) := join_app b _ _ (by intro e; have := congrArg List.length e; simp at this; omega)
  rw [List.take_append_drop] at this
  rw [this, List.drop_left]

/-- the places of an order's fields -/
def places (o : Ord) (s : Bs) : List (Nat × Nat) := spans (btw o).length 0 (fields o s)
theorem places_le {o : Ord} {s : Bs} {pre rest : List (Nat × Nat)} {x : Nat × Nat} (h : places o s = pre ++ x :: rest) : x.1 ≤ x.2 ∧ x.2 ≤ s.length := by
  obtain ⟨A, y, R, hl, hA, rfl, hp⟩ := spans_cut h
  refine ⟨by simp, ?_⟩
  have := fields_join o s
  rw [hl] at this
  have h2 := join_app (btw o) A (y :: R) (by simp)
  obtain ⟨t, ht⟩ := join_head (btw o) y R
  rw [this, ht] at h2
  have := congrArg List.length h2
  simp at this ⊢; omega
theorem fromAt_le (n fr : Nat) (o : Ord) (s : Bs) {pre rest : List (Nat × Nat)} (h : places o s = pre ++ rest) (hn : s.length = n) : fromAt n fr pre ≤ n := by
  unfold fromAt
  split
  · rename_i x hx
    obtain ⟨hl, rfl⟩ := List.getElem?_eq_some_iff.1 hx
    have e : pre = pre.take (fr - 1) ++ pre[fr - 1] :: pre.drop (fr - 1 + 1) := by
      rw [← List.drop_eq_getElem_cons hl, List.take_append_drop]
    have h2 : places o s = pre.take (fr - 1) ++ pre[fr - 1] :: (pre.drop (fr - 1 + 1) ++ rest) := by
      rw [h, ← List.cons_append, ← List.append_assoc, ← e]
    have := places_le h2
    omega
  · exact Nat.le_refl _
theorem key_in {o : Ord} {s : Bs} (hok : okO o = true) (hfr : 0 < o.fr) : key o s = join (btw o) (if o.to = 0 then (fields o s).drop (o.fr.toNat - 1) else ((fields o s).drop (o.fr.toNat - 1)).take (o.to.toNat + 1 - o.fr.toNat)) := by
  unfold key
  rw [if_neg (by simp [hok]), if_neg (by omega)]
theorem ok_to {o : Ord} (hok : okO o = true) (h : 0 < o.to) : o.fr ≤ o.to := by
  unfold okO at hok; simp at hok; omega
theorem key_ret {o : Ord} {s : Bs} {pre rest : List (Nat × Nat)} {x : Nat × Nat} (hok : okO o = true) (hfr : 0 < o.fr) (hto : 0 < o.to) (h : places o s = pre ++ x :: rest) (hlen : (pre.length : Int) + 1 = o.to) :
    key o s = (s.drop (fromAt s.length o.fr.toNat (pre ++ [x]))).take (x.2 - fromAt s.length o.fr.toNat (pre ++ [x])) ∧ fromAt s.length o.fr.toNat (pre ++ [x]) ≤ x.2 := by
  have hft := ok_to hok hto
  obtain ⟨A, y, R, hl, hA, rfl, hp⟩ := spans_cut h
  have e0 : pre ++ [((lead (btw o) A).length, (lead (btw o) A).length + y.length)] = spans (btw o).length 0 (A ++ [y]) := by rw [spans_mid, ← hp]; rfl
  rw [e0, fromAt_in _ (by omega) (by simp; omega), key_in hok hfr, if_neg (by omega), hl]
  have e1 : (A ++ [y]).take (o.fr.toNat - 1) = A.take (o.fr.toNat - 1) := by rw [List.take_append_of_le_length (by omega)]
  have e2 : (A ++ y :: R).drop (o.fr.toNat - 1) = A.drop (o.fr.toNat - 1) ++ y :: R := by rw [List.drop_append_of_le_length (by omega)]
  have e3 : (A.drop (o.fr.toNat - 1) ++ y :: R).take (o.to.toNat + 1 - o.fr.toNat) = A.drop (o.fr.toNat - 1) ++ [y] := by
    rw [show A.drop (o.fr.toNat - 1) ++ y :: R = (A.drop (o.fr.toNat - 1) ++ [y]) ++ R by simp, List.take_left' (by simp; omega)]
  rw [e1, e2, e3]
  have e4 := join_mid (btw o) (A.take (o.fr.toNat - 1)) (A.drop (o.fr.toNat - 1)) R y
  rw [← List.append_assoc, List.take_append_drop, ← hl, fields_join] at e4
  have e5 : (lead (btw o) A).length = (lead (btw o) (A.take (o.fr.toNat - 1))).length + (lead (btw o) (A.drop (o.fr.toNat - 1))).length := by
    rw [← List.length_append, ← lead_app, List.take_append_drop]
  rw [e4]
  simp only
  constructor
  · congr 1; omega
  · omega
theorem key_brk {o : Ord} {s : Bs} {pre rest : List (Nat × Nat)} {x : Nat × Nat} (hok : okO o = true) (hfr : 0 < o.fr) (hto : o.to = 0) (h : places o s = pre ++ x :: rest) (hlen : (pre.length : Int) + 1 = o.fr) :
    key o s = s.drop x.1 := by
  obtain ⟨A, y, R, hl, hA, rfl, hp⟩ := spans_cut h
  rw [key_in hok hfr, if_pos hto, join_rest _ _ _ (by rw [hl]; simp; omega), fields_join]
  congr 3
  rw [hl, List.take_left' (by omega)]
theorem key_done {o : Ord} {s : Bs} (hok : okO o = true) (hfr : 0 < o.fr) (h1 : o.to = 0 → ((places o s).length : Int) < o.fr) (h2 : 0 < o.to → ((places o s).length : Int) < o.to) :
    key o s = s.drop (fromAt s.length o.fr.toNat (places o s)) := by
  have hpl : (places o s).length = (fields o s).length := spans_len _ _ _
  by_cases hlt : ((places o s).length : Int) < o.fr
  · rw [fromAt_out (by omega), List.drop_length, key_in hok hfr, List.drop_eq_nil_of_le (by omega)]
    simp [join]
  · have hto : ¬ o.to = 0 := fun h => hlt (h1 h)
    have hto2 : 0 < o.to := by
      have : okO o = true := hok
      unfold okO at this; simp at this; omega
    have h3 := h2 hto2
    rw [key_in hok hfr, if_neg hto, List.take_of_length_le (by simp; omega), join_rest _ _ _ (by omega), fields_join]
    unfold places
    rw [fromAt_in _ (by omega) (by omega)]
end Go.Proofs.YtmpppdbomdepoaaGreatDoor.Ky
