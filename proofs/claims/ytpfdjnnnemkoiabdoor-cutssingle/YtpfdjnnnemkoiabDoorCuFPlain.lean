/- A line's fields in plain words. -/
import Derived.Test.YtpfdjnnnemkoiabDoorCuPlain
import Derived.Lib.Join
import Derived.Lib.IndexLaws
namespace Go.Proofs.YtpfdjnnnemkoiabDoor.Cu
open Go.RowKit

/-- what stands between the bytes sep -/
def fcut (sep : UInt8) : Bs → List Bs
  | [] => [[]]
  | c :: s => if c = sep then [] :: fcut sep s else (match fcut sep s with | [] => [[c]] | x :: r => (c :: x) :: r)
theorem fcut_hit (sep : UInt8) (a r : Bs) (h : ∀ c ∈ a, c ≠ sep) : fcut sep (a ++ sep :: r) = a :: fcut sep r := by
  induction a with
  | nil => simp [fcut]
  | cons c a ih =>
    rw [List.cons_append, fcut, if_neg (h c (by simp)), ih (fun x hx => h x (by simp [hx]))]
theorem fcut_clean (sep : UInt8) (a : Bs) (h : ∀ c ∈ a, c ≠ sep) : fcut sep a = [a] := by
  induction a with
  | nil => rfl
  | cons c a ih => rw [fcut, if_neg (h c (by simp)), ih (fun x hx => h x (by simp [hx]))]
theorem fcut_sum (sep : UInt8) (s : Bs) : Lib.lens (fcut sep s) + (fcut sep s).length = s.length + 1 ∧ 1 ≤ (fcut sep s).length := by
  induction s with
  | nil => simp [fcut, Lib.lens]
  | cons c s ih =>
    rw [fcut]
    split
    · simp [Lib.lens] at ih ⊢; omega
    · cases hf : fcut sep s with
      | nil => rw [hf] at ih; simp at ih
      | cons x r => rw [hf] at ih; simp [Lib.lens] at ih ⊢; omega
theorem fcut_one (sep : UInt8) (s : Bs) (h : sep ∈ s) : 2 ≤ (fcut sep s).length := by
  induction s with
  | nil => simp at h
  | cons c s ih =>
    rw [fcut]
    split
    · have := (fcut_sum sep s).2; simp; omega
    · rename_i hc
      have := ih (by rcases List.mem_cons.1 h with e | h; exact absurd e.symm hc; exact h)
      cases hf : fcut sep s with
      | nil => rw [hf] at this; simp at this
      | cons x r => rw [hf] at this; simpa using this
theorem lens_pick (p : Nat → Bool) (l : List Bs) (pk : Nat → List Bs → List Bs) (h0 : ∀ k, pk k [] = []) (h1 : ∀ k x r, pk k (x :: r) = if p (k + 1) then x :: pk (k + 1) r else pk (k + 1) r) : ∀ k, Lib.lens (pk k l) ≤ Lib.lens l := by
  induction l with
  | nil => intro k; rw [h0]; exact Nat.le_refl _
  | cons x r ih =>
    intro k
    have := ih (k + 1)
    rw [h1]
    split <;> simp [Lib.lens] at this ⊢ <;> omega
abbrev jn (sep : UInt8) (xs : List Bs) : Bs := Lib.join xs [sep]
theorem jn_snoc (sep : UInt8) (xs : List Bs) (x : Bs) : jn sep (xs ++ [x]) = if xs = [] then x else jn sep xs ++ [sep] ++ x := by
  cases xs with
  | nil => simp [jn, Lib.join_one]
  | cons y r => simp [jn, Lib.join_cons, Lib.joinTail]
theorem jn_len (sep : UInt8) (xs : List Bs) : (jn sep xs).length ≤ Lib.lens xs + xs.length := by
  cases xs with
  | nil => simp [jn, Lib.join_nil]
  | cons y r => rw [jn, Lib.join_length]; simp; omega
theorem fcut_go {sep : UInt8} {l : Bs} {pre : List Bs} {from' i : Nat} (h : fcut sep l = pre ++ fcut sep (l.drop from')) (hfi : from' ≤ i) (hil : i < l.length) (hcl : ∀ c ∈ (l.drop from').take (i - from'), c ≠ sep) (hp : l[i] = sep) :
    fcut sep l = (pre ++ [(l.drop from').take (i - from')]) ++ fcut sep (l.drop (i + 1)) := by
  have e : l.drop from' = (l.drop from').take (i - from') ++ sep :: l.drop (i + 1) := by
    have h1 := (List.take_append_drop (i - from') (l.drop from')).symm
    rwa [List.drop_drop, show from' + (i - from') = i by omega, List.drop_eq_getElem_cons hil, hp] at h1
  rw [h, e, fcut_hit _ _ _ hcl, ← e]
  simp
theorem take_more {sep : UInt8} {l : Bs} {from' i : Nat} (hfi : from' ≤ i) (hil : i < l.length) (hcl : ∀ c ∈ (l.drop from').take (i - from'), c ≠ sep) (hp : l[i] ≠ sep) : ∀ c ∈ (l.drop from').take (i + 1 - from'), c ≠ sep := by
  intro c hc
  rw [show i + 1 - from' = (i - from') + 1 by omega, List.take_add_one] at hc
  rcases List.mem_append.1 hc with hc | hc
  · exact hcl c hc
  · rw [List.getElem?_drop, show from' + (i - from') = i by omega, List.getElem?_eq_getElem hil] at hc
    simp at hc
    subst hc
    exact hp
theorem fcut_end {sep : UInt8} {l : Bs} {pre : List Bs} {from' : Nat} (h : fcut sep l = pre ++ fcut sep (l.drop from')) (hcl : ∀ c ∈ (l.drop from').take (l.length - from'), c ≠ sep) : fcut sep l = pre ++ [l.drop from'] := by
  rw [List.take_of_length_le (by simp)] at hcl
  rw [h, fcut_clean _ _ hcl]
theorem indexByte_neg {l : Bs} {c : UInt8} (h : c ∉ l) : Lib.indexByte l c = -1 := by
  induction l with
  | nil => rfl
  | cons b l ih =>
    have h1 : ¬ b = c := fun e => h (by simp [e])
    have h2 := ih (fun hc => h (by simp [hc]))
    simp [Lib.indexByte, h1, h2]
theorem indexByte_pos {l : Bs} {c : UInt8} (h : c ∈ l) : 0 ≤ Lib.indexByte l c := by
  have h1 := Lib.indexByte_ge l c
  rcases Int.lt_or_le (Lib.indexByte l c) 0 with h2 | h2
  · exfalso
    have h3 := Lib.indexByte_none (show Lib.indexByte l c = -1 by omega)
    obtain ⟨k, hk, e⟩ := List.mem_iff_getElem.1 h
    exact h3 k (by rw [List.getElem?_eq_getElem hk, e])
  · exact h2
end Go.Proofs.YtpfdjnnnemkoiabDoor.Cu
