/- What the document's Of answers. -/
import Derived.Test.YtmaenfcnkcaojaaDoorKyRefNum
import Derived.Test.YtmaenfcnkcaojaaDoorLnRefSplit
namespace Go.Proofs.YtmaenfcnkcaojaaDoor.Ky
open Go.RowKit Go.Shelf

attribute [local go_sem] Oper.semAt_some

/-! ### a number, byte by byte -/
def isAt (l : Bs) (a : Nat) (c : UInt8) : Bool := decide (l[a]? = some c)
theorem cut1_at (c : UInt8) (l : Bs) (a : Nat) : cut1 c (l.drop a) = (l.drop (if isAt l a c then a + 1 else a), isAt l a c) := by
  unfold isAt
  by_cases h : a < l.length
  · rw [List.drop_eq_getElem_cons h, List.getElem?_eq_getElem h]
    unfold cut1
    by_cases hc : l[a] = c
    · simp [hc]
    · simp only [if_neg hc, Option.some.injEq, decide_eq_false hc]
      rw [if_neg (by simp), List.drop_eq_getElem_cons h]
  · rw [List.getElem?_eq_none (by omega)]
    simp [List.drop_eq_nil_of_le (show l.length ≤ a by omega), cut1]
def at1 (s : Bs) : Nat := upto bl s 0
def at2 (s : Bs) : Nat := if isAt s (at1 s) 45 then at1 s + 1 else at1 s
def w0 (s : Bs) : Bs := (s.drop (at2 s)).takeWhile dg
def at3 (s : Bs) : Nat := at2 s + (w0 s).length
def p0 (s : Bs) : Bs := if isAt s (at3 s) 46 then (s.drop (at3 s + 1)).takeWhile dg else []
theorem of_eq (s : Bs) : decOf s = ⟨if noughts (w0 s) = [] ∧ behind (p0 s) = [] then 0 else if isAt s (at1 s) 45 then -1 else 1, noughts (w0 s), behind (p0 s)⟩ := by
  have e1 : s.dropWhile bl = s.drop (at1 s) := by have := upto_drop bl s 0; rw [List.drop_zero] at this; exact this.symm
  have e3 : (s.drop (at2 s)).dropWhile dg = s.drop (at3 s) := (upto_drop dg s (at2 s)).symm
  rw [dec_cut, e1, cut1_at]
  simp only
  have e2 : s.drop (if isAt s (at1 s) 45 = true then at1 s + 1 else at1 s) = s.drop (at2 s) := rfl
  rw [e2, unsigned_cut, e3, cut1_at]
  simp only
  have e4 : (if isAt s (at3 s) 46 = true then (s.drop (if isAt s (at3 s) 46 = true then at3 s + 1 else at3 s)).takeWhile dg else []) = p0 s := by
    unfold p0; split <;> rfl
  rw [e4]; rfl
theorem isAt_le {l : Bs} {a : Nat} {c : UInt8} (h : isAt l a c = true) : a < l.length := by
  unfold isAt at h
  simp only [decide_eq_true_eq] at h
  exact (List.getElem?_eq_some_iff.1 h).1
/-- three ways -/
theorem isAt_ways (s : ByteArray) (a : Nat) (c : UInt8) (d : Int) (hd : (c.toNat : Int) = d) : (isAt s.data.toList a c = true ∧ (a : Int) < s.size ∧ ∃ h : a < s.size, (s[a].toNat : Int) = d) ∨ (isAt s.data.toList a c = false ∧ ((a : Int) < s.size ∧ ∃ h : a < s.size, ¬ (s[a].toNat : Int) = d)) ∨ (isAt s.data.toList a c = false ∧ ¬ (a : Int) < s.size) := by
  subst hd
  unfold isAt
  by_cases h : a < s.size
  · have hl : a < s.data.toList.length := h
    have e : s.data.toList[a] = s[a] := rfl
    rw [List.getElem?_eq_getElem hl, e]
    by_cases hc : s[a] = c
    · exact .inl ⟨by simp [hc], by omega, h, by rw [hc]⟩
    · exact .inr (.inl ⟨by simp [hc], by omega, h, fun q => hc (UInt8.toNat_inj.1 (by omega))⟩)
  · have hl : ¬ a < s.data.toList.length := h
    exact .inr (.inr ⟨by rw [List.getElem?_eq_none (by omega)]; simp, by omega⟩)
theorem at_le (s : Bs) : at1 s ≤ s.length ∧ at2 s ≤ s.length ∧ at3 s ≤ s.length := by
  have h1 : at1 s ≤ s.length := (upto_le bl s 0 (Nat.zero_le _)).2
  have h2 : at2 s ≤ s.length := by
    unfold at2; split
    · rename_i h; exact isAt_le h
    · exact h1
  exact ⟨h1, h2, (upto_le dg s (at2 s) h2).2⟩

theorem noughts_ways (X : ByteArray) : (noughts X.data.toList = X.data.toList ∧ ((X.size : Int) = 0 ∨ ((0 : Int) < X.size ∧ ∃ h : 0 < X.size, ¬ (X[0].toNat : Int) = 48))) ∨ ((0 : Int) < X.size ∧ (∃ h : 0 < X.size, (X[0].toNat : Int) = 48) ∧ noughts (X.extract 1 X.size).data.toList = noughts X.data.toList) := by
  by_cases h : 0 < X.size
  · have hl : 0 < X.data.toList.length := h
    have e : X.data.toList = X[0] :: X.data.toList.drop 1 := List.drop_eq_getElem_cons (l := X.data.toList) (i := 0) hl
    have e2 : (X.extract 1 X.size).data.toList = X.data.toList.drop 1 := by rw [← Ln.bt_drop']; rfl
    by_cases hc : X[0] = 48
    · exact .inr ⟨by omega, ⟨h, by rw [hc]; rfl⟩, by have q := congrArg noughts e; rw [hc, noughts_step] at q; rw [e2, q]⟩
    · exact .inl ⟨by rw [e]; exact noughts_stop _ hc, .inr ⟨by omega, h, fun q => hc (UInt8.toNat_inj.1 (by rw [show (48 : UInt8).toNat = 48 from rfl]; omega))⟩⟩
  · have e : X.data.toList = [] := List.eq_nil_of_length_eq_zero (by have : X.data.toList.length = X.size := rfl; omega)
    exact .inl ⟨by rw [e]; rfl, .inl (by omega)⟩
theorem behind_ways (X : ByteArray) : (behind X.data.toList = X.data.toList ∧ ((X.size : Int) = 0 ∨ ((0 : Int) < X.size ∧ ∃ h : X.size - 1 < X.size, ¬ (X[X.size - 1].toNat : Int) = 48))) ∨ ((0 : Int) < X.size ∧ (∃ h : X.size - 1 < X.size, (X[X.size - 1].toNat : Int) = 48) ∧ behind (X.extract 0 (X.size - 1)).data.toList = behind X.data.toList) := by
  by_cases h : 0 < X.size
  · have h1 : X.size - 1 < X.size := by omega
    have hl : X.size - 1 < X.data.toList.length := h1
    have e : X.data.toList = X.data.toList.take (X.size - 1) ++ [X[X.size - 1]] := by
      have := List.take_succ_eq_append_getElem hl
      rw [List.take_of_length_le (by have : X.data.toList.length = X.size := rfl; omega)] at this
      exact this
    have e2 : (X.extract 0 (X.size - 1)).data.toList = X.data.toList.take (X.size - 1) := by
      have := Ln.bt_extract X 0 (X.size - 1)
      rw [this]; rfl
    by_cases hc : X[X.size - 1] = 48
    · exact .inr ⟨by omega, ⟨h1, by rw [hc]; rfl⟩, by rw [e2, ← behind_step, ← hc, ← e]⟩
    · exact .inl ⟨by rw [e]; exact behind_stop _ hc, .inr ⟨by omega, h1, fun q => hc (UInt8.toNat_inj.1 (by rw [show (48 : UInt8).toNat = 48 from rfl]; omega))⟩⟩
  · have e : X.data.toList = [] := List.eq_nil_of_length_eq_zero (by have : X.data.toList.length = X.size := rfl; omega)
    exact .inl ⟨by rw [e]; rfl, .inl (by omega)⟩
end Go.Proofs.YtmaenfcnkcaojaaDoor.Ky
