/- Plain facts for the document's own answers: numbers cut byte by byte, fields joined one by one, texts compared. -/
import Derived.Test.YtmpppdbomdepoaaGreatDoorKySpan
import Derived.Laws.Cover1
namespace Go.Proofs.YtmpppdbomdepoaaGreatDoor.Ky
open Go.RowKit

/-! ### texts compared -/
theorem less_eq : ∀ a b : Bs, Op.bytesLess a b = decide (cmpL a b = -1)
  | [], [] => rfl
  | [], _ :: _ => rfl
  | _ :: _, [] => rfl
  | a :: s, b :: t => by
    have i := less_eq s t
    simp only [Op.bytesLess, cmpL]
    by_cases h1 : a < b
    · simp [h1]
    · by_cases h2 : b < a
      · have : a ≠ b := fun e => h1 (by rw [e] at h2 ⊢; exact h2)
        simp [h1, h2, this]
      · have : a = b := UInt8.toNat_inj.1 (by rw [UInt8.lt_iff_toNat_lt] at h1 h2; omega)
        subst this
        simp [i]
theorem cmpL_zero : ∀ a b : Bs, cmpL a b = 0 ↔ a = b
  | [], [] => by simp [cmpL]
  | [], _ :: _ => by simp [cmpL]
  | _ :: _, [] => by simp [cmpL]
  | a :: s, b :: t => by
    have i := cmpL_zero s t
    simp only [cmpL]
    by_cases h1 : a < b
    · have : a ≠ b := fun e => by subst e; rw [UInt8.lt_iff_toNat_lt] at h1; omega
      simp [h1, this]
    · by_cases h2 : b < a
      · have : a ≠ b := fun e => by subst e; rw [UInt8.lt_iff_toNat_lt] at h2; omega
        simp [h1, h2, this]
      · have : a = b := UInt8.toNat_inj.1 (by rw [UInt8.lt_iff_toNat_lt] at h1 h2; omega)
        subst this
        simp [h1, i]

/-! ### noughts -/
theorem noughts_step (r : Bs) : noughts (48 :: r) = noughts r := rfl
theorem noughts_stop {c : UInt8} (r : Bs) (h : c ≠ 48) : noughts (c :: r) = c :: r := by simp [noughts, h]
theorem behind_step (l : Bs) : behind (l ++ [48]) = behind l := by simp [behind]
theorem behind_stop {c : UInt8} (l : Bs) (h : c ≠ 48) : behind (l ++ [c]) = l ++ [c] := by simp [behind, h]

/-! ### joining one by one -/
theorem lead_join (b : Bs) : ∀ l : List Bs, l ≠ [] → lead b l = join b l ++ b
  | [], h => absurd rfl h
  | [x], _ => by simp [lead, join]
  | x :: y :: l, _ => by
    have := lead_join b (y :: l) (by simp)
    simp only [lead, List.flatMap_cons, join] at this ⊢
    rw [this]; simp
theorem join_snoc (b : Bs) (l : List Bs) (x : Bs) : join b (l ++ [x]) = (if l = [] then [] else join b l ++ b) ++ x := by
  by_cases h : l = []
  · subst h; simp [join]
  · rw [join_app b l [x] (by simp), lead_join b l h, if_neg h]; simp [join]
theorem join_more (b : Bs) (L : List Bs) (k : Nat) (h : k < L.length) : join b (L.take (k + 1)) = (if k = 0 then [] else join b (L.take k) ++ b) ++ L[k] := by
  rw [List.take_succ_eq_append_getElem h, join_snoc]
  congr 1
  by_cases h0 : k = 0
  · subst h0; simp
  · rw [if_neg h0, if_neg]
    intro e
    have := congrArg List.length e
    rw [List.length_take, List.length_nil] at this; omega

/-! ### the fields by blanks, from a place on -/
theorem partsOf_at (l : Bs) (a : Nat) (h : a < l.length) : ∃ c r, l.drop a = c :: r := ⟨_, _, List.drop_eq_getElem_cons h⟩
end Go.Proofs.YtmpppdbomdepoaaGreatDoor.Ky
