/- What the two functions that read a number answer, as values: facts on lists and bytes alone, no walk. -/
import Derived.Test.YtebnmjelelkcmabPlain
import Derived.WalkKit
import Derived.Lib.Strings
namespace Go.Proofs.Ytebnmjelelkcmab.NumWalks
open Go.RowKit Plain

theorem hide {p : Prop} (h : p) : Hid p := h
theorem unhide {p : Prop} (h : Hid p) : p := h.out

/-- the answer for the digits d, under the sign sg -/
def ans (sg : Int) (d : ByteArray) : Value := .tuple #[.int .i64 (if d.data.toList.all dig then sg * nval d.data.toList else 0), .bool (d.data.toList.all dig)]

theorem fin_no (sg : Int) (d : ByteArray) (h : d.data.toList.all dig = false) : Ending.returned (.tuple #[.int .i64 0, .bool false]) = .returned (ans sg d) := by
  unfold ans; rw [h]; rfl
theorem fin_yes (sg v : Int) (d : ByteArray) (h : d.data.toList.all dig = true) (hv : v = sg * nval d.data.toList) : Ending.returned (.tuple #[.int .i64 v, .bool true]) = .returned (ans sg d) := by
  unfold ans; rw [h, hv]; rfl

theorem step (d : ByteArray) (k : Nat) (h : k < d.size) (ha : (d.data.toList.take k).all dig = true) (h1 : 48 ≤ (d[k].toNat : Int)) (h2 : (d[k].toNat : Int) ≤ 57) :
    (d.data.toList.take (k + 1)).all dig = true ∧ nval (d.data.toList.take (k + 1)) = nval (d.data.toList.take k) * 10 + ((d[k].toNat : Int) - 48) := by
  have hk : k < d.data.toList.length := by simpa using h
  have e : d.data.toList[k] = d[k] := rfl
  rw [take_snoc _ _ hk, nval_snoc, e]
  refine ⟨?_, rfl⟩
  rw [List.all_append, ha]
  simp [dig]
  omega

theorem stop (d : ByteArray) (k : Nat) (h : k < d.size) (h1 : ¬ (48 ≤ (d[k].toNat : Int) ∧ (d[k].toNat : Int) ≤ 57)) : d.data.toList.all dig = false := by
  rw [List.all_eq_false]
  refine ⟨d[k], ?_, ?_⟩
  · exact List.getElem_mem (l := d.data.toList) (n := k) (by simpa using h)
  · simp [dig]
    omega

theorem done (d : ByteArray) (k : Nat) (h : d.size ≤ k) : d.data.toList.take k = d.data.toList := by
  apply List.take_of_length_le; simpa using h

theorem toList_ne (s : ByteArray) (h : 0 < s.size) : s.toList.isEmpty = false := by
  rw [ByteArray.toList_eq]
  have h2 : s.data.toList.length = s.size := rfl
  cases e : s.data.toList with
  | nil => rw [e] at h2; simp at h2; omega
  | cons a l => rfl

theorem toList_nil (s : ByteArray) (h : s.size = 0) : s.toList = [] := by
  rw [ByteArray.toList_eq]
  exact List.eq_nil_of_length_eq_zero h

theorem cons_head_tail (l : List UInt8) (h : 0 < l.length) : l = l[0] :: l.drop 1 := by
  cases l with
  | nil => simp at h
  | cons a t => simp

/-! ### both, at every word -/
def numAns (s : ByteArray) : Value := .tuple #[.int .i64 (numV s.data.toList), .bool (numB s.data.toList)]

theorem list_cons (s : ByteArray) (h : 0 < s.size) : s.data.toList = s[0] :: (s.extract 1 s.size).data.toList := by
  have e : s.data.toList.length = s.size := rfl
  have e2 : (s.extract 1 s.size).data.toList = s.data.toList.drop 1 := by
    rw [Lib.extract_data, ← e]
    exact List.take_of_length_le (by simp)
  rw [e2]
  have h0 : s[0] = s.data.toList[0]'(by omega) := rfl
  rw [h0]
  exact cons_head_tail _ (by omega)

theorem numAns_no (s : ByteArray) (h : okD (digs s.data.toList) = false) : numAns s = .tuple #[.int .i64 0, .bool false] := by
  simp [numAns, numV, numB, h]

theorem numAns_plain (s : ByteArray) (h : 0 < s.size) (h18 : s.size ≤ 18) (h1 : ((s[0].toNat : Int) == 45) = false) (h2 : ((s[0].toNat : Int) == 43) = false) : numAns s = ans 1 s := by
  have e : s.data.toList.length = s.size := rfl
  have hd : digs s.data.toList = s.data.toList := by
    rw [list_cons s h]; simp [digs]; simp at h1 h2; omega
  have hn : neg s.data.toList = false := by
    rw [list_cons s h]; simp [neg]; simp at h1; omega
  have ho : okD s.data.toList = s.data.toList.all dig := by
    unfold okD; rw [e]; simp [show 1 ≤ s.size from h, h18]
  simp only [numAns, ans, numV, numB, hd, hn, ho]
  cases s.data.toList.all dig <;> simp

theorem numAns_sign (s : ByteArray) (h : 2 ≤ s.size) (h18 : s.size ≤ 19) (sg : Int)
    (h1 : (sg = -1 ∧ ((s[0].toNat : Int) == 45) = true) ∨ (sg = 1 ∧ ((s[0].toNat : Int) == 45) = false ∧ ((s[0].toNat : Int) == 43) = true)) : numAns s = ans sg (s.extract 1 s.size) := by
  have e : (s.extract 1 s.size).data.toList.length = s.size - 1 := by
    have : (s.extract 1 s.size).data.toList.length = (s.extract 1 s.size).size := rfl
    rw [this]; simp
  have hd : digs s.data.toList = (s.extract 1 s.size).data.toList := by
    rw [list_cons s (by omega)]; simp [digs]; simp at h1; omega
  have hn : neg s.data.toList = decide (sg = -1) := by
    rw [list_cons s (by omega)]; simp [neg]; simp at h1; omega
  have ho : okD (s.extract 1 s.size).data.toList = (s.extract 1 s.size).data.toList.all dig := by
    unfold okD; rw [e]; simp [show 1 ≤ s.size - 1 from by omega, show s.size - 1 ≤ 18 from by omega]
  simp only [numAns, ans, numV, numB, hd, hn, ho]
  rcases h1 with ⟨rfl, _⟩ | ⟨rfl, _⟩ <;> cases (s.extract 1 s.size).data.toList.all dig <;> simp

theorem numAns_off (s : ByteArray) (h : 18 < s.size) (h1 : ((s[0].toNat : Int) == 45) = false) (h2 : ((s[0].toNat : Int) == 43) = false) : numAns s = .tuple #[.int .i64 0, .bool false] := by
  apply numAns_no
  have e : s.data.toList.length = s.size := rfl
  have hd : digs s.data.toList = s.data.toList := by
    rw [list_cons s (by omega)]; simp [digs]; simp at h1 h2; omega
  rw [hd]; unfold okD; rw [e]; simp; omega

theorem numAns_off_sign (s : ByteArray) (h0 : 0 < s.size) (h : s.size < 2 ∨ 19 < s.size) (h1 : ((s[0].toNat : Int) == 45) = true ∨ ((s[0].toNat : Int) == 43) = true) : numAns s = .tuple #[.int .i64 0, .bool false] := by
  apply numAns_no
  have e : (s.extract 1 s.size).data.toList.length = s.size - 1 := by
    have : (s.extract 1 s.size).data.toList.length = (s.extract 1 s.size).size := rfl
    rw [this]; simp
  have hd : digs s.data.toList = (s.extract 1 s.size).data.toList := by
    rw [list_cons s (by omega)]; simp [digs]; simp at h1; omega
  rw [hd]; unfold okD; rw [e]; simp; omega

theorem numAns_nil (s : ByteArray) (h : s.size = 0) : numAns s = .tuple #[.int .i64 0, .bool false] := by
  apply numAns_no
  have : s.data.toList = [] := List.eq_nil_of_length_eq_zero h
  rw [this]; rfl

end Go.Proofs.Ytebnmjelelkcmab.NumWalks
