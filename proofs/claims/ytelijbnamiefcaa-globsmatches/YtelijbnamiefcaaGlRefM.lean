/- What the document's Match answers, in plain words: row by row. -/
import Derived.Test.YtelijbnamiefcaaGlRefW
namespace Go.Proofs.Ytelijbnamiefcaa.Gl
open Go.RowKit

theorem mt_snoc_star (ts : List Th) {t : Th} (ht : t.star = true) (n : Bs) : mt (ts ++ [t]) n = true ↔ ∃ i, i ≤ n.length ∧ mt ts (n.take i) = true := by
  have hall : ∀ m, mt [t] m = true := by
    intro m
    induction m with
    | nil => rw [mt_star_nil ht]; rfl
    | cons c m ih => rw [mt_star_cons ht, ih, Bool.or_true]
  rw [mt_app]
  constructor
  · rintro ⟨i, hi, h, _⟩; exact ⟨i, hi, h⟩
  · rintro ⟨i, hi, h⟩; exact ⟨i, hi, h, hall _⟩
/-- a row's next one: behind a star -/
theorem row_star (ts : List Th) {t : Th} (ht : t.star = true) (n : Bs) (i : Nat) (hi : i ≤ n.length) : mt (ts ++ [t]) (n.take i) = (mt ts (n.take i) || (match i with
    | 0 => false
    | j + 1 => mt (ts ++ [t]) (n.take j))) := by
  rw [Bool.eq_iff_iff, mt_snoc_star ts ht, Bool.or_eq_true]
  constructor
  · rintro ⟨j, hj, h⟩
    rw [List.length_take, Nat.min_eq_left hi] at hj
    rw [List.take_take, Nat.min_eq_left hj] at h
    by_cases e : j = i
    · left; rw [← e]; exact h
    · right
      cases i with
      | zero => omega
      | succ i =>
        simp only []
        rw [mt_snoc_star ts ht]
        exact ⟨j, by rw [List.length_take]; omega, by rw [List.take_take, Nat.min_eq_left (by omega)]; exact h⟩
  · rintro (h | h)
    · exact ⟨i, by rw [List.length_take]; omega, by rw [List.take_take, Nat.min_self]; exact h⟩
    · cases i with
      | zero => cases h
      | succ i =>
        simp only [] at h
        rw [mt_snoc_star ts ht] at h
        obtain ⟨j, hj, h⟩ := h
        rw [List.length_take] at hj
        rw [List.take_take, Nat.min_eq_left (by omega)] at h
        exact ⟨j, by rw [List.length_take]; omega, by rw [List.take_take, Nat.min_eq_left (by omega)]; exact h⟩
/-- a row's next one: behind one byte -/
theorem row_one (ts : List Th) {t : Th} (ht : t.star = false) (n : Bs) (i : Nat) (hi : i ≤ n.length) : mt (ts ++ [t]) (n.take i) = (match i with
    | 0 => false
    | j + 1 => mt ts (n.take j) && t.p (n.getD j 0)) := by
  rw [Bool.eq_iff_iff, mt_app]
  cases i with
  | zero =>
    simp only []
    constructor
    · rintro ⟨j, _, _, h⟩
      rw [List.take_zero, List.drop_nil, mt_one_nil ht] at h; cases h
    · intro h; cases h
  | succ i =>
    simp only [Bool.and_eq_true]
    have hg : n[i]? = some (n.getD i 0) := by rw [List.getElem?_eq_getElem (by omega)]; simp [List.getD, List.getElem?_eq_getElem (show i < n.length by omega)]
    have hsn : n.take (i + 1) = n.take i ++ [n.getD i 0] := take_snoc n i _ hg
    have hl : (n.take i).length = i := by rw [List.length_take]; omega
    constructor
    · rintro ⟨j, hj, h1, h2⟩
      rw [hsn] at h1 h2 hj
      have hj2 : j ≤ i + 1 := by rw [List.length_append, hl] at hj; simpa using hj
      by_cases e : j = i
      · subst e
        rw [List.take_append_of_le_length (by omega), List.take_of_length_le (by omega)] at h1
        rw [List.drop_append_of_le_length (by omega), List.drop_eq_nil_of_le (by omega), List.nil_append, mt_one_cons ht, Bool.and_eq_true] at h2
        exact ⟨h1, h2.1⟩
      · by_cases e2 : j = i + 1
        · rw [List.drop_eq_nil_of_le (by rw [List.length_append, hl]; simp; omega), mt_one_nil ht] at h2; cases h2
        · exfalso
          have hd : ((n.take i ++ [n.getD i 0]).drop j).length = i + 1 - j := by rw [List.length_drop, List.length_append, hl]; rfl
          cases hx : (n.take i ++ [n.getD i 0]).drop j with
          | nil => rw [hx] at hd; simp at hd; omega
          | cons a r =>
            rw [hx] at h2 hd
            rw [mt_one_cons ht, Bool.and_eq_true] at h2
            cases r with
            | nil => simp at hd; omega
            | cons b r => simp [mt] at h2
    · rintro ⟨h1, h2⟩
      refine ⟨i, by rw [hsn, List.length_append, hl]; omega, ?_, ?_⟩
      · rw [hsn, List.take_append_of_le_length (by omega), List.take_of_length_le (by omega)]; exact h1
      · rw [hsn, List.drop_append_of_le_length (by omega), List.drop_eq_nil_of_le (by omega), List.nil_append, mt_one_cons ht, h2]; rfl
/-! ### rows of truths in memory -/
def bv (m : Nat) (f : Nat → Bool) : Array Value := ((List.range m).map fun i => Value.bool (f i)).toArray
theorem bv_size (m : Nat) (f : Nat → Bool) : (bv m f).size = m := by simp [bv]
theorem bv_get (m : Nat) (f : Nat → Bool) (i : Nat) (h : i < m) : (bv m f)[i]? = some (.bool (f i)) := by simp [bv, h]
theorem bv_set (m : Nat) (f : Nat → Bool) (k : Nat) (x : Bool) : (bv m f).setIfInBounds k (.bool x) = bv m (fun i => if i = k then x else f i) := by
  apply Array.ext_getElem?
  intro i
  by_cases hi : i < m
  · rw [bv_get _ _ i hi, Array.getElem?_setIfInBounds]
    by_cases h : k = i
    · rw [if_pos h, if_pos (by rw [bv_size]; omega), if_pos h.symm]
    · rw [if_neg h, bv_get m f i hi, if_neg (fun e => h e.symm)]
  · rw [Array.getElem?_eq_none (by rw [Array.size_setIfInBounds, bv_size]; omega), Array.getElem?_eq_none (by rw [bv_size]; omega)]
def Bl (w : World) (g m : Nat) (f : Nat → Bool) : Prop := w.heap[g]? = some (.cells (bv m f) 4 (0, 0))
theorem Bl.cell {w : World} {g m : Nat} {f : Nat → Bool} (h : Bl w g m f) (i : Nat) (hi : i < m) : w.cell? ⟨g, i, none⟩ = some (.bool (f i)) := by
  rw [cell_of_row _ _ _ _ _ _ h, bv_get _ _ _ hi]
theorem Bl.frozen {w : World} {g m : Nat} {f : Nat → Bool} (h : Bl w g m f) (i : Nat) : w.frozen? ⟨g, i, none⟩ = false := by
  unfold Bl at h
  simp [World.frozen?, h]
theorem Bl.lt {w : World} {g m : Nat} {f : Nat → Bool} (h : Bl w g m f) : g < w.heap.size := (Array.getElem?_eq_some_iff.1 h).1
theorem Bl.set {w : World} {g m : Nat} {f : Nat → Bool} (h : Bl w g m f) (k : Nat) (x : Bool) : Bl (w.setCell ⟨g, k, none⟩ (.bool x)) g m (fun i => if i = k then x else f i) := by
  unfold Bl
  rw [heap_setCell_same _ _ _ _ _ _ h, bv_set]
theorem Bl.other {w : World} {g m : Nat} {f : Nat → Bool} (h : Bl w g m f) (a : Addr) (v : Value) (hne : g ≠ a.block) : Bl (w.setCell a v) g m f := by
  unfold Bl
  rw [heap_setCell_other _ _ _ _ hne]; exact h
theorem Bl.below {w w' : World} {g m : Nat} {f : Nat → Bool} (h : Bl w g m f) (hb : Below w.heap.size w w') : Bl w' g m f := (hb.block g h.lt).trans h
theorem Bl.eq {w : World} {g m : Nat} {f f' : Nat → Bool} (h : Bl w g m f) (e : ∀ i, f i = f' i) : Bl w g m f' := by rw [← funext e]; exact h
theorem Try.infoBl : (Try.prog.info? 4).map (fun i => (i.zero, i.size, i.bytes)) = some (some (.bool false), 1, 1) := by kernel_rfl
theorem bl_of_own {w : World} {B g m : Nat} (h : w.ownsRow B 4 1 (.slice (some ⟨g, 0, none⟩) m m) m (List.replicate m (.bool false))) : Bl w g m (fun _ => false) := by
  rcases h.2 with ⟨h1, _⟩ | ⟨g', cap, cur, hv, _, hg, _, _, h3, h4⟩
  · cases h1
  · simp at hv
    obtain ⟨rfl, rfl⟩ := hv
    rw [List.take_of_length_le (by rw [Array.length_toList, h3]; exact Nat.le_refl _)] at h4
    have e : List.replicate m (Value.bool false) = (bv m (fun _ => false)).toList := by
      unfold bv
      apply List.ext_getElem?
      intro i
      by_cases hi : i < m
      · simp [hi]
      · simp [hi]
    have : cur = bv m (fun _ => false) := Array.toList_inj.1 (h4.trans e)
    rw [this] at hg
    exact hg
theorem rtc_get (us : List Th) (i : Nat) (t : Th) (h : us[i]? = some t) (j : Nat) (hj : j < 257) : (rtc us)[i * 257 + j]? = (rcs t.star t.p)[j]? := by
  induction us generalizing i with
  | nil => simp at h
  | cons r l ih =>
    have e : rtc (r :: l) = (rcs r.star r.p).toList ++ rtc l := by simp [rtc]
    have hsz : (rcs r.star r.p).toList.length = 257 := by rw [Array.length_toList, rcs_size]
    cases i with
    | zero =>
      simp at h; subst h
      rw [e, Nat.zero_mul, Nat.zero_add, List.getElem?_append_left (by omega)]
      simp
    | succ i =>
      rw [e, List.getElem?_append_right (by omega), hsz, show (i + 1) * 257 + j - 257 = i * 257 + j by omega]
      exact ih i (by simpa using h)
end Go.Proofs.Ytelijbnamiefcaa.Gl
