/- Heaps in plain words: a list whose places are each not behind the two below them; what sinking and rising keep; the first one comes ahead of all. -/
import Derived.Test.YtmpppdbomdepoaaGreatDoorSoPlain
namespace Go.Proofs.YtmpppdbomdepoaaGreatDoor.So
open Go.RowKit Ky

variable {α : Type}

/-- two places of a list change what they hold -/
def swp (d : α) (l : List α) (i j : Nat) : List α := (l.set i (l.getD j d)).set j (l.getD i d)
theorem swp_len (d : α) (l : List α) (i j : Nat) : (swp d l i j).length = l.length := by simp [swp]
theorem swp_at (d : α) (l : List α) (i j k : Nat) (hi : i < l.length) (hj : j < l.length) : (swp d l i j).getD k d = if k = j then l.getD i d else if k = i then l.getD j d else l.getD k d := by
  unfold swp
  by_cases h1 : k = j
  · subst h1
    rw [if_pos rfl, List.getD_eq_getElem?_getD, List.getElem?_set_self (by simpa using hj)]; rfl
  · rw [if_neg h1, List.getD_eq_getElem?_getD, List.getElem?_set_ne (Ne.symm h1)]
    by_cases h2 : k = i
    · subst h2
      rw [if_pos rfl, List.getElem?_set_self hi]; rfl
    · rw [if_neg h2, List.getElem?_set_ne (Ne.symm h2), ← List.getD_eq_getElem?_getD]
theorem getD_get (d : α) (l : List α) {i : Nat} (hi : i < l.length) : l.getD i d = l[i] := by
  rw [List.getD_eq_getElem?_getD, List.getElem?_eq_getElem hi]; rfl
theorem swp_perm (d : α) (l : List α) {i j : Nat} (hi : i < l.length) (hj : j < l.length) : (swp d l i j).Perm l := by
  unfold swp
  rw [getD_get d l hi, getD_get d l hj]
  exact List.set_set_perm hi hj
theorem swp_take (d : α) (l : List α) {i j n : Nat} (hi : i < n) (hj : j < n) : (swp d l i j).drop n = l.drop n := by
  unfold swp
  rw [List.drop_set_of_lt hj, List.drop_set_of_lt hi]

/-- below: j stands right below i -/
def Kid (i j : Nat) : Prop := j = 2 * i + 1 ∨ j = 2 * i + 2
/-- a heap from place k on, of the first n -/
def Hp (c : α → α → Int) (d : α) (l : List α) (k n : Nat) : Prop := ∀ i j, k ≤ i → Kid i j → j < n → c (l.getD i d) (l.getD j d) ≤ 0
/-- but for place x, which may be behind those below it -/
def Hx (c : α → α → Int) (d : α) (l : List α) (k n x : Nat) : Prop :=
  (∀ i j, k ≤ i → i ≠ x → Kid i j → j < n → c (l.getD i d) (l.getD j d) ≤ 0) ∧
  (∀ i j, k ≤ i → Kid i x → Kid x j → j < n → c (l.getD i d) (l.getD j d) ≤ 0)
/-- but for place x, which may come ahead of the one above it -/
def Ux (c : α → α → Int) (d : α) (l : List α) (n x : Nat) : Prop :=
  (∀ i j, j ≠ x → Kid i j → j < n → c (l.getD i d) (l.getD j d) ≤ 0) ∧
  (∀ i j, Kid i x → Kid x j → j < n → c (l.getD i d) (l.getD j d) ≤ 0)

theorem hx_of (c : α → α → Int) (d : α) (l : List α) (x n : Nat) (h : Hp c d l (x + 1) n) : Hx c d l x n x :=
  ⟨fun i j hk hne hc hj => h i j (by omega) hc hj, fun i j hk h1 h2 hj => by unfold Kid at h1; omega⟩
theorem hx_end (c : α → α → Int) (d : α) (l : List α) (k x n : Nat) (h : Hx c d l k n x) (he : ∀ j, Kid x j → j < n → c (l.getD x d) (l.getD j d) ≤ 0) : Hp c d l k n := by
  intro i j hk hc hj
  by_cases e : i = x
  · subst e; exact he j hc hj
  · exact h.1 i j hk e hc hj
/-- sinking, a step: y is the one below x that comes ahead -/
theorem hx_step {c : α → α → Int} (d : α) (l : List α) (k x y n : Nat) (h : Hx c d l k n x) (hx : k ≤ x) (hn : n ≤ l.length) (hy : Kid x y) (hyn : y < n)
    (hm : ∀ j, Kid x j → j < n → c (l.getD y d) (l.getD j d) ≤ 0) (hl : c (l.getD y d) (l.getD x d) < 0) : Hx c d (swp d l x y) k n y := by
  have hxy : x < y := by unfold Kid at hy; omega
  have hxl : x < l.length := by omega
  have hyl : y < l.length := by omega
  refine ⟨fun i j hk hne hc hj => ?_, fun i j hk h1 h2 hj => ?_⟩
  · rw [swp_at d l x y i hxl hyl, swp_at d l x y j hxl hyl]
    by_cases e1 : i = x
    · subst e1
      rw [if_neg (by omega : ¬ i = y), if_pos rfl]
      by_cases e2 : j = y
      · rw [if_pos e2]; omega
      · rw [if_neg e2, if_neg (by unfold Kid at hc; omega)]
        exact hm j hc hj
    · rw [if_neg hne, if_neg e1]
      by_cases e2 : j = y
      · exfalso; unfold Kid at hc hy; omega
      · rw [if_neg e2]
        by_cases e3 : j = x
        · subst e3
          rw [if_pos rfl]
          exact h.2 i y hk hc hy hyn
        · rw [if_neg e3]; exact h.1 i j hk e1 hc hj
  · have e1 : i = x := by unfold Kid at h1 hy; omega
    subst e1
    rw [swp_at d l i y i hxl hyl, swp_at d l i y j hxl hyl, if_neg (by omega : ¬ i = y), if_pos rfl, if_neg (by unfold Kid at h2; omega), if_neg (by unfold Kid at h2; omega)]
    exact h.1 y j (by omega) (by omega) h2 hj
theorem ux_of (c : α → α → Int) (d : α) (l : List α) (x : α) (h : Hp c d l 0 l.length) : Ux c d (l ++ [x]) (l.length + 1) l.length := by
  refine ⟨fun i j hne hc hj => ?_, fun i j h1 h2 hj => ?_⟩
  · have hj' : j < l.length := by omega
    have hi' : i < l.length := by unfold Kid at hc; omega
    have e1 : (l ++ [x]).getD i d = l.getD i d := by rw [List.getD_eq_getElem?_getD, List.getElem?_append_left hi', ← List.getD_eq_getElem?_getD]
    have e2 : (l ++ [x]).getD j d = l.getD j d := by rw [List.getD_eq_getElem?_getD, List.getElem?_append_left hj', ← List.getD_eq_getElem?_getD]
    rw [e1, e2]; exact h i j (Nat.zero_le _) hc hj'
  · unfold Kid at h2; omega
theorem ux_end {c : α → α → Int} (d : α) (l : List α) (x n : Nat) (h : Ux c d l n x) (he : ∀ i, Kid i x → c (l.getD i d) (l.getD x d) ≤ 0) : Hp c d l 0 n := by
  intro i j _ hc hj
  by_cases e : j = x
  · subst e; exact he i hc
  · exact h.1 i j e hc hj
/-- rising, a step -/
theorem ux_step {c : α → α → Int} (g : Ky.Good c) (d : α) (l : List α) (x y n : Nat) (h : Ux c d l n x) (hn : n ≤ l.length) (hx : x < n) (hy : Kid y x)
    (hl : c (l.getD x d) (l.getD y d) < 0) : Ux c d (swp d l y x) n y := by
  have hxy : y < x := by unfold Kid at hy; omega
  have hxl : x < l.length := by omega
  have hyl : y < l.length := by omega
  refine ⟨fun i j hne hc hj => ?_, fun i j h1 h2 hj => ?_⟩
  · rw [swp_at d l y x i hyl hxl, swp_at d l y x j hyl hxl]
    by_cases e1 : i = x
    · subst e1
      rw [if_pos rfl, if_neg (by unfold Kid at hc; omega), if_neg (by unfold Kid at hc; omega)]
      exact h.2 y j hy hc hj
    · rw [if_neg e1]
      by_cases e2 : i = y
      · subst e2
        rw [if_pos rfl]
        by_cases e3 : j = x
        · rw [if_pos e3]; omega
        · rw [if_neg e3, if_neg (by unfold Kid at hc; omega)]
          have := h.1 i j e3 hc hj
          exact g.tr _ _ _ (by omega) this
      · rw [if_neg e2]
        by_cases e3 : j = x
        · exfalso; unfold Kid at hc hy; omega
        · rw [if_neg e3]
          rw [if_neg hne]
          exact h.1 i j e3 hc hj
  · have hyn : y ≠ x := by omega
    have q1 : c (l.getD i d) (l.getD y d) ≤ 0 := h.1 i y hyn h1 (by omega)
    have hiy : i < y := by unfold Kid at h1; omega
    rw [swp_at d l y x i hyl hxl, swp_at d l y x j hyl hxl, if_neg (by omega : ¬ i = x), if_neg (by omega : ¬ i = y)]
    by_cases e3 : j = x
    · rw [if_pos e3]; exact q1
    · rw [if_neg e3, if_neg (by unfold Kid at h2; omega)]
      exact g.tr _ _ _ q1 (h.1 y j e3 h2 hj)
/-- the first one comes ahead of all -/
theorem hp_top {c : α → α → Int} (g : Ky.Good c) (d : α) (l : List α) (n : Nat) (h : Hp c d l 0 n) : ∀ i, i < n → c (l.getD 0 d) (l.getD i d) ≤ 0 := by
  intro i
  induction i using Nat.strongRecOn with
  | ind i ih =>
    intro hi
    by_cases e : i = 0
    · subst e; exact Int.le_of_eq (g.self _)
    · have q := ih ((i - 1) / 2) (by omega) (by omega)
      exact g.tr _ _ _ q (h ((i - 1) / 2) i (Nat.zero_le _) (by unfold Kid; omega) hi)
theorem hp_less (c : α → α → Int) (d : α) (l : List α) {k n m : Nat} (h : Hp c d l k n) (hm : m ≤ n) : Hp c d l k m := fun i j hk hc hj => h i j hk hc (by omega)
theorem hp_half (c : α → α → Int) (d : α) (l : List α) (n : Nat) : Hp c d l (n / 2) n := fun i j hk hc hj => by unfold Kid at hc; omega
/-- only what stands among the first n counts -/
theorem hp_take (c : α → α → Int) (d : α) (l : List α) {k n : Nat} (h : Hp c d l k n) : Hp c d (l.take n) k n := by
  intro i j hk hc hj
  have hi : i < n := by unfold Kid at hc; omega
  have e1 : (l.take n).getD i d = l.getD i d := by rw [List.getD_eq_getElem?_getD, List.getElem?_take_of_lt hi, ← List.getD_eq_getElem?_getD]
  have e2 : (l.take n).getD j d = l.getD j d := by rw [List.getD_eq_getElem?_getD, List.getElem?_take_of_lt hj, ← List.getD_eq_getElem?_getD]
  rw [e1, e2]; exact h i j hk hc hj
/-- the first and the last one change places: a heap but for its top -/
theorem hx_pop (c : α → α → Int) (d : α) (l : List α) (m : Nat) (hm : m + 1 = l.length) (h : Hp c d l 0 (m + 1)) : Hx c d (swp d l 0 m) 0 m 0 := by
  refine ⟨fun i j hk hne hc hj => ?_, fun i j hk h1 _ _ => by unfold Kid at h1; omega⟩
  have hi : i < m := by unfold Kid at hc; omega
  rw [swp_at d l 0 m i (by omega) (by omega), swp_at d l 0 m j (by omega) (by omega), if_neg (by omega), if_neg hne, if_neg (by omega), if_neg (by unfold Kid at hc; omega)]
  exact h i j hk hc (by omega)
end Go.Proofs.YtmpppdbomdepoaaGreatDoor.So
