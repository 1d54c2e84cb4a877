/- Lines joined by their fields, in plain words. -/
import Derived.Test.YtjkajhnnoecjbaaDoorVwPasteP
set_option linter.unusedVariables false
namespace Go.Proofs.YtjkajhnnoecjbaaDoor.Vw
open Go.RowKit Cu

/-- a line: the field that it goes by, and the rest -/
abbrev Rw := Bs × Bs
/-- texts, something ahead of each -/
def led (b : Bs) : List Bs → Bs
  | [] => []
  | x :: r => b ++ x ++ led b r
theorem led_app (b : Bs) : ∀ (x y : List Bs), led b (x ++ y) = led b x ++ led b y
  | [], y => rfl
  | p :: x, y => by rw [List.cons_append, led, led_app b x y, led]; simp [List.append_assoc]
theorem beside_led (c : UInt8) : ∀ (i : Nat) (ps : List Bs), besideP [c] (i + 1) ps = led [c] ps
  | _, [] => rfl
  | i, p :: ps => by rw [besideP, beside_led c (i + 1) ps, led]; simp [sepAt, Nat.mod_one]
theorem beside_row (c : UInt8) (ps : List Bs) : besideP [c] 0 ([] :: ps) = led [c] ps := by
  rw [besideP, beside_led, sepAt_zero]; rfl
/-- a line by its n-th field -/
def rowP (n : Nat) (c : UInt8) (fs : List Bs) : Rw := (fs.getD (n - 1) [], led [c] (if n ≤ fs.length then fs.eraseIdx (n - 1) else fs))
/-- byte by byte at most -/
def le (a b : Bs) : Prop := ¬ b < a
/-- rows in order, each with the next one -/
def sortedP : List Rw → Bool
  | [] => true
  | [_] => true
  | x :: y :: r => decide (¬ y.1 < x.1) && sortedP (y :: r)
/-- the rows whose keys are the same -/
def pairsP (a b : List Rw) : List (Rw × Rw) := a.flatMap fun x => (b.filter fun y => decide (y.1 = x.1)).map fun y => (x, y)
def toldP (p : Rw × Rw) : Bs := p.1.1 ++ p.1.2 ++ p.2.2

/-! ### order -/
theorem lt_tri (a b : Bs) : a < b ∨ a = b ∨ b < a := by
  rcases Classical.em (a < b) with h | h
  · exact .inl h
  · rcases Classical.em (b < a) with h2 | h2
    · exact .inr (.inr h2)
    · exact .inr (.inl (List.le_antisymm (show a ≤ b from h2) (show b ≤ a from h)))
theorem le_trans' {a b c : Bs} (h : ¬ b < a) (k : ¬ c < b) : ¬ c < a := fun e => by
  have h1 : a ≤ b := h
  have h2 : b ≤ c := k
  exact (List.le_trans h1 h2) e
theorem sorted_head : ∀ (x : Rw) (l : List Rw), sortedP (x :: l) = true → ∀ y ∈ l, ¬ y.1 < x.1
  | _, [], _, y, h => by simp at h
  | x, z :: l, hs, y, h => by
    rw [sortedP, Bool.and_eq_true, decide_eq_true_eq] at hs
    rcases List.mem_cons.1 h with rfl | h
    · exact hs.1
    · exact le_trans' hs.1 (sorted_head z l hs.2 y h)
theorem sorted_tail : ∀ (x : Rw) (l : List Rw), sortedP (x :: l) = true → sortedP l = true
  | _, [], _ => rfl
  | x, z :: l, hs => by
    rw [sortedP, Bool.and_eq_true] at hs
    exact hs.2
/-- how many rows stand ahead of a key -/
def below (k : Bs) (b : List Rw) : Nat := (b.takeWhile fun y => decide (y.1 < k)).length
/-- those of the key: one behind the other, behind those ahead of it -/
theorem run_filter : ∀ (b : List Rw) (k : Bs), sortedP b = true → b.filter (fun y => decide (y.1 = k)) = (b.drop (below k b)).takeWhile fun y => decide (y.1 = k)
  | [], _, _ => by simp [below]
  | y :: b, k, hs => by
    by_cases h : y.1 < k
    · have hne : ¬ y.1 = k := fun e => by rw [e] at h; exact List.lt_irrefl k h
      have e : below k (y :: b) = below k b + 1 := by simp [below, h]
      rw [e, List.filter_cons_of_neg (by simp [hne]), List.drop_succ_cons]
      exact run_filter b k (sorted_tail y b hs)
    · have e : below k (y :: b) = 0 := by simp [below, h]
      rw [e, List.drop_zero]
      by_cases hk : y.1 = k
      · rw [List.filter_cons_of_pos (by simp [hk]), List.takeWhile_cons_of_pos (by simp [hk])]
        congr 1
        have h0 : below k b = 0 := by
          unfold below
          cases b with
          | nil => rfl
          | cons z b =>
            have := sorted_head y (z :: b) hs z (by simp)
            rw [hk] at this
            simp [this]
        have := run_filter b k (sorted_tail y b hs)
        rw [h0, List.drop_zero] at this
        exact this
      · rw [List.takeWhile_cons_of_neg (by simp [hk]), List.filter_eq_nil_iff]
        intro z hz
        have hgt : k < y.1 := by rcases lt_tri y.1 k with h1 | h1 | h1; exact absurd h1 h; exact absurd h1 hk; exact h1
        rcases List.mem_cons.1 hz with rfl | hz
        · simp [hk]
        · have := sorted_head y b hs z hz
          simp only [decide_eq_true_eq]
          intro e
          rw [e] at this
          exact this hgt
theorem below_mono (b : List Rw) (k k' : Bs) (hs : sortedP b = true) (h : ¬ k' < k) : below k b ≤ below k' b := by
  unfold below
  induction b with
  | nil => simp
  | cons y b ih =>
    by_cases h1 : y.1 < k
    · have h2 : y.1 < k' := by
        rcases lt_tri k k' with e | e | e
        · exact List.lt_trans h1 e
        · rw [← e]; exact h1
        · exact absurd e h
      rw [List.takeWhile_cons_of_pos (by simpa using h1), List.takeWhile_cons_of_pos (by simpa using h2), List.length_cons, List.length_cons]
      have := ih (sorted_tail y b hs)
      omega
    · simp [h1]
theorem below_le (k : Bs) (b : List Rw) : below k b ≤ b.length := (List.takeWhile_prefix _).length_le
/-- ahead of it all are less; at it, none is -/
theorem below_lt (k : Bs) : ∀ (b : List Rw) (i : Nat) (h : i < b.length), i < below k b → b[i].1 < k
  | y :: b, i, h, hi => by
    by_cases h1 : y.1 < k
    · cases i with
      | zero => exact h1
      | succ i =>
        have e : below k (y :: b) = below k b + 1 := by simp [below, h1]
        exact below_lt k b i (by simpa using h) (by omega)
    · have e : below k (y :: b) = 0 := by simp [below, h1]
      omega
theorem below_at (k : Bs) : ∀ (b : List Rw) (h : below k b < b.length), ¬ b[below k b].1 < k
  | y :: b, h => by
    by_cases h1 : y.1 < k
    · have e : below k (y :: b) = below k b + 1 := by simp [below, h1]
      have := below_at k b (by rw [e] at h; simpa using h)
      simp only [e, List.getElem_cons_succ]
      exact this
    · have e : below k (y :: b) = 0 := by simp [below, h1]
      simp only [e, List.getElem_cons_zero]
      exact h1
/-- how many of the key's there are from a place on -/
def alikeAt (k : Bs) (b : List Rw) : Nat := ((b.drop (below k b)).takeWhile fun y => decide (y.1 = k)).length
end Go.Proofs.YtjkajhnnoecjbaaDoor.Vw
