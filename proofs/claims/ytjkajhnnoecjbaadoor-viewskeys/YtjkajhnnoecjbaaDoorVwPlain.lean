/- Texts side by side in plain words: where two texts are not the same. -/
import Derived.Test.YtjkajhnnoecjbaaDoorCuBase
namespace Go.Proofs.YtjkajhnnoecjbaaDoor.Vw
open Go.RowKit Cu

/-- a text of bytes -/
abbrev bt (l : Bs) : ByteArray := ⟨l.toArray⟩
theorem bs_bt (l : Bs) : bs (bt l) = l := rfl
theorem bt_bs (s : ByteArray) : bt (bs s) = s := by
  obtain ⟨x⟩ := s
  rfl
theorem bt_len (l : Bs) : (bt l).size = l.length := rfl
theorem bt_app (a b : Bs) : bt a ++ bt b = bt (a ++ b) := ba_ext (by rw [bs_bt]; simp [bs, bt])

/-! ### where two texts are not the same -/
/-- so many bytes they begin with that are the same -/
def alikeN : Bs → Bs → Nat
  | a :: x, b :: y => if a = b then alikeN x y + 1 else 0
  | _, _ => 0
theorem alikeN_le : ∀ a b : Bs, alikeN a b ≤ a.length ∧ alikeN a b ≤ b.length
  | [], _ => by simp [alikeN]
  | _ :: _, [] => by simp [alikeN]
  | c :: x, d :: y => by
    have := alikeN_le x y
    rw [alikeN]
    split <;> simp <;> omega
theorem alikeN_take : ∀ a b : Bs, a.take (alikeN a b) = b.take (alikeN a b)
  | [], _ => by simp [alikeN]
  | _ :: _, [] => by simp [alikeN]
  | c :: x, d :: y => by
    have := alikeN_take x y
    rw [alikeN]
    split
    · next h => subst h; simp [this]
    · simp
theorem alikeN_at : ∀ a b : Bs, (h1 : alikeN a b < a.length) → (h2 : alikeN a b < b.length) → a[alikeN a b] ≠ b[alikeN a b]
  | [], _, h, _ => by simp at h
  | _ :: _, [], _, h => by simp at h
  | c :: x, d :: y, h1, h2 => by
    by_cases e : c = d
    · subst e
      have e2 : alikeN (c :: x) (c :: y) = alikeN x y + 1 := by simp [alikeN]
      have := alikeN_at x y (by simp [e2] at h1; omega) (by simp [e2] at h2; omega)
      simp only [e2, List.getElem_cons_succ]
      exact this
    · have e2 : alikeN (c :: x) (d :: y) = 0 := by simp [alikeN, e]
      simp only [e2, List.getElem_cons_zero]
      exact e
theorem alikeN_comm : ∀ a b : Bs, alikeN a b = alikeN b a
  | [], [] => rfl
  | [], _ :: _ => by simp [alikeN]
  | _ :: _, [] => by simp [alikeN]
  | c :: x, d :: y => by
    have := alikeN_comm x y
    by_cases e : c = d
    · subst e; simp [alikeN, this]
    · have e' : ¬ d = c := fun h => e h.symm
      simp [alikeN, e, e']
theorem alikeN_self : ∀ a : Bs, alikeN a a = a.length
  | [] => by simp [alikeN]
  | c :: x => by simp [alikeN, alikeN_self x]
/-- as far as two texts are the same: byte by byte -/
theorem alikeN_step (a b : Bs) (n : Nat) (h : alikeN a b = n + alikeN (a.drop n) (b.drop n)) (h1 : n < a.length) (h2 : n < b.length) (he : a[n] = b[n]) : alikeN a b = (n + 1) + alikeN (a.drop (n + 1)) (b.drop (n + 1)) := by
  rw [h, List.drop_eq_getElem_cons h1, List.drop_eq_getElem_cons h2, alikeN, if_pos he]
  omega
theorem alikeN_stop (a b : Bs) (n : Nat) (h : alikeN a b = n + alikeN (a.drop n) (b.drop n)) (h1 : n < a.length) (h2 : n < b.length) (he : a[n] ≠ b[n]) : alikeN a b = n := by
  rw [h, List.drop_eq_getElem_cons h1, List.drop_eq_getElem_cons h2, alikeN, if_neg he]
  omega
theorem alikeN_out (a b : Bs) (n : Nat) (h : alikeN a b = n + alikeN (a.drop n) (b.drop n)) (h1 : a.length ≤ n ∨ b.length ≤ n) : alikeN a b = n := by
  rcases h1 with h1 | h1
  · rw [h, List.drop_eq_nil_of_le h1]; simp [alikeN]
  · rw [h, List.drop_eq_nil_of_le h1]
    cases a.drop n <;> simp [alikeN]

/-- the place, its line, which one ends ahead -/
def cmpP (a b : Bs) : Nat × Nat × Nat :=
  if alikeN a b < a.length ∧ alikeN a b < b.length then (alikeN a b + 1, (a.take (alikeN a b)).count 10 + 1, 0)
  else if alikeN a b < b.length then (0, 0, 1) else if alikeN a b < a.length then (0, 0, 2) else (0, 0, 0)
def cmpV (p : Nat × Nat × Nat) : Value := .tuple #[.int .i64 p.1, .int .i64 p.2.1, .int .i64 p.2.2]
theorem count_le (a : Bs) (n : Nat) : (a.take n).count 10 ≤ n := Nat.le_trans (List.count_le_length) (by rw [List.length_take]; omega)
theorem below_drewN {B : Nat} {w w' : World} (h : Below B w w') (q : Nat) : Below B w (w'.drewN q) := ⟨h.os, h.tape, h.output, h.size, h.block⟩
end Go.Proofs.YtjkajhnnoecjbaaDoor.Vw
