/- Plain facts on keys: letters great and small; a key is a part of its line. -/
import Derived.Test.YtfffhdbicldihabDoorKyPlain
namespace Go.Proofs.YtfffhdbicldihabDoor.Ky
open Go.RowKit

/-! ### letters great and small -/
def upS (s : Bs) : Bs := s.map up
theorem up_nat : ∀ n, n < 256 → (bl (up (UInt8.ofNat n)) = bl (UInt8.ofNat n) ∧ dg (up (UInt8.ofNat n)) = dg (UInt8.ofNat n) ∧ up (up (UInt8.ofNat n)) = up (UInt8.ofNat n)) ∧
    ((up (UInt8.ofNat n) = 45 ↔ UInt8.ofNat n = 45) ∧ (up (UInt8.ofNat n) = 46 ↔ UInt8.ofNat n = 46) ∧ (dg (UInt8.ofNat n) = true → up (UInt8.ofNat n) = UInt8.ofNat n)) := by decide +kernel
theorem up_all (c : UInt8) : (bl (up c) = bl c ∧ dg (up c) = dg c ∧ up (up c) = up c) ∧ ((up c = 45 ↔ c = 45) ∧ (up c = 46 ↔ c = 46) ∧ (dg c = true → up c = c)) := by
  have := up_nat c.toNat c.toNat_lt
  rwa [UInt8.ofNat_toNat] at this
theorem up_bl (c : UInt8) : bl (up c) = bl c := (up_all c).1.1
theorem up_dg (c : UInt8) : dg (up c) = dg c := (up_all c).1.2.1
theorem up_up (c : UInt8) : up (up c) = up c := (up_all c).1.2.2
theorem up_sep {p : UInt8} (hp : ¬ (65 ≤ p ∧ p ≤ 90) ∧ ¬ (97 ≤ p ∧ p ≤ 122)) (c : UInt8) : up c = p ↔ c = p := by
  have h : ∀ n m, n < 256 → m < 256 → ¬ (65 ≤ UInt8.ofNat m ∧ UInt8.ofNat m ≤ 90) ∧ ¬ (97 ≤ UInt8.ofNat m ∧ UInt8.ofNat m ≤ 122) → (up (UInt8.ofNat n) = UInt8.ofNat m ↔ UInt8.ofNat n = UInt8.ofNat m) := by
    intro n m hn hm hq
    unfold up
    split
    · rename_i hl
      have l1 := UInt8.le_iff_toNat_le.1 hl.1
      have l2 := UInt8.le_iff_toNat_le.1 hl.2
      constructor
      · intro e
        exfalso
        apply hq.1
        rw [← e]
        have e2 : (UInt8.ofNat n - 32).toNat = (UInt8.ofNat n).toNat - 32 := by
          rw [UInt8.toNat_sub_of_le _ _ (UInt8.le_iff_toNat_le.2 (by simp at l1 ⊢; omega))]; rfl
        constructor
        · apply UInt8.le_iff_toNat_le.2; rw [e2]; simp at l1 ⊢; omega
        · apply UInt8.le_iff_toNat_le.2; rw [e2]; simp at l2 ⊢; omega
      · intro e
        exfalso
        exact hq.2 (e ▸ hl)
    · exact Iff.rfl
  have := h c.toNat p.toNat c.toNat_lt p.toNat_lt
  simp only [UInt8.ofNat_toNat] at this
  exact this hp
theorem takeWhile_up {p : UInt8 → Bool} (h : ∀ c, p (up c) = p c) (s : Bs) : (upS s).takeWhile p = upS (s.takeWhile p) := by
  induction s with
  | nil => rfl
  | cons c r ih =>
    simp only [upS, List.map_cons, List.takeWhile_cons, h] at ih ⊢
    split
    · simp only [List.map_cons, ih]
    · rfl
theorem dropWhile_up {p : UInt8 → Bool} (h : ∀ c, p (up c) = p c) (s : Bs) : (upS s).dropWhile p = upS (s.dropWhile p) := by
  induction s with
  | nil => rfl
  | cons c r ih =>
    simp only [upS, List.map_cons, List.dropWhile_cons, h] at ih ⊢
    split
    · exact ih
    · rfl
theorem upS_app (a b : Bs) : upS (a ++ b) = upS a ++ upS b := List.map_append
theorem upS_len (s : Bs) : (upS s).length = s.length := by simp [upS]
theorem part1_up (s : Bs) : part1 (upS s) = upS (part1 s) := by
  unfold part1
  rw [takeWhile_up up_bl, dropWhile_up up_bl, takeWhile_up (fun c => by rw [up_bl]), upS_app]
theorem part2_up (s : Bs) : part2 (upS s) = upS (part2 s) := by
  unfold part2
  rw [dropWhile_up up_bl, dropWhile_up (fun c => by rw [up_bl])]
theorem parts_up (f : Nat) (s : Bs) : parts f (upS s) = (parts f s).map upS := by
  induction f generalizing s with
  | zero => cases s <;> rfl
  | succ f ih =>
    cases s with
    | nil => rfl
    | cons c r =>
      have e : upS (c :: r) = up c :: upS r := rfl
      rw [e, parts, ← e, part1_up, part2_up, ih, parts]; rfl
theorem split_up {p : UInt8} (hp : ∀ c, up c = p ↔ c = p) (s : Bs) : split p (upS s) = (split p s).map upS := by
  induction s with
  | nil => rfl
  | cons c r ih =>
    have e : upS (c :: r) = up c :: upS r := rfl
    rw [e, split, split]
    by_cases h : c = p
    · rw [if_pos h, if_pos ((hp c).2 h), ih]; rfl
    · rw [if_neg h, if_neg (fun h' => h ((hp c).1 h')), ih]
      cases split p r with
      | nil => rfl
      | cons x l => rfl
theorem join_up {b : Bs} (hb : upS b = b) (l : List Bs) : join b (l.map upS) = upS (join b l) := by
  induction l with
  | nil => rfl
  | cons x l ih =>
    cases l with
    | nil => rfl
    | cons y l =>
      simp only [List.map_cons, join] at ih ⊢
      rw [ih, upS_app, upS_app, hb]
/-- Sep is no letter -/
def noLetter (o : Ord) : Prop := ¬ (65 ≤ o.sep ∧ o.sep ≤ 90) ∧ ¬ (97 ≤ o.sep ∧ o.sep ≤ 122)
theorem key_up (o : Ord) (ho : noLetter o) (s : Bs) : key o (upS s) = upS (key o s) := by
  have hsep := up_sep ho
  have hb : upS (btw o) = btw o := by
    unfold btw; split
    · rfl
    · simp only [upS, List.map_cons, List.map_nil]; rw [(hsep o.sep).2 rfl]
  have hf : fields o (upS s) = (fields o s).map upS := by
    unfold fields; split
    · rw [upS_len]; exact parts_up _ _
    · exact split_up hsep s
  unfold key
  cases okO o
  · rfl
  · simp only [Bool.true_eq_false, ↓reduceIte, hf]
    split
    · rfl
    · rw [← List.map_drop]
      split
      · exact join_up hb _
      · rw [← List.map_take]; exact join_up hb _
theorem run_up (s : Bs) : upS (s.takeWhile dg) = s.takeWhile dg := by
  induction s with
  | nil => rfl
  | cons c r ih =>
    simp only [List.takeWhile_cons]
    split
    · rename_i h
      simp only [upS, List.map_cons] at ih ⊢
      rw [(up_all c).2.2.2 h, ih]
    · rfl
theorem unsigned_up (s : Bs) : unsigned (upS s) = unsigned s := by
  unfold unsigned
  rw [takeWhile_up up_dg, run_up, dropWhile_up up_dg]
  congr 2
  cases h : s.dropWhile dg with
  | nil => rfl
  | cons c r =>
    by_cases h46 : c = 46
    · subst h46
      show (upS r).takeWhile dg = r.takeWhile dg
      rw [takeWhile_up up_dg, run_up]
    · have h2 : up c ≠ 46 := fun e => h46 ((up_all c).2.2.1.1 e)
      have e : upS (c :: r) = up c :: upS r := rfl
      rw [e]
      split
      · rename_i q; simp at q; exact absurd q.1 h2
      · split
        · rename_i q; simp at q; exact absurd q.1 h46
        · rfl
theorem decOf_plain {s r : Bs} {c : UInt8} (h : s.dropWhile bl = c :: r) (hc : c ≠ 45) :
    decOf s = ⟨if (unsigned (c :: r)).1 = [] ∧ (unsigned (c :: r)).2 = [] then 0 else 1, (unsigned (c :: r)).1, (unsigned (c :: r)).2⟩ := by
  unfold decOf
  rw [h]
  split
  · rename_i q; exact absurd (List.cons.inj q).1 hc
  · rfl
theorem decOf_minus {s r : Bs} (h : s.dropWhile bl = 45 :: r) :
    decOf s = ⟨if (unsigned r).1 = [] ∧ (unsigned r).2 = [] then 0 else -1, (unsigned r).1, (unsigned r).2⟩ := by
  unfold decOf; rw [h]; rfl
theorem decOf_none {s : Bs} (h : s.dropWhile bl = []) : decOf s = ⟨0, [], []⟩ := by
  unfold decOf; rw [h]; rfl
theorem decOf_up (s : Bs) : decOf (upS s) = decOf s := by
  have hd := dropWhile_up up_bl s
  cases h : s.dropWhile bl with
  | nil => rw [h] at hd; rw [decOf_none h, decOf_none hd]
  | cons c r =>
    rw [h] at hd
    have e : upS (c :: r) = up c :: upS r := rfl
    rw [e] at hd
    have hu := unsigned_up (c :: r)
    rw [e] at hu
    by_cases h45 : c = 45
    · subst h45
      rw [decOf_minus h, decOf_minus (r := upS r) hd, unsigned_up]
    · rw [decOf_plain h h45, decOf_plain hd (fun e => h45 ((up_all c).2.1.1 e)), hu]
theorem fit_up (o : Ord) (s : Bs) : fit { o with fold := true } (upS s) = fit { o with fold := true } s ∧ fit { o with fold := false } (upS s) = fit { o with fold := true } s := by
  unfold fit
  simp only [↓reduceIte, Bool.false_eq_true]
  have hm : ∀ t : Bs, (upS t).map up = t.map up := fun t => by
    simp only [upS, List.map_map]
    exact List.map_congr_left fun c _ => up_up c
  have hi : ∀ t : Bs, t.map (fun c => c) = t := fun t => List.map_id t
  constructor
  · split
    · rw [dropWhile_up up_bl, hm]
    · rw [hm]
  · split
    · rw [dropWhile_up up_bl, hi]; rfl
    · rw [hi]; rfl
theorem folds (o : Ord) (ho : noLetter o) (a b : Bs) : compare { o with fold := true } a b = compare { o with fold := true } (upS a) (upS b) ∧ compare { o with fold := true } a b = compare { o with fold := false } (upS a) (upS b) := by
  have k1 : ∀ s, key { o with fold := true } s = key o s := fun _ => rfl
  have k2 : ∀ s, key { o with fold := false } s = key o s := fun _ => rfl
  have o1 : okO { o with fold := true } = okO o := rfl
  have o2 : okO { o with fold := false } = okO o := rfl
  unfold compare
  rw [o1, o2]
  simp only [k1, k2, key_up o ho, number, decOf_up, (fit_up o _).1, (fit_up o _).2]
  trivial
end Go.Proofs.YtfffhdbicldihabDoor.Ky
