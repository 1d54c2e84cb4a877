/- What follows of patterns, in plain words: quoted names; patterns one behind the other. -/
import Derived.Test.YtelijbnamiefcaaGlPlain
namespace Go.Proofs.Ytelijbnamiefcaa.Gl
open Go.RowKit

/-- a thing that is this byte -/
def itself (c : UInt8) : Th := ⟨false, fun d => decide (d = c)⟩
theorem kind_plain (c : UInt8) (r : Bs) (h : sign c = false) : kindP (c :: r) = (4, 1) := by
  simp [sign] at h
  simp [kindP, h]
theorem th_plain (c : UInt8) : thP 4 [c] = itself c := by
  unfold thP itself
  congr 1
theorem th_quoted (c : UInt8) : thP 2 [92, c] = itself c := by
  unfold thP itself
  congr 1
theorem rdA_plain (c : UInt8) (r : Bs) (h : sign c = false) : rdA (c :: r) = (rdA r).map (itself c :: ·) := by
  rw [rdA_cons _ (by simp), kind_plain c r h]
  simp only [List.length_cons, List.take_succ_cons, List.take_zero, List.drop_succ_cons, List.drop_zero]
  rw [if_neg (by omega), th_plain]
theorem rdA_quoted (c : UInt8) (r : Bs) : rdA (92 :: c :: r) = (rdA r).map (itself c :: ·) := by
  have hk : kindP (92 :: c :: r) = (2, 2) := rfl
  rw [rdA_cons _ (by simp), hk]
  simp only [List.length_cons, List.take_succ_cons, List.take_zero, List.drop_succ_cons, List.drop_zero]
  rw [if_neg (by omega), th_quoted]
theorem rdA_quote (n : Bs) : rdA (quoteP n) = some (n.map itself) := by
  induction n with
  | nil => rfl
  | cons c n ih =>
    cases h : sign c
    · rw [quoteP, h]
      simp only [Bool.false_eq_true, if_false]
      rw [rdA_plain c _ h, ih]; rfl
    · rw [quoteP, h]
      simp only [if_true]
      rw [rdA_quoted, ih]; rfl
theorem mt_itself (n o : Bs) : mt (n.map itself) o = decide (o = n) := by
  induction n generalizing o with
  | nil => cases o <;> simp [mt]
  | cons c n ih =>
    rw [List.map_cons]
    cases o with
    | nil => rw [mt_one_nil rfl]; simp
    | cons d o =>
      rw [mt_one_cons rfl, ih]
      unfold itself
      simp
theorem readP_of {s : Bs} (h : s.length ≤ 4096) : readP s = rdA s := by
  unfold readP rdA
  rw [if_neg (by omega)]
theorem match_quote (n o : Bs) (h : n.length ≤ 2000) : matchP (quoteP n) o = decide (o = n) := by
  have h1 := quote_len n
  unfold matchP
  rw [readP_of (by omega), rdA_quote]
  exact mt_itself n o
theorem check_quote (n : Bs) (h : n.length ≤ 2000) : (readP (quoteP n)).isSome = true := by
  have h1 := quote_len n
  rw [readP_of (by omega), rdA_quote]; rfl
theorem quote_same (n : Bs) (h : ∀ c ∈ n, sign c = false) : quoteP n = n := by
  induction n with
  | nil => rfl
  | cons c n ih =>
    rw [quoteP, h c (by simp)]
    simp only [Bool.false_eq_true, if_false]
    rw [ih fun d hd => h d (by simp [hd])]

/-! ### one behind the other -/
theorem kind_app (c : UInt8) (r q : Bs) (h : c ≠ 91) : kindP (c :: r ++ q) = kindP (c :: r) := by
  rw [List.cons_append]
  simp [kindP, h]
theorem rdA_app (p q : Bs) (ts : List Th) (h91 : ∀ c ∈ p, c ≠ 91) (hp : rdA p = some ts) : rdA (p ++ q) = (rdA q).map (ts ++ ·) := by
  induction hn : p.length using Nat.strongRecOn generalizing p ts with
  | _ n ih =>
    cases p with
    | nil =>
      rw [rdA_nil] at hp
      injection hp with hp
      rw [List.nil_append, ← hp]
      cases rdA q <;> simp
    | cons c r =>
      have hc : c ≠ 91 := h91 c (by simp)
      have hk := kind_app c r q hc
      have hpos := kind_pos (c :: r)
      rw [rdA_cons _ (by simp)] at hp ⊢
      rw [hk]
      by_cases hl : (c :: r).length < (kindP (c :: r)).2
      · rw [if_pos hl] at hp; cases hp
      · rw [if_neg hl] at hp
        rw [if_neg (by rw [List.length_append]; omega)]
        obtain ⟨us, hus, he⟩ := Option.map_eq_some_iff.1 hp
        rw [List.take_append_of_le_length (by omega), List.drop_append_of_le_length (by omega)]
        have hlen : ((c :: r).drop (kindP (c :: r)).2).length < n := by
          rw [← hn, List.length_drop, List.length_cons]; omega
        rw [ih _ hlen ((c :: r).drop (kindP (c :: r)).2) us (fun d hd => h91 d (List.mem_of_mem_drop hd)) hus rfl, ← he]
        cases rdA q <;> simp
theorem mt_app (ts us : List Th) (n : Bs) : mt (ts ++ us) n = true ↔ ∃ i, i ≤ n.length ∧ mt ts (n.take i) = true ∧ mt us (n.drop i) = true := by
  induction ts generalizing n with
  | nil =>
    constructor
    · intro h; exact ⟨0, Nat.zero_le _, by simp [mt], by simpa using h⟩
    · rintro ⟨i, hi, h1, h2⟩
      simp [mt] at h1
      rcases h1 with h1 | h1
      · subst h1; simpa using h2
      · subst h1; simpa using h2
  | cons t ts ih =>
    rw [List.cons_append]
    cases ht : t.star
    · cases n with
      | nil =>
        rw [mt_one_nil ht]
        constructor
        · intro h; cases h
        · rintro ⟨i, _, h1, _⟩
          rw [List.take_nil, mt_one_nil ht] at h1; cases h1
      | cons c n =>
        rw [mt_one_cons ht, Bool.and_eq_true, ih]
        constructor
        · rintro ⟨hp, i, hi, h1, h2⟩
          exact ⟨i + 1, by simp; omega, by rw [List.take_succ_cons, mt_one_cons ht, hp, h1]; rfl, by simpa using h2⟩
        · rintro ⟨i, hi, h1, h2⟩
          cases i with
          | zero => rw [List.take_zero, mt_one_nil ht] at h1; cases h1
          | succ i =>
            rw [List.take_succ_cons, mt_one_cons ht, Bool.and_eq_true] at h1
            exact ⟨h1.1, i, by simp at hi; omega, h1.2, by simpa using h2⟩
    · induction n with
      | nil =>
        rw [mt_star_nil ht, ih]
        constructor
        · rintro ⟨i, hi, h1, h2⟩
          exact ⟨i, hi, by rw [List.take_nil] at h1 ⊢; rw [mt_star_nil ht]; exact h1, h2⟩
        · rintro ⟨i, hi, h1, h2⟩
          exact ⟨i, hi, by rw [List.take_nil] at h1 ⊢; rw [mt_star_nil ht] at h1; exact h1, h2⟩
      | cons c n ihn =>
        rw [mt_star_cons ht, Bool.or_eq_true, ih, ihn]
        constructor
        · rintro (⟨i, hi, h1, h2⟩ | ⟨i, hi, h1, h2⟩)
          · exact ⟨i, hi, mt_star_of ht h1, h2⟩
          · exact ⟨i + 1, by simp; omega, by rw [List.take_succ_cons, mt_star_cons ht, h1, Bool.or_true], by simpa using h2⟩
        · rintro ⟨i, hi, h1, h2⟩
          cases i with
          | zero =>
            rw [List.take_zero, mt_star_nil ht] at h1
            exact .inl ⟨0, Nat.zero_le _, by rw [List.take_zero]; exact h1, h2⟩
          | succ i =>
            rw [List.take_succ_cons, mt_star_cons ht, Bool.or_eq_true] at h1
            rcases h1 with h1 | h1
            · exact .inl ⟨i + 1, hi, by rw [List.take_succ_cons]; exact h1, h2⟩
            · exact .inr ⟨i, by simp at hi; omega, h1, by simpa using h2⟩
theorem star_all {t : Th} {ts : List Th} (h : t.star = true) (hts : ∀ n, mt ts n = true) (n : Bs) : mt (t :: ts) n = true := mt_star_of h (hts n)
def star : Th := thP 0 [42]
theorem rdA_star : rdA [42] = some [star] := rfl
theorem rdA_stars : rdA [42, 42] = some [star, star] := rfl
theorem mt_star (n : Bs) : mt [star] n = true := by
  induction n with
  | nil => rfl
  | cons c n ih => rw [mt_star_cons rfl, ih, Bool.or_true]
theorem mt_stars (n : Bs) : mt [star, star] n = true := mt_star_of rfl (mt_star n)
end Go.Proofs.Ytelijbnamiefcaa.Gl
