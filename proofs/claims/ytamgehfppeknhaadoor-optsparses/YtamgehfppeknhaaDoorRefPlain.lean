/- Whether a text tells options, and how each is told, read byte by byte: the same as the plain reading. No program is named here. -/
import Derived.Test.YtamgehfppeknhaaDoorParsePlain
namespace Go.Proofs.YtamgehfppeknhaaDoor.Pa
open Go.RowKit

def mayL : List UInt8 → List UInt8 → Bool
  | [], _ => true
  | c :: t, seen => if c.toNat = 58 then (match seen.getLast? with | none => false | some p => decide (p.toNat ≠ 58)) && mayL t (seen ++ [c]) else okL c.toNat && !(seen.contains c) && mayL t (seen ++ [c])
def kindL : List UInt8 → Int → Int
  | [], _ => 0
  | x :: t, c => if ((x.toNat : Int) = c ∧ c ≠ 58) then (if (t.head?.map UInt8.toNat) = some 58 then 2 else 1) else kindL t c

theorem okL58 : okL 58 = false := by decide
theorem okL_ne {c : UInt8} (h : okL c.toNat = true) : c.toNat ≠ 58 := by
  intro e; rw [e] at h; exact absurd h (by decide)

/-- K knows just the letters that were seen -/
def Knows (K : Int → Int) (seen : List UInt8) : Prop := ∀ c : UInt8, c.toNat ≠ 58 → (K c.toNat = 0 ↔ c ∉ seen)

theorem Knows.more {K : Int → Int} {seen : List UInt8} (h : Knows K seen) (c : UInt8) (v : Int) (hv : v ≠ 0) : Knows (upd K c.toNat v) (seen ++ [c]) := by
  intro x hx
  unfold upd
  by_cases e : (x.toNat : Int) = c.toNat
  · have e' : x = c := UInt8.toNat_inj.1 (by omega)
    subst e'
    simp [hv]
  · have e' : x ≠ c := by intro e'; subst e'; exact e rfl
    rw [if_neg e]
    rw [h x hx]
    simp [e']
theorem Knows.colon {K : Int → Int} {seen : List UInt8} (h : Knows K seen) {d : UInt8} (hd : d.toNat = 58) : Knows K (seen ++ [d]) := by
  intro x hx
  have : x ≠ d := by intro e; subst e; exact hx hd
  rw [h x hx]
  simp [this]

theorem may_rd (l : List UInt8) (K : Int → Int) : ∀ (seen : List UInt8), Knows K seen → K 58 = 0 → ((seen.getLast?.map UInt8.toNat) = none ∨ (seen.getLast?.map UInt8.toNat) = some 58 ∨ (l.head?.map UInt8.toNat) ≠ some 58) →
    mayL l seen = (rd l K).isSome ∧ ∀ K', rd l K = some K' → ∀ c, K' c = if K c ≠ 0 then K c else kindL l c := by
  have bad : ∀ (c : UInt8) (t seen : List UInt8) (K : Int → Int), Knows K seen → ((seen.getLast?.map UInt8.toNat) = none ∨ (seen.getLast?.map UInt8.toNat) = some 58 ∨ ((c :: t).head?.map UInt8.toNat) ≠ some 58) →
      ¬ (okL c.toNat = true ∧ K c.toNat = 0) → mayL (c :: t) seen = false := by
    intro c t seen K hK hp hn
    by_cases e : c.toNat = 58
    · have hp' : (seen.getLast?.map UInt8.toNat) = none ∨ (seen.getLast?.map UInt8.toNat) = some 58 := by
        rcases hp with h | h | h
        · exact .inl h
        · exact .inr h
        · simp [e] at h
      rw [mayL, if_pos e]
      cases hg : seen.getLast? with
      | none => simp
      | some p =>
        rw [hg] at hp'
        simp at hp'
        simp [hp']
    · rw [mayL, if_neg e]
      by_cases h1 : okL c.toNat = true
      · have h2 : ¬ K c.toNat = 0 := fun h => hn ⟨h1, h⟩
        have h3 : c ∈ seen := by
          by_cases h : c ∈ seen
          · exact h
          · exact absurd ((hK c e).2 h) h2
        simp [h3]
      · simp [h1]
  have good : ∀ (c : UInt8) (t seen : List UInt8) (K : Int → Int), Knows K seen → okL c.toNat = true → K c.toNat = 0 → mayL (c :: t) seen = mayL t (seen ++ [c]) := by
    intro c t seen K hK h1 h2
    have e := okL_ne h1
    have h3 : c ∉ seen := (hK c e).1 h2
    rw [mayL, if_neg e]
    simp [h1, h3]
  fun_induction rd l K with
  | case1 K =>
    intro seen hK h58 hp
    refine ⟨by simp [mayL], fun K' h c => ?_⟩
    cases h
    simp only [kindL]
    split <;> simp_all
  | case2 c K hc =>
    intro seen hK h58 hp
    refine ⟨by rw [good c [] seen K hK hc.1 hc.2]; simp [mayL], fun K' h x => ?_⟩
    cases h
    have e := okL_ne hc.1
    unfold upd
    by_cases hx : x = c.toNat
    · subst hx
      rw [if_pos rfl, if_neg (by simp [hc.2])]
      have : (c.toNat : Int) ≠ 58 := by omega
      simp [kindL, this]
    · rw [if_neg hx]
      have : ¬ ((c.toNat : Int) = x ∧ x ≠ 58) := fun h => hx h.1.symm
      simp only [kindL, if_neg this]
      split <;> simp_all
  | case3 c K hc =>
    intro seen hK h58 hp
    exact ⟨by rw [bad c [] seen K hK hp hc]; rfl, fun K' h => by cases h⟩
  | case4 c d t K hc hd ih =>
    intro seen hK h58 hp
    have e := okL_ne hc.1
    have e' : (c.toNat : Int) ≠ 58 := by omega
    obtain ⟨i1, i2⟩ := ih ((seen ++ [c]) ++ [d]) ((hK.more c 2 (by decide)).colon hd) (by unfold upd; rw [if_neg (fun h => e' h.symm)]; exact h58) (.inr (.inl (by simp [hd])))
    refine ⟨?_, fun K' h x => ?_⟩
    · rw [good c (d :: t) seen K hK hc.1 hc.2, mayL, if_pos hd, ← i1]
      simp [e]
    · rw [i2 K' h x]
      unfold upd
      by_cases hx : x = c.toNat
      · subst hx
        rw [if_pos rfl, if_pos (by decide), if_neg (by simp [hc.2])]
        simp [kindL, e', hd]
      · rw [if_neg hx]
        have h1 : ¬ ((c.toNat : Int) = x ∧ x ≠ 58) := fun h => hx h.1.symm
        have h2 : ¬ ((d.toNat : Int) = x ∧ x ≠ 58) := fun h => h.2 (by omega)
        simp only [kindL, if_neg h1, if_neg h2]
  | case5 c d t K hc hd ih =>
    intro seen hK h58 hp
    have e := okL_ne hc.1
    have e' : (c.toNat : Int) ≠ 58 := by omega
    obtain ⟨i1, i2⟩ := ih (seen ++ [c]) (hK.more c 1 (by decide)) (by unfold upd; rw [if_neg (fun h => e' h.symm)]; exact h58) (.inr (.inr (by simpa using hd)))
    refine ⟨?_, fun K' h x => ?_⟩
    · rw [good c (d :: t) seen K hK hc.1 hc.2, ← i1]
    · rw [i2 K' h x]
      unfold upd
      by_cases hx : x = c.toNat
      · subst hx
        rw [if_pos rfl, if_pos (by decide), if_neg (by simp [hc.2])]
        simp [kindL, e', hd]
      · rw [if_neg hx]
        have h1 : ¬ ((c.toNat : Int) = x ∧ x ≠ 58) := fun h => hx h.1.symm
        conv => rhs; rw [kindL, if_neg h1]
  | case6 c d t K hc =>
    intro seen hK h58 hp
    exact ⟨by rw [bad c (d :: t) seen K hK hp hc]; rfl, fun K' h => by cases h⟩

theorem may_is (s : List UInt8) : mayL s [] = (rd s (fun _ => 0)).isSome ∧ ∀ K', rd s (fun _ => 0) = some K' → ∀ c, K' c = kindL s c := by
  obtain ⟨h1, h2⟩ := may_rd s (fun _ => 0) [] (by intro c _; simp) rfl (.inl rfl)
  exact ⟨h1, fun K' h c => by have := h2 K' h c; simpa using this⟩

/-! ### steps -/
theorem may_colon (s : ByteArray) (i : Nat) (h : i < s.size) (hc : s[i].toNat = 58) (h0 : 0 < i) (hp : (s[i - 1]'(by omega)).toNat ≠ 58) :
    mayL (s.data.toList.drop i) (s.data.toList.take i) = mayL (s.data.toList.drop (i + 1)) (s.data.toList.take (i + 1)) := by
  have hl : s.data.toList.length = s.size := rfl
  rw [drop_at s i h, mayL, if_pos hc]
  have h1 : (s.data.toList.take i).getLast? = some (s[i - 1]'(by omega)) := by
    rw [List.getLast?_eq_getElem?, List.length_take, Nat.min_eq_left (by omega), List.getElem?_take_of_lt (by omega), List.getElem?_eq_getElem (by omega)]
    rfl
  have h2 : s.data.toList.take (i + 1) = s.data.toList.take i ++ [s[i]] := by
    rw [List.take_add_one, List.getElem?_eq_getElem (by omega)]; rfl
  rw [h1, h2]
  simp [hp]
theorem may_colon_no (s : ByteArray) (i : Nat) (h : i < s.size) (hc : s[i].toNat = 58) (hp : i = 0 ∨ ∃ h0 : 0 < i, (s[i - 1]'(by omega)).toNat = 58) :
    mayL (s.data.toList.drop i) (s.data.toList.take i) = false := by
  have hl : s.data.toList.length = s.size := rfl
  rw [drop_at s i h, mayL, if_pos hc]
  rcases hp with rfl | ⟨h0, hp⟩
  · simp
  · have h1 : (s.data.toList.take i).getLast? = some (s[i - 1]'(by omega)) := by
      rw [List.getLast?_eq_getElem?, List.length_take, Nat.min_eq_left (by omega), List.getElem?_take_of_lt (by omega), List.getElem?_eq_getElem (by omega)]
      rfl
    rw [h1]
    simp [hp]
theorem may_letter (s : ByteArray) (i : Nat) (h : i < s.size) (hc : s[i].toNat ≠ 58) (hk : okL s[i].toNat = true) (hn : ∀ k (hk : k < i), (s[k]'(by omega)).toNat ≠ s[i].toNat) :
    mayL (s.data.toList.drop i) (s.data.toList.take i) = mayL (s.data.toList.drop (i + 1)) (s.data.toList.take (i + 1)) := by
  have hl : s.data.toList.length = s.size := rfl
  rw [drop_at s i h, mayL, if_neg hc]
  have h2 : s.data.toList.take (i + 1) = s.data.toList.take i ++ [s[i]] := by
    rw [List.take_add_one, List.getElem?_eq_getElem (by omega)]; rfl
  have h3 : s[i] ∉ s.data.toList.take i := by
    intro hm
    obtain ⟨k, hk, e⟩ := List.getElem_of_mem hm
    rw [List.length_take] at hk
    rw [List.getElem_take] at e
    exact hn k (by omega) (congrArg UInt8.toNat e)
  rw [h2]
  simp [hk, h3]
theorem may_letter_no (s : ByteArray) (i : Nat) (h : i < s.size) (hc : s[i].toNat ≠ 58) (hn : okL s[i].toNat = false ∨ ∃ k, ∃ hk : k < i, (s[k]'(by omega)).toNat = s[i].toNat) :
    mayL (s.data.toList.drop i) (s.data.toList.take i) = false := by
  have hl : s.data.toList.length = s.size := rfl
  rw [drop_at s i h, mayL, if_neg hc]
  rcases hn with hn | ⟨k, hk, e⟩
  · simp [hn]
  · have h3 : s[i] ∈ s.data.toList.take i := by
      rw [show s[i] = s[k]'(by omega) from (UInt8.toNat_inj.1 e).symm]
      exact List.mem_take_iff_getElem.2 ⟨k, by omega, rfl⟩
    simp [h3]
theorem may_end (s : ByteArray) (i : Nat) (h : s.size ≤ i) (seen : List UInt8) : mayL (s.data.toList.drop i) seen = true := by
  rw [drop_end s i h]; rfl
theorem kind_hit (s : ByteArray) (i : Nat) (c : Int) (h : i < s.size) (hc : (s[i].toNat : Int) = c) (h58 : c ≠ 58) :
    kindL (s.data.toList.drop i) c = if ∃ h1 : i + 1 < s.size, (s[i + 1]).toNat = 58 then 2 else 1 := by
  rw [drop_at s i h, kindL, if_pos ⟨hc, h58⟩]
  by_cases h1 : i + 1 < s.size
  · rw [drop_at s (i + 1) h1]
    simp [h1]
  · rw [drop_end s (i + 1) (by omega)]
    simp [h1]
theorem kind_miss (s : ByteArray) (i : Nat) (c : Int) (h : i < s.size) (hc : ¬ ((s[i].toNat : Int) = c ∧ c ≠ 58)) :
    kindL (s.data.toList.drop i) c = kindL (s.data.toList.drop (i + 1)) c := by
  rw [drop_at s i h, kindL, if_neg hc]
theorem kind_end (s : ByteArray) (i : Nat) (c : Int) (h : s.size ≤ i) : kindL (s.data.toList.drop i) c = 0 := by
  rw [drop_end s i h]; rfl
end Go.Proofs.YtamgehfppeknhaaDoor.Pa
