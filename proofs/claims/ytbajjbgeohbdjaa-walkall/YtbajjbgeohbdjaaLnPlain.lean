/- Texts as parts, in plain words over lists of bytes: no program is named here. -/
import Derived.WalkKit
namespace Go.Proofs.Ytbajjbgeohbdjaa.Ln

/-- the parts of a text, at the bytes that count; is there an end behind each? -/
def parts (p : UInt8 → Bool) : List UInt8 → List (List UInt8 × Bool)
  | [] => []
  | c :: cs => if p c then ([], true) :: parts p cs else
      match parts p cs with
      | [] => [([c], false)]
      | (x, b) :: r => (c :: x, b) :: r

def isEnd (c : UInt8) : Bool := decide (c.toNat = 10)
def isBlank (c : UInt8) : Bool := decide (c.toNat = 32) || decide (c.toNat = 9)
def isSpace (c : UInt8) : Bool := (decide (9 ≤ c.toNat) && decide (c.toNat ≤ 13)) || decide (c.toNat = 32)

theorem parts_hit {p : UInt8 → Bool} : ∀ (x : List UInt8) (d : UInt8) (r : List UInt8), (∀ c ∈ x, p c = false) → p d = true → parts p (x ++ d :: r) = (x, true) :: parts p r
  | [], d, r, _, hd => by simp [parts, hd]
  | c :: x, d, r, hx, hd => by
    have := parts_hit x d r (fun c hc => hx c (List.mem_cons_of_mem _ hc)) hd
    simp [parts, hx c (List.mem_cons_self ..), this]
theorem parts_end {p : UInt8 → Bool} : ∀ (x : List UInt8), (∀ c ∈ x, p c = false) → x ≠ [] → parts p x = [(x, false)]
  | [], _, h => absurd rfl h
  | [c], hx, _ => by simp [parts, hx c (by simp)]
  | c :: d :: x, hx, _ => by
    have := parts_end (d :: x) (fun c hc => hx c (List.mem_cons_of_mem _ hc)) (by simp)
    rw [parts, this]
    simp [hx c (by simp)]
theorem parts_none {p : UInt8 → Bool} : ∀ (x : List UInt8), parts p x = [] → x = []
  | [], _ => rfl
  | c :: x, h => by
    rw [parts] at h
    split at h
    · cases h
    · split at h <;> cases h
theorem parts_nil (p : UInt8 → Bool) : parts p [] = [] := rfl

/-- a text that begins with whole parts -/
theorem parts_two {p : UInt8 → Bool} : ∀ (a : List UInt8) (d : UInt8) (b : List UInt8), p d = true → parts p (a ++ d :: b) = parts p (a ++ [d]) ++ parts p b
  | [], d, b, hd => by simp [parts, hd]
  | c :: a, d, b, hd => by
    have h := parts_two a d b hd
    rw [List.cons_append, List.cons_append, parts, parts, h]
    split
    · simp
    · have : parts p (a ++ [d]) ≠ [] := fun e => by have := parts_none _ e; simp at this
      cases hh : parts p (a ++ [d]) with
      | nil => exact absurd hh this
      | cons q r => simp

/-- no part has an end in it -/
theorem parts_clean {p : UInt8 → Bool} : ∀ (l : List UInt8), ∀ q ∈ parts p l, ∀ c ∈ q.1, p c = false
  | [], q, hq => by simp [parts] at hq
  | d :: l, q, hq => by
    have ih := parts_clean (p := p) l
    rw [parts] at hq
    split at hq
    · rcases List.mem_cons.1 hq with rfl | hq
      · intro c hc; simp at hc
      · exact ih q hq
    · rename_i hd
      split at hq
      · simp at hq; subst hq; intro c hc; simp at hc; subst hc; simpa using hd
      · rename_i x b r hr
        rcases List.mem_cons.1 hq with rfl | hq
        · intro c hc
          rcases List.mem_cons.1 hc with rfl | hc
          · simpa using hd
          · exact ih (x, b) (by rw [hr]; simp) c hc
        · exact ih q (by rw [hr]; simp [hq])

/-- how many bytes a part has, its end too -/
def sz (q : List UInt8 × Bool) : Nat := q.1.length + (if q.2 then 1 else 0)
def szs (l : List (List UInt8 × Bool)) : Nat := (l.map sz).sum
theorem szs_parts (p : UInt8 → Bool) : ∀ l, szs (parts p l) = l.length
  | [] => rfl
  | c :: l => by
    have ih := szs_parts p l
    rw [parts]
    split
    · simp [szs, sz] at ih ⊢; omega
    · split
      · rename_i h; have := parts_none _ h; subst this; rfl
      · rename_i h; rw [h] at ih; simp [szs, sz] at ih ⊢; omega
theorem parts_len (p : UInt8 → Bool) : ∀ l, (parts p l).length ≤ l.length
  | [] => Nat.le_refl _
  | c :: l => by
    have ih := parts_len p l
    rw [parts]
    split
    · simp; omega
    · split
      · simp
      · rename_i h; rw [h] at ih; simp at ih ⊢; omega
/-- all parts but the last one have an end -/
theorem parts_ends (p : UInt8 → Bool) : ∀ l q r, parts p l = q ++ r → r ≠ [] → ∀ x ∈ q, x.2 = true
  | [], q, r, h, hr => by
    simp [parts] at h; exact absurd h.2 hr
  | c :: l, q, r, h, hr => by
    have ih := parts_ends p l
    rw [parts] at h
    split at h
    · cases q with
      | nil => intro x hx; simp at hx
      | cons y q =>
        simp at h
        obtain ⟨rfl, h⟩ := h
        intro x hx
        rcases List.mem_cons.1 hx with rfl | hx
        · rfl
        · exact ih q r h hr x hx
    · split at h
      · cases q with
        | nil => intro x hx; simp at hx
        | cons y q => simp at h; exact absurd h.2.2 hr
      · rename_i x b t ht
        cases q with
        | nil => intro x hx; simp at hx
        | cons y q =>
          simp at h
          obtain ⟨rfl, h⟩ := h
          subst h
          intro z hz
          have := ih ((x, b) :: q) r (by rw [ht]; rfl) hr
          rcases List.mem_cons.1 hz with rfl | hz
          · exact this (x, b) (by simp)
          · exact this z (by simp [hz])

/-- parts, each with its end if it has one, are the text -/
def flat (d : UInt8) (l : List (List UInt8 × Bool)) : List UInt8 := l.flatMap fun q => q.1 ++ (if q.2 then [d] else [])
theorem flat_parts {p : UInt8 → Bool} {d : UInt8} (hp : ∀ c, p c = true → c = d) : ∀ l, flat d (parts p l) = l
  | [] => rfl
  | c :: l => by
    have ih := flat_parts hp l
    rw [parts]
    split
    · rename_i h; simp [flat] at ih ⊢; exact ⟨(hp c h).symm, ih⟩
    · split
      · rename_i h; rw [h] at ih; simp [flat] at ih ⊢; exact ih
      · rename_i h; rw [h] at ih; simp [flat] at ih ⊢; exact ih
theorem parts_flat {p : UInt8 → Bool} {d : UInt8} (hd : p d = true) : ∀ (l : List (List UInt8)), (∀ x ∈ l, ∀ c ∈ x, p c = false) → parts p (l.flatMap fun x => x ++ [d]) = l.map fun x => (x, true)
  | [], _ => rfl
  | x :: l, h => by
    have ih := parts_flat hd l (fun y hy => h y (List.mem_cons_of_mem _ hy))
    simp only [List.flatMap_cons, List.append_assoc, List.singleton_append, List.map_cons]
    rw [parts_hit x d _ (h x (by simp)) hd, ih]

/-- the first k parts are those of the first bytes -/
theorem parts_take (p : UInt8 → Bool) : ∀ (l : List UInt8) (k : Nat), parts p (l.take (szs ((parts p l).take k))) = (parts p l).take k ∧ parts p (l.drop (szs ((parts p l).take k))) = (parts p l).drop k
  | [], k => by simp [parts, szs]
  | c :: l, 0 => by simp [szs, parts]
  | c :: l, k + 1 => by
    rw [parts]
    split
    · rename_i h
      obtain ⟨h1, h2⟩ := parts_take p l k
      simp only [List.take_succ_cons, List.drop_succ_cons]
      have e : szs (([], true) :: (parts p l).take k) = szs ((parts p l).take k) + 1 := by simp [szs, sz]; omega
      rw [e, List.take_succ_cons, List.drop_succ_cons, h2, parts, h1]
      simp [h]
    · rename_i h
      split
      · rename_i hh
        have := parts_none _ hh
        subst this
        simp [szs, sz, parts, h]
      · rename_i x b r hh
        obtain ⟨h1, h2⟩ := parts_take p l (k + 1)
        rw [hh] at h1 h2
        simp only [List.take_succ_cons, List.drop_succ_cons] at h1 h2 ⊢
        have e : szs ((c :: x, b) :: r.take k) = szs ((x, b) :: r.take k) + 1 := by simp [szs, sz]; omega
        rw [e, List.take_succ_cons, List.drop_succ_cons, h2, parts, h1]
        simp [h]

end Go.Proofs.Ytbajjbgeohbdjaa.Ln
