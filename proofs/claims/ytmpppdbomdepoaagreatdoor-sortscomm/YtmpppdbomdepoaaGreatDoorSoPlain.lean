/- Sorting in plain words: merging, sorting by halves, what is in order, what is left when lines are to be unique; that in-order lists of the same lines are the same. -/
import Derived.Test.YtmpppdbomdepoaaGreatDoorKyPlain
namespace Go.Proofs.YtmpppdbomdepoaaGreatDoor.So
open Go.RowKit Ky

variable {α : Type}

/-! ### in order -/
def InO (c : α → α → Int) (l : List α) : Prop := l.Pairwise (fun a b => c a b ≤ 0)
def Strict (c : α → α → Int) (l : List α) : Prop := l.Pairwise (fun a b => c a b < 0)
/-- each one and the next -/
def Chain (r : α → α → Prop) : List α → Prop
  | [] => True
  | [_] => True
  | a :: b :: l => r a b ∧ Chain r (b :: l)
theorem chain_pair {r : α → α → Prop} (ht : ∀ a b d, r a b → r b d → r a d) : ∀ {l : List α}, Chain r l → l.Pairwise r
  | [], _ => .nil
  | [_], _ => List.pairwise_singleton _ _
  | a :: b :: l, h => by
    have i := chain_pair ht h.2
    refine List.pairwise_cons.2 ⟨?_, i⟩
    intro x hx
    rcases List.mem_cons.1 hx with rfl | hx
    · exact h.1
    · exact ht a b x h.1 ((List.pairwise_cons.1 i).1 x hx)
theorem pair_chain {r : α → α → Prop} : ∀ {l : List α}, l.Pairwise r → Chain r l
  | [], _ => trivial
  | [_], _ => trivial
  | a :: b :: l, h => ⟨(List.pairwise_cons.1 h).1 b (by simp), pair_chain (List.pairwise_cons.1 h).2⟩
theorem inO_chain {c : α → α → Int} (h : Ky.Good c) {l : List α} : InO c l ↔ Chain (fun a b => c a b ≤ 0) l := ⟨pair_chain, chain_pair h.tr⟩
theorem strict_chain {c : α → α → Int} (h : Ky.Good c) {l : List α} : Strict c l ↔ Chain (fun a b => c a b < 0) l := ⟨pair_chain, chain_pair (r := fun a b => c a b < 0) (fun _ _ _ h1 h2 => h.less h1 h2)⟩

/-- lists in order of the same things are the same, where none but the same are alike -/
theorem inO_same {c : α → α → Int} (h : Ky.Good c) (ha : ∀ a b, c a b = 0 → a = b) : ∀ {l m : List α}, l.Perm m → InO c l → InO c m → l = m
  | [], m, p, _, _ => by rw [List.nil_perm.1 p]
  | a :: l, [], p, _, _ => by have := p.length_eq; simp at this
  | a :: l, b :: m, p, h1, h2 => by
    have hab : a = b := by
      have m1 : a ∈ b :: m := p.subset (by simp)
      have m2 : b ∈ a :: l := p.symm.subset (by simp)
      rcases List.mem_cons.1 m1 with e | e
      · exact e
      · rcases List.mem_cons.1 m2 with e2 | e2
        · exact e2.symm
        · have q1 := (List.pairwise_cons.1 h2).1 a e
          have q2 := (List.pairwise_cons.1 h1).1 b e2
          have := h.tn a b
          exact ha a b (by omega)
    subst hab
    rw [inO_same h ha (List.perm_cons a |>.1 p) (List.pairwise_cons.1 h1).2 (List.pairwise_cons.1 h2).2]
theorem strict_same {c : α → α → Int} (h : Ky.Good c) : ∀ {l m : List α}, (∀ x, x ∈ l ↔ x ∈ m) → Strict c l → Strict c m → l = m
  | [], [], _, _, _ => rfl
  | [], b :: m, p, _, _ => by have := (p b).2 (by simp); simp at this
  | a :: l, [], p, _, _ => by have := (p a).1 (by simp); simp at this
  | a :: l, b :: m, p, h1, h2 => by
    have k1 := List.pairwise_cons.1 h1
    have k2 := List.pairwise_cons.1 h2
    have hab : a = b := by
      rcases List.mem_cons.1 ((p a).1 (by simp)) with e | e
      · exact e
      · rcases List.mem_cons.1 ((p b).2 (by simp)) with e2 | e2
        · exact e2.symm
        · have q1 := k2.1 a e
          have q2 := k1.1 b e2
          have := h.tn a b
          omega
    subst hab
    have n1 : ∀ x ∈ l, x ≠ a := fun x hx e => by have := k1.1 x hx; rw [e, h.self] at this; omega
    have n2 : ∀ x ∈ m, x ≠ a := fun x hx e => by have := k2.1 x hx; rw [e, h.self] at this; omega
    rw [strict_same h (l := l) (m := m) (fun x => ?_) k1.2 k2.2]
    constructor
    · intro hx
      rcases List.mem_cons.1 ((p x).1 (by simp [hx])) with e | e
      · exact absurd e (n1 x hx)
      · exact e
    · intro hx
      rcases List.mem_cons.1 ((p x).2 (by simp [hx])) with e | e
      · exact absurd e (n2 x hx)
      · exact e

/-! ### merging -/
def mrg (c : α → α → Int) : List α → List α → List α
  | [], b => b
  | a, [] => a
  | x :: a, y :: b => if c y x < 0 then y :: mrg c (x :: a) b else x :: mrg c a (y :: b)
termination_by a b => a.length + b.length
theorem mrg_nil (c : α → α → Int) (b : List α) : mrg c [] b = b := by rw [mrg]
theorem mrg_nil' (c : α → α → Int) (a : List α) : mrg c a [] = a := by
  cases a with
  | nil => rw [mrg]
  | cons x a => rw [mrg]; simp
theorem mrg_cons (c : α → α → Int) (x y : α) (a b : List α) : mrg c (x :: a) (y :: b) = if c y x < 0 then y :: mrg c (x :: a) b else x :: mrg c a (y :: b) := by rw [mrg]
theorem mrg_perm (c : α → α → Int) : ∀ (n : Nat) (a b : List α), a.length + b.length ≤ n → (mrg c a b).Perm (a ++ b)
  | _, [], b, _ => by rw [mrg_nil]; exact .refl _
  | _, x :: a, [], _ => by rw [mrg_nil', List.append_nil]
  | 0, x :: a, y :: b, h => by simp at h
  | n + 1, x :: a, y :: b, h => by
    simp only [List.length_cons] at h
    rw [mrg_cons]
    split
    · refine ((mrg_perm c n (x :: a) b (by simp; omega)).cons y).trans ?_
      exact List.perm_middle.symm
    · exact (mrg_perm c n a (y :: b) (by simp; omega)).cons x
theorem mrg_in {c : α → α → Int} (h : Ky.Good c) : ∀ (n : Nat) (a b : List α), a.length + b.length ≤ n → InO c a → InO c b → InO c (mrg c a b)
  | _, [], b, _, _, hb => by rw [mrg_nil]; exact hb
  | _, x :: a, [], _, ha, _ => by rw [mrg_nil']; exact ha
  | 0, x :: a, y :: b, hl, _, _ => by simp at hl
  | n + 1, x :: a, y :: b, hl, ha, hb => by
    simp only [List.length_cons] at hl
    have ka := List.pairwise_cons.1 ha
    have kb := List.pairwise_cons.1 hb
    rw [mrg_cons]
    split
    · rename_i hc
      refine List.pairwise_cons.2 ⟨fun z hz => ?_, mrg_in h n (x :: a) b (by simp; omega) ha kb.2⟩
      have hz2 := (mrg_perm c _ (x :: a) b (Nat.le_refl _)).subset hz
      rcases List.mem_append.1 hz2 with q | q
      · rcases List.mem_cons.1 q with rfl | q
        · omega
        · exact h.tr y x z (by omega) (ka.1 z q)
      · exact kb.1 z q
    · rename_i hc
      have hxy : c x y ≤ 0 := by have := h.tn x y; omega
      refine List.pairwise_cons.2 ⟨fun z hz => ?_, mrg_in h n a (y :: b) (by simp; omega) ka.2 hb⟩
      have hz2 := (mrg_perm c _ a (y :: b) (Nat.le_refl _)).subset hz
      rcases List.mem_append.1 hz2 with q | q
      · exact ka.1 z q
      · rcases List.mem_cons.1 q with rfl | q
        · exact hxy
        · exact h.tr x y z hxy (kb.1 z q)
/-- those that are alike stay in the order in which they came -/
theorem mrg_stable {c : α → α → Int} (h : Ky.Good c) (u : α) : ∀ (n : Nat) (a b : List α), a.length + b.length ≤ n → InO c a → InO c b → (mrg c a b).filter (fun x => c u x == 0) = a.filter (fun x => c u x == 0) ++ b.filter (fun x => c u x == 0)
  | _, [], b, _, _, _ => by rw [mrg_nil]; rfl
  | _, x :: a, [], _, _, _ => by rw [mrg_nil']; simp
  | 0, x :: a, y :: b, hl, _, _ => by simp at hl
  | n + 1, x :: a, y :: b, hl, ha, hb => by
    simp only [List.length_cons] at hl
    have ka := List.pairwise_cons.1 ha
    have kb := List.pairwise_cons.1 hb
    rw [mrg_cons]
    split
    · rename_i hc
      have i := mrg_stable h u n (x :: a) b (by simp; omega) ha kb.2
      rw [List.filter_cons, i]
      by_cases hy : c u y = 0
      · have e : (x :: a).filter (fun x => c u x == 0) = [] := by
          rw [List.filter_eq_nil_iff]
          intro z hz
          have hxz : c x z ≤ 0 := by
            rcases List.mem_cons.1 hz with rfl | q
            · rw [h.self]; exact Int.le_refl _
            · exact ka.1 z q
          have s := h.same hy z
          have hyz : c y z < 0 := by
            by_cases e : c y z = 0
            · have s2 := h.same' e x
              have t1 := h.tn y x
              have t2 := h.tn z x
              have t3 := h.tn x z
              have t4 := h.tn x y
              omega
            · have := h.tr y x z (by omega) hxz; omega
          simp; omega
        rw [e]
        simp [hy]
      · have e : (c u y == 0) = false := by simpa using hy
        rw [List.filter_cons (x := y), e]; simp
    · rw [List.filter_cons, mrg_stable h u n a (y :: b) (by simp; omega) ka.2 hb, List.filter_cons (x := x) (xs := a)]
      split <;> simp

/-! ### sorting by halves -/
def ms (c : α → α → Int) (l : List α) : List α := if _h : l.length < 2 then l else mrg c (ms c (l.take (l.length / 2))) (ms c (l.drop (l.length / 2)))
termination_by l.length
decreasing_by
  · rw [List.length_take]; omega
  · rw [List.length_drop]; omega
theorem ms_few (c : α → α → Int) {l : List α} (h : l.length < 2) : ms c l = l := by rw [ms, dif_pos h]
theorem ms_many (c : α → α → Int) {l : List α} (h : ¬ l.length < 2) : ms c l = mrg c (ms c (l.take (l.length / 2))) (ms c (l.drop (l.length / 2))) := by rw [ms, dif_neg h]
theorem ms_all {c : α → α → Int} (h : Ky.Good c) : ∀ (n : Nat) (l : List α), l.length ≤ n → (ms c l).Perm l ∧ InO c (ms c l) ∧ ∀ u, (ms c l).filter (fun x => c u x == 0) = l.filter (fun x => c u x == 0) := by
  intro n
  induction n with
  | zero => intro l hl; rw [ms_few c (by omega)]; obtain rfl := List.eq_nil_of_length_eq_zero (by omega : l.length = 0); exact ⟨.refl _, .nil, fun _ => rfl⟩
  | succ n ih =>
    intro l hl
    by_cases h2 : l.length < 2
    · rw [ms_few c h2]
      refine ⟨.refl _, ?_, fun _ => rfl⟩
      match l, h2 with
      | [], _ => exact .nil
      | [x], _ => exact List.pairwise_singleton _ _
      | _ :: _ :: _, h2 => simp at h2; omega
    · obtain ⟨p1, o1, s1⟩ := ih (l.take (l.length / 2)) (by rw [List.length_take]; omega)
      obtain ⟨p2, o2, s2⟩ := ih (l.drop (l.length / 2)) (by rw [List.length_drop]; omega)
      rw [ms_many c h2]
      refine ⟨?_, mrg_in h _ _ _ (Nat.le_refl _) o1 o2, fun u => ?_⟩
      · have := (mrg_perm c _ _ _ (Nat.le_refl _)).trans (p1.append p2)
        rwa [List.take_append_drop] at this
      · rw [mrg_stable h u _ _ _ (Nat.le_refl _) o1 o2, s1, s2, ← List.filter_append, List.take_append_drop]
/-- of a list in order: of those that are alike the first -/
def uqr (c : α → α → Int) (p : α) : List α → List α
  | [] => []
  | y :: l => if c p y = 0 then uqr c y l else y :: uqr c y l
def uq (c : α → α → Int) : List α → List α
  | [] => []
  | x :: l => x :: uqr c x l
theorem uqr_mem {c : α → α → Int} : ∀ (p : α) (l : List α) (x : α), x ∈ uqr c p l → x ∈ l
  | _, [], _, h => by simp [uqr] at h
  | p, y :: l, x, h => by
    unfold uqr at h
    split at h
    · exact List.mem_cons_of_mem _ (uqr_mem y l x h)
    · rcases List.mem_cons.1 h with rfl | h
      · simp
      · exact List.mem_cons_of_mem _ (uqr_mem y l x h)
theorem uqr_above {c : α → α → Int} (h : Ky.Good c) : ∀ (p : α) (l : List α), InO c (p :: l) → (∀ x ∈ uqr c p l, c p x < 0) ∧ Strict c (uqr c p l)
  | _, [], _ => ⟨by simp [uqr], .nil⟩
  | p, y :: l, ho => by
    have k := List.pairwise_cons.1 ho
    have hpy := k.1 y (by simp)
    obtain ⟨i1, i2⟩ := uqr_above h y l k.2
    unfold uqr
    split
    · rename_i e
      exact ⟨fun x hx => by rw [h.same e x]; exact i1 x hx, i2⟩
    · refine ⟨fun x hx => ?_, List.pairwise_cons.2 ⟨i1, i2⟩⟩
      rcases List.mem_cons.1 hx with rfl | hx
      · omega
      · exact h.less (by omega) (i1 x hx)
theorem uq_strict {c : α → α → Int} (h : Ky.Good c) (l : List α) (ho : InO c l) : Strict c (uq c l) := by
  cases l with
  | nil => exact .nil
  | cons x l =>
    obtain ⟨i1, i2⟩ := uqr_above h x l ho
    exact List.pairwise_cons.2 ⟨i1, i2⟩
/-- the first of those that are alike -/
def First (c : α → α → Int) (l : List α) (x : α) : Prop := (l.filter (fun y => c x y == 0)).head? = some x
theorem uqr_first {c : α → α → Int} (h : Ky.Good c) : ∀ (p : α) (l : List α), InO c (p :: l) → ∀ x, x ∈ uqr c p l ↔ (¬ c p x = 0 ∧ First c l x)
  | p, [], _, x => by simp [uqr, First]
  | p, y :: l, ho, x => by
    have k := List.pairwise_cons.1 ho
    have hpy := k.1 y (by simp)
    have i := uqr_first h y l k.2 x
    unfold uqr First
    rw [List.filter_cons]
    split
    · rename_i e
      rw [i, h.same e x]
      unfold First
      constructor
      · rintro ⟨a1, a2⟩
        refine ⟨a1, ?_⟩
        have : (c x y == 0) = false := by have := h.tn y x; simp; omega
        rw [this]; simpa using a2
      · rintro ⟨a1, a2⟩
        refine ⟨a1, ?_⟩
        have : (c x y == 0) = false := by have := h.tn y x; simp; omega
        rw [this] at a2; simpa using a2
    · rename_i e
      rw [List.mem_cons, i]
      unfold First
      by_cases hxy : c x y = 0
      · have t : (c x y == 0) = true := by simp [hxy]
        rw [t]
        simp only [if_true, List.head?_cons, Option.some.injEq]
        constructor
        · rintro (rfl | ⟨a1, a2⟩)
          · exact ⟨e, rfl⟩
          · have := h.tn y x; omega
        · rintro ⟨a1, a2⟩; exact .inl a2.symm
      · have t : (c x y == 0) = false := by simpa using hxy
        rw [t]
        simp only [Bool.false_eq_true, if_false]
        constructor
        · rintro (rfl | ⟨a1, a2⟩)
          · rw [h.self] at hxy; exact absurd rfl hxy
          · refine ⟨fun q => ?_, a2⟩
            have hx : x ∈ l := by
              have := List.mem_of_head? a2
              exact (List.mem_filter.1 this).1
            have q1 := (List.pairwise_cons.1 k.2).1 x hx
            have q2 := h.tn p y
            have q3 := h.same q y
            have q4 := h.tn x y
            omega
        · rintro ⟨a1, a2⟩
          exact .inr ⟨by have := h.tn x y; omega, a2⟩
theorem uq_first {c : α → α → Int} (h : Ky.Good c) (l : List α) (ho : InO c l) (x : α) : x ∈ uq c l ↔ First c l x := by
  cases l with
  | nil => simp [uq, First]
  | cons y l =>
    unfold uq
    rw [List.mem_cons, uqr_first h y l ho x]
    unfold First
    rw [List.filter_cons]
    by_cases hxy : c x y = 0
    · have t : (c x y == 0) = true := by simp [hxy]
      rw [t]
      simp only [if_true, List.head?_cons, Option.some.injEq]
      constructor
      · rintro (rfl | ⟨a1, a2⟩)
        · rfl
        · have := h.tn y x; omega
      · intro a; exact .inl a.symm
    · have t : (c x y == 0) = false := by simpa using hxy
      rw [t]
      simp only [Bool.false_eq_true, if_false]
      constructor
      · rintro (rfl | ⟨a1, a2⟩)
        · rw [h.self] at hxy; exact absurd rfl hxy
        · exact a2
      · intro a; exact .inr ⟨by have := h.tn x y; omega, a⟩
/-- the whole of it: a list that is strictly in order, and holds just the first ones, is it -/
theorem uq_is {c : α → α → Int} (h : Ky.Good c) (l r : List α) (hs : Strict c r) (hf : ∀ x, x ∈ r ↔ First c l x) : r = uq c (ms c l) := by
  obtain ⟨_, o, s⟩ := ms_all h _ l (Nat.le_refl _)
  refine strict_same h (fun x => ?_) hs (uq_strict h _ o)
  rw [hf, uq_first h _ o]
  unfold First
  rw [s]
/-- a list in order of the same lines is it -/
theorem ms_is {c : α → α → Int} (h : Ky.Good c) (ha : ∀ a b, c a b = 0 → a = b) (l r : List α) (p : r.Perm l) (o : InO c r) : r = ms c l := by
  obtain ⟨p2, o2, _⟩ := ms_all h _ l (Nat.le_refl _)
  exact inO_same h ha (p.trans p2.symm) o o2
end Go.Proofs.YtmpppdbomdepoaaGreatDoor.So
