/- What follows of sorting: the same lines, again, turned about, unique, merged. -/
import Derived.Test.YtmpppdbomdepoaaGreatDoorSoLines
namespace Go.Proofs.YtmpppdbomdepoaaGreatDoor.So
open Go.RowKit Ky

theorem sort_all (o : Ky.Ord) (l : Ls) : (sortL o false l).Perm l ∧ InO (cB o false) (sortL o false l) := by
  obtain ⟨p, q, _⟩ := ms_all (good_cB o false) _ l (Nat.le_refl _)
  exact ⟨p, q⟩
theorem sort_is (o : Ky.Ord) (l r : Ls) (p : r.Perm l) (h : InO (cB o false) r) : r = sortL o false l := ms_is (good_cB o false) (cB_same o) l r p h
/-- sorted again they stay as they are -/
theorem sort_again (o : Ky.Ord) (l : Ls) : sortL o false (sortL o false l) = sortL o false l :=
  (sort_is o (sortL o false l) (sortL o false l) (.refl _) (sort_all o l).2).symm
/-- they are in order -/
theorem sort_checks (o : Ky.Ord) (hok : okO o = true) (l : Ls) : checkL o false (sortL o false l) = -1 := (check_in o hok _).2 (sort_all o l).2
/-- each as often -/
theorem sort_count (o : Ky.Ord) (l : Ls) (s : ByteArray → Bool) : (sortL o false l).countP s = l.countP s := (sort_all o l).1.countP_eq s
/-- in whatever order they came -/
theorem sort_perm (o : Ky.Ord) {l m : Ls} (p : l.Perm m) : sortL o false l = sortL o false m :=
  sort_is o m _ ((sort_all o l).1.trans p) (sort_all o l).2
theorem inO_reverse {α : Type} {c d : α → α → Int} (h : Ky.Good c) (e : ∀ a b, d a b = -c a b) {l : List α} (hi : InO c l) : InO d l.reverse := by
  unfold InO at *
  rw [List.pairwise_reverse]
  refine hi.imp fun {a b} hab => ?_
  rw [e, h.tn a b]; omega
/-- by the order turned about -/
theorem sort_turned (o : Ky.Ord) (l : Ls) : sortL { o with rev := !o.rev } false l = (sortL o false l).reverse := by
  obtain ⟨p, q⟩ := sort_all o l
  exact (sort_is { o with rev := !o.rev } l _ ((List.reverse_perm _).trans p) (inO_reverse (good_cB o false) (cB_turn o) q)).symm
/-- merging: lists in order, one behind the other, sorted -/
theorem sort_app (o : Ky.Ord) (l m : Ls) : sortL o false (sortL o false l ++ sortL o false m) = sortL o false (l ++ m) :=
  sort_perm o ((sort_all o l).1.append (sort_all o m).1)

/-! ### unique -/
theorem bad_unique (o : Ky.Ord) (a b : ByteArray) : badB o true a b = false ↔ cB o true a b < 0 := by
  have t := (good_cmpA o).tn a.data.toList b.data.toList
  have e : cB o true a b = Ky.compare o a.data.toList b.data.toList := rfl
  have e2 : cB o false b a = cmpA o b.data.toList a.data.toList := rfl
  unfold badB
  rw [e2, t, e]
  constructor
  · intro h; simp at h; omega
  · intro h
    have h3 : cmpA o a.data.toList b.data.toList = Ky.compare o a.data.toList b.data.toList := by
      unfold cmpA Ky.lex; rw [if_neg (by omega)]
    rw [h3]; simp; omega
theorem badAt_unique (o : Ky.Ord) : ∀ (n : Nat) (a : ByteArray) (l : Ls), badAt o true n a l = -1 ↔ Chain (fun a b => cB o true a b < 0) (a :: l)
  | _, _, [] => by simp [badAt, Chain]
  | n, a, b :: l => by
    have i := badAt_unique o (n + 1) b l
    have q := bad_unique o a b
    unfold badAt
    cases h : badB o true a b
    · simp only [Bool.false_eq_true, if_false, Chain, i]
      rw [h] at q
      have := q.1 rfl
      simp [this]
    · rw [h] at q
      have : ¬ cB o true a b < 0 := fun w => by have := q.2 w; simp at this
      simp only [if_true, Chain]
      constructor
      · intro hn; omega
      · intro hc; exact absurd hc.1 this
theorem unique_checks (o : Ky.Ord) (hok : okO o = true) (l : Ls) : checkL o true (sortL o true l) = -1 := by
  have hs : Strict (cB o true) (sortL o true l) := by
    obtain ⟨_, q, _⟩ := ms_all (good_cB o true) _ l (Nat.le_refl _)
    exact uq_strict (good_cB o true) _ q
  rw [strict_chain (good_cB o true)] at hs
  cases h : sortL o true l with
  | nil => rfl
  | cons a m =>
    rw [h] at hs
    unfold checkL; rw [hok]; simp only [Bool.true_eq_false, if_false]
    exact (badAt_unique o 1 a m).2 hs
theorem unique_mem (o : Ky.Ord) (l : Ls) (x : ByteArray) : x ∈ sortL o true l ↔ First (cB o true) l x := by
  obtain ⟨_, q, s⟩ := ms_all (good_cB o true) _ l (Nat.le_refl _)
  have := uq_first (good_cB o true) _ q x
  unfold First at this ⊢
  rw [s] at this
  exact this
/-- the first ones, in the order in which they came -/
def firsts (c : ByteArray → ByteArray → Int) (seen : Ls) : Ls → Ls
  | [] => []
  | x :: l => if seen.any (fun y => c y x == 0) = true then firsts c (seen ++ [x]) l else x :: firsts c (seen ++ [x]) l
theorem firsts_mem {c : ByteArray → ByteArray → Int} (h : Ky.Good c) : ∀ (l seen : Ls) (x : ByteArray), x ∈ firsts c seen l ↔ (∀ y ∈ seen, ¬ c y x = 0) ∧ First c l x
  | [], seen, x => by simp [firsts, First]
  | a :: l, seen, x => by
    have i := firsts_mem h l (seen ++ [a]) x
    have hsn : (∀ y ∈ seen ++ [a], ¬ c y x = 0) ↔ (∀ y ∈ seen, ¬ c y x = 0) ∧ ¬ c a x = 0 := by
      constructor
      · intro q; exact ⟨fun y hy => q y (by simp [hy]), q a (by simp)⟩
      · intro q y hy
        rcases List.mem_append.1 hy with e | e
        · exact q.1 y e
        · simp at e; subst e; exact q.2
    have tn := h.tn a x
    unfold First at i ⊢
    rw [List.filter_cons]
    unfold firsts
    cases hs : seen.any (fun y => c y a == 0)
    · simp only [Bool.false_eq_true, if_false]
      rw [List.mem_cons, i, hsn]
      have hno : ∀ y ∈ seen, ¬ c y a = 0 := fun y hy q => by
        have := List.any_eq_false.1 hs y hy
        simp at this; exact this q
      by_cases hxa : c x a = 0
      · have t : (c x a == 0) = true := by simp [hxa]
        rw [t]
        simp only [if_true, List.head?_cons, Option.some.injEq]
        constructor
        · rintro (rfl | ⟨⟨_, q⟩, _⟩)
          · exact ⟨hno, rfl⟩
          · omega
        · rintro ⟨_, q⟩; exact .inl q.symm
      · have t : (c x a == 0) = false := by simpa using hxa
        rw [t]
        simp only [Bool.false_eq_true, if_false]
        constructor
        · rintro (rfl | ⟨⟨q1, _⟩, q2⟩)
          · rw [h.self] at hxa; exact absurd rfl hxa
          · exact ⟨q1, q2⟩
        · rintro ⟨q1, q2⟩; exact .inr ⟨⟨q1, by omega⟩, q2⟩
    · simp only [if_true]
      rw [i, hsn]
      obtain ⟨y, hy, hya⟩ := List.any_eq_true.1 hs
      have hya' : c y a = 0 := by simpa using hya
      by_cases hxa : c x a = 0
      · have t : (c x a == 0) = true := by simp [hxa]
        rw [t]
        simp only [if_true, List.head?_cons, Option.some.injEq]
        constructor
        · rintro ⟨⟨_, q⟩, _⟩; omega
        · rintro ⟨q, _⟩
          exfalso
          have e1 := h.same hya' x
          exact q y hy (by omega)
      · have t : (c x a == 0) = false := by simpa using hxa
        rw [t]
        simp only [Bool.false_eq_true, if_false]
        constructor
        · rintro ⟨⟨q1, _⟩, q2⟩; exact ⟨q1, q2⟩
        · rintro ⟨q1, q2⟩; exact ⟨⟨q1, by omega⟩, q2⟩
theorem firsts_apart {c : ByteArray → ByteArray → Int} (h : Ky.Good c) : ∀ (l seen : Ls), (firsts c seen l).Nodup
  | [], _ => by simp [firsts]
  | a :: l, seen => by
    have i := firsts_apart h l (seen ++ [a])
    unfold firsts
    split
    · exact i
    · refine List.nodup_cons.2 ⟨fun q => ?_, i⟩
      have := ((firsts_mem h l (seen ++ [a]) a).1 q).1 a (by simp)
      exact this (h.self a)
theorem strict_nodup {c : ByteArray → ByteArray → Int} (h : Ky.Good c) {r : Ls} (hs : Strict c r) : r.Nodup := by
  refine hs.imp fun {a b} hab e => ?_
  subst e
  rw [h.self] at hab
  omega
theorem unique_strict (o : Ky.Ord) (l : Ls) : Strict (cB o true) (sortL o true l) := by
  obtain ⟨_, q, _⟩ := ms_all (good_cB o true) _ l (Nat.le_refl _)
  exact uq_strict (good_cB o true) _ q
/-- as many as there are first ones -/
theorem unique_many (o : Ky.Ord) (l : Ls) : (firsts (cB o true) [] l).length = (sortL o true l).length := by
  have n1 := firsts_apart (good_cB o true) l []
  have n2 := strict_nodup (good_cB o true) (unique_strict o l)
  refine ((List.perm_ext_iff_of_nodup n1 n2).2 fun x => ?_).length_eq
  rw [firsts_mem (good_cB o true), unique_mem]
  simp
/-- each once -/
theorem nodup_count : ∀ {r : Ls} (x : ByteArray), r.Nodup → x ∈ r → r.countP (fun y => decide (y = x)) = 1
  | [], _, _, h => by simp at h
  | a :: r, x, hn, h => by
    have k := List.nodup_cons.1 hn
    by_cases e : a = x
    · subst e
      have : r.countP (fun y => decide (y = a)) = 0 := by
        rw [List.countP_eq_zero]
        intro y hy
        simp
        rintro rfl
        exact k.1 hy
      simp [this]
    · have hx : x ∈ r := by
        rcases List.mem_cons.1 h with q | q
        · exact absurd q.symm e
        · exact q
      simp [e, nodup_count x k.2 hx]
end Go.Proofs.YtmpppdbomdepoaaGreatDoor.So
