/- Items in order are the lines in order: what Sort answers, in plain words. -/
import Derived.Test.YtmpppdbomdepoaaGreatDoorSoItems
import Derived.Test.YtmpppdbomdepoaaGreatDoorSoFacts
namespace Go.Proofs.YtmpppdbomdepoaaGreatDoor.So
open Go.RowKit Ky

theorem ok_o0 (o : Ky.Ord) : okO (o0 o) = true := by unfold okO o0; simp
theorem key_o0 (o : Ky.Ord) (s : Bs) : key (o0 o) s = s := by unfold key; rw [ok_o0]; simp [o0]
theorem compare_o0 (o : Ky.Ord) (h : okO o = true) (a b : Bs) : Ky.compare (o0 o) (key o a) (key o b) = Ky.compare o a b := by
  unfold Ky.compare
  rw [ok_o0, h, key_o0, key_o0]
  rfl
/-- items that are lines with their keys -/
def Keyed (o : Ky.Ord) (x : It) : Prop := x.key = Ln.bt (key o x.line.data.toList)
theorem itemsL_keyed (o : Ky.Ord) (A : Ls) : ∀ x ∈ itemsL o A, Keyed o x := by
  intro x hx
  obtain ⟨i, _, rfl⟩ := itemsL_mem o A x hx
  rfl
theorem cmpK_is (o : Ky.Ord) (h : okO o = true) (x y : It) (hx : Keyed o x) (hy : Keyed o y) : cmpK o x y = cB o true x.line y.line := by
  unfold cmpK cB
  rw [if_pos rfl, hx, hy]
  exact compare_o0 o h _ _
theorem cmpY_is (o : Ky.Ord) (x y : It) : cmpY o x y = (if o.rev = true then (fun a b => -cmpL a b) else cmpL) x.line.data.toList y.line.data.toList := by
  unfold cmpY
  cases o.rev
  · rfl
  · simp only [if_true]; exact good_cmpL.tn _ _
theorem cmpS_is (o : Ky.Ord) (h : okO o = true) (x y : It) (hx : Keyed o x) (hy : Keyed o y) : Ky.lex (cmpK o) (cmpY o) x y = cB o false x.line y.line := by
  have e1 := cmpK_is o h x y hx hy
  have e2 : cB o true x.line y.line = Ky.compare o x.line.data.toList y.line.data.toList := rfl
  have e3 : cB o false x.line y.line = cmpA o x.line.data.toList y.line.data.toList := rfl
  rw [e3]
  unfold cmpA Ky.lex
  rw [e1, e2, cmpY_is]
theorem good_cmpK (o : Ky.Ord) : Ky.Good (cmpK o) := (good_compare (o0 o)).comap (fun x : It => x.key.data.toList)
theorem good_cmpY (o : Ky.Ord) : Ky.Good (cmpY o) := by
  have h : Ky.Good (fun x y : It => (if o.rev = true then (fun a b => -cmpL a b) else cmpL) x.line.data.toList y.line.data.toList) := by
    split
    · exact good_cmpL.neg.comap (fun x : It => x.line.data.toList)
    · exact good_cmpL.comap (fun x : It => x.line.data.toList)
  have e : cmpY o = (fun x y : It => (if o.rev = true then (fun a b => -cmpL a b) else cmpL) x.line.data.toList y.line.data.toList) := by funext x y; exact cmpY_is o x y
  rw [e]; exact h
theorem good_cmpP : Ky.Good cmpP := good_cmpI.comap (fun x : It => x.place)
theorem inO_map {α β : Type} (f : α → β) {c : α → α → Int} {d : β → β → Int} {l : List α} (h : InO c l) (e : ∀ x ∈ l, ∀ y ∈ l, d (f x) (f y) = c x y) : InO d (l.map f) := by
  unfold InO at *
  rw [List.pairwise_map]
  refine List.Pairwise.imp_of_mem ?_ h
  intro x y hx hy hxy
  rw [e x hx y hy]; exact hxy
theorem uqr_map {α β : Type} (f : α → β) {c : α → α → Int} {d : β → β → Int} : ∀ (p : α) (l : List α), (∀ x ∈ p :: l, ∀ y ∈ p :: l, d (f x) (f y) = c x y) → (uqr c p l).map f = uqr d (f p) (l.map f)
  | _, [], _ => rfl
  | p, y :: l, e => by
    have i := uqr_map f y l (fun a ha b hb => e a (List.mem_cons_of_mem _ ha) b (List.mem_cons_of_mem _ hb))
    have q := e p (by simp) y (by simp)
    simp only [List.map_cons, uqr, q]
    split
    · exact i
    · rw [List.map_cons, i]
theorem uq_map {α β : Type} (f : α → β) {c : α → α → Int} {d : β → β → Int} (l : List α) (e : ∀ x ∈ l, ∀ y ∈ l, d (f x) (f y) = c x y) : (uq c l).map f = uq d (l.map f) := by
  cases l with
  | nil => rfl
  | cons x l => simp only [uq, List.map_cons]; rw [uqr_map f x l e]

/-- not unique -/
theorem sorted_is (o : Ky.Ord) (h : okO o = true) (A : Ls) (S : List It) (p : S.Perm (itemsL o A)) (i : InO (Ky.lex (cmpK o) (cmpY o)) S) : S.map It.line = sortL o false A := by
  have hk : ∀ x ∈ S, Keyed o x := fun x hx => itemsL_keyed o A x (p.subset hx)
  refine sort_is o A _ ?_ (inO_map It.line i (fun x hx y hy => (cmpS_is o h x y (hk x hx) (hk y hy)).symm))
  have := p.map It.line
  rwa [itemsL_lines] at this
theorem items_rise (o : Ky.Ord) (A : Ls) : (itemsL o A).Pairwise (fun a b => a.place ≤ b.place) := by
  unfold itemsL
  rw [List.pairwise_map]
  refine List.pairwise_lt_range.imp ?_
  intro a b hab
  show (a : Int) ≤ (b : Int)
  omega
theorem cmpP_le {a b : It} (h : cmpP a b ≤ 0) : a.place ≤ b.place := by
  unfold cmpP Ky.cmpI at h
  split at h
  · omega
  · split at h <;> omega
/-- unique -/
theorem firsts_is (o : Ky.Ord) (h : okO o = true) (A : Ls) (S : List It) (p : S.Perm (itemsL o A)) (i : InO (Ky.lex (cmpK o) cmpP) S) : (uq (cmpK o) S).map It.line = sortL o true A := by
  have hk : ∀ x ∈ S, Keyed o x := fun x hx => itemsL_keyed o A x (p.subset hx)
  have hc : ∀ x ∈ S, ∀ y ∈ S, cB o true x.line y.line = cmpK o x y := fun x hx y hy => (cmpK_is o h x y (hk x hx) (hk y hy)).symm
  have hi : InO (cmpK o) S := i.imp fun {a b} q => by
    unfold Ky.lex at q
    split at q
    · omega
    · exact q
  have hR : InO (cB o true) (S.map It.line) := inO_map It.line hi hc
  rw [uq_map It.line S hc]
  show _ = uq (cB o true) (ms (cB o true) A)
  refine uq_is (good_cB o true) A _ (uq_strict (good_cB o true) _ hR) (fun x => ?_)
  rw [uq_first (good_cB o true) _ hR]
  unfold First
  have eA : A = (itemsL o A).map It.line := (itemsL_lines o A).symm
  have e : (S.map It.line).filter (fun y => cB o true x y == 0) = A.filter (fun y => cB o true x y == 0) := by
    conv => rhs; rw [eA]
    rw [List.filter_map, List.filter_map]
    congr 1
    refine List.Perm.eq_of_pairwise (le := fun a b => a.place ≤ b.place) ?_ ?_ ((items_rise o A).filter _) (p.filter _)
    · intro a b ha hb h1 h2
      obtain ⟨j, _, rfl⟩ := itemsL_mem o A a (p.subset (List.mem_filter.1 ha).1)
      obtain ⟨k, _, rfl⟩ := itemsL_mem o A b (List.mem_filter.1 hb).1
      have h1' : (j : Int) ≤ (k : Int) := h1
      have h2' : (k : Int) ≤ (j : Int) := h2
      rw [show j = k by omega]
    · have hf := List.Pairwise.filter ((fun y => cB o true x y == 0) ∘ It.line) i
      refine List.Pairwise.imp_of_mem ?_ hf
      intro a b ha hb q
      have ha1 := (List.mem_filter.1 ha).1
      have hb1 := (List.mem_filter.1 hb).1
      have ha2 : cB o true x a.line = 0 := by have := (List.mem_filter.1 ha).2; simpa using this
      have hb2 : cB o true x b.line = 0 := by have := (List.mem_filter.1 hb).2; simpa using this
      have hab : cmpK o a b = 0 := by
        rw [← hc a ha1 b hb1, ← (good_cB o true).same ha2]; exact hb2
      unfold Ky.lex at q
      rw [if_pos hab] at q
      exact cmpP_le q
  rw [e]
end Go.Proofs.YtmpppdbomdepoaaGreatDoor.So
