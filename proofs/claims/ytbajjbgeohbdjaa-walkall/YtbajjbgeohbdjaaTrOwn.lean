/- Nodes in a row of one's own. -/
import Derived.Test.YtbajjbgeohbdjaaTrTells
namespace Go.Proofs.Ytbajjbgeohbdjaa.Tr
open Go.RowKit Go.Proofs.Ytbajjbgeohbdjaa.Cu

/-- a node with the values of its data and its list -/
abbrev Nv := Nd × Value × Value
abbrev zNv : Nv := (nz, .slice none 0 0, .slice none 0 0)
def cellsOf (l : List Nv) : List Value := l.flatMap fun x => nc x.1 x.2.1 x.2.2
theorem nc_length (n : Nd) (d e : Value) : (nc n d e).length = 10 := rfl
theorem cellsOf_length (l : List Nv) : (cellsOf l).length = l.length * 10 := by
  induction l with
  | nil => rfl
  | cons r l ih => simp [cellsOf, nc] at ih ⊢; omega
theorem cellsOf_snoc (l : List Nv) (x : Nv) : cellsOf (l ++ [x]) = cellsOf l ++ nc x.1 x.2.1 x.2.2 := by simp [cellsOf]
theorem cellsOf_get (l : List Nv) (i j : Nat) (h : i < l.length) (hj : j < 10) : (cellsOf l)[i * 10 + j]? = (nc (l.getD i zNv).1 (l.getD i zNv).2.1 (l.getD i zNv).2.2)[j]? := by
  induction l generalizing i with
  | nil => simp at h
  | cons r l ih =>
    have e : cellsOf (r :: l) = nc r.1 r.2.1 r.2.2 ++ cellsOf l := by simp [cellsOf]
    rw [e]
    cases i with
    | zero => rw [List.getElem?_append_left (by rw [nc_length]; omega)]; simp
    | succ i =>
      rw [List.getElem?_append_right (by rw [nc_length]; omega), nc_length, show (i + 1) * 10 + j - 10 = i * 10 + j by omega, ih i (by simpa using h)]
      simp
/-- what a node holds is there -/
def Ox (w : World) (x : Nv) : Prop := ∃ da dc la lc, x.2.1 = .slice da x.1.data.length dc ∧ x.2.2 = .slice la x.1.list.length lc ∧ By w da x.1.data.length dc x.1.data ∧ Eg w la x.1.list.length lc x.1.list
theorem Ox.below {w w' : World} {x : Nv} (h : Ox w x) (hb : Below w.heap.size w w') : Ox w' x := by
  obtain ⟨da, dc, la, lc, h1, h2, h3, h4⟩ := h
  exact ⟨da, dc, la, lc, h1, h2, h3.below hb, h4.below hb⟩
theorem add_none (b off j : Nat) : (⟨b, off, none⟩ : Addr).add j = ⟨b, off + j, none⟩ := by unfold Addr.add; split <;> simp_all
theorem nd_map (l : List Nv) (i : Nat) (h : i < l.length) : nd (l.map (·.1)) i = (l.getD i zNv).1 := by
  unfold nd; simp [List.getD, h]
/-- the cells of a node in a row -/
theorem own_node {w : World} {base g n cap : Nat} {l : List Nv} {xs : List Value} (h : w.ownsRow base 42 10 (.slice (some ⟨g, 0, none⟩) n cap) n xs) (i : Nat) (hi : i < l.length) (hx : ∀ j, j < 10 → xs[i * 10 + j]? = (cellsOf l)[i * 10 + j]?) :
    N10 w g (i * 10) (l.getD i zNv).1 (l.getD i zNv).2.1 (l.getD i zNv).2.2 := by
  refine N10.at fun j u hj => ?_
  have hj5 : j < 10 := by rw [← nc_length (l.getD i zNv).1 (l.getD i zNv).2.1 (l.getD i zNv).2.2]; exact (List.getElem?_eq_some_iff.1 hj).1
  have h1 := h.cells (g := g) rfl (i * 10 + j) u (by rw [hx j hj5, cellsOf_get l i j hi hj5]; exact hj)
  rw [add_none, Nat.zero_add] at h1
  exact h1
theorem ng_of_own {w : World} {base : Nat} {v : Value} {l : List Nv} (h : w.ownsRow base 42 10 v l.length (cellsOf l)) (ho : ∀ x ∈ l, Ox w x) : ∃ a cap, v = .slice a l.length cap ∧ Ng w a l.length cap (l.map (·.1)) := by
  rcases h.2 with ⟨hv, hn⟩ | ⟨g, cap, cur, hv, hb, hg, hle, rest⟩
  · exact ⟨none, 0, by rw [hv, hn], by simp, by omega, fun _ => ⟨hn, rfl⟩, .inl hn⟩
  · subst hv
    refine ⟨some ⟨g, 0, none⟩, cap, rfl, by simp, hle, (by intro h; cases h), .inr ⟨g, 0, rfl, (Array.getElem?_eq_some_iff.1 hg).1, fun i hi => ?_⟩⟩
    rw [nd_map l i hi, Nat.zero_add]
    have h10 := own_node h i hi (fun _ _ => rfl)
    have hm : l.getD i zNv ∈ l := by simp [List.getD, List.getElem?_eq_getElem hi]
    obtain ⟨da, dc, la, lc, h1, h2, h3, h4⟩ := ho _ hm
    rw [h1, h2] at h10
    exact ⟨da, dc, la, lc, h10, h3, h4⟩
theorem by_nil (w : World) : By w none 0 0 [] := ⟨rfl, Nat.le_refl _, fun _ => ⟨rfl, rfl⟩, .inl rfl⟩
theorem eg_nil (w : World) : Eg w none 0 0 [] := ⟨rfl, Nat.le_refl _, fun _ => ⟨rfl, rfl⟩, .inl rfl⟩
end Go.Proofs.Ytbajjbgeohbdjaa.Tr
