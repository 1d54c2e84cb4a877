/- A tree of one's own in memory: what it is, and what is left when something of it is changed. -/
import Derived.Test.YtpcklgbcabpilaaGreatDoorCaCopy
import Derived.Laws.OwnMore
import Derived.Lib.SmallJoins
namespace Go.Proofs.YtpcklgbcabpilaaGreatDoor.Ca
open Go.RowKit Go.Proofs.YtpcklgbcabpilaaGreatDoor.Cu Go.Proofs.YtpcklgbcabpilaaGreatDoor.Tr

def entCells (es : List En) : List Value := es.flatMap ec
theorem entCells_length (es : List En) : (entCells es).length = es.length * 2 := by
  induction es with
  | nil => rfl
  | cons e l ih => simp [entCells, ec] at ih ⊢; omega
theorem entCells_get (l : List En) (i j : Nat) (h : i < l.length) (hj : j < 2) : (entCells l)[i * 2 + j]? = (ec (en l i))[j]? := by
  induction l generalizing i with
  | nil => simp at h
  | cons r l ih =>
    have e : entCells (r :: l) = ec r ++ entCells l := by simp [entCells]
    rw [e]
    cases i with
    | zero => rw [List.getElem?_append_left (by simp [ec]; omega)]; simp [en]
    | succ i =>
      rw [List.getElem?_append_right (by simp [ec]; omega), show (i + 1) * 2 + j - (ec r).length = i * 2 + j by simp [ec]; omega, ih i (by simpa using h)]
      simp [en]
theorem entCells_one (es : List En) : ∀ v ∈ entCells es, v.oneCell' = true := by
  intro v hv
  simp only [entCells, List.mem_flatMap] at hv
  obtain ⟨e, _, hv⟩ := hv
  simp only [ec, List.mem_cons, List.not_mem_nil, or_false] at hv
  rcases hv with rfl | rfl <;> rfl
theorem byteCells_one (l : Bs) : ∀ v ∈ Lib.byteCells l, v.oneCell' = true := by
  intro v hv
  simp only [Lib.byteCells, List.mem_map] at hv
  obtain ⟨c, _, rfl⟩ := hv
  rfl
abbrev RowE (B : Nat) (v : Value) (es : List En) (w : World) : Prop := w.ownsRow B 116 2 v es.length (entCells es)
abbrev RowN (B : Nat) (v : Value) (l : List Nv) (w : World) : Prop := w.ownsRow B 82 10 v l.length (cellsOf l)
/-- two nodes hold nothing in common -/
def Apt (x y : Nv) : Prop := (∀ k, x.2.1.ownBlock = some k → y.2.1.ownBlock ≠ some k) ∧ (∀ k, x.2.2.ownBlock = some k → y.2.2.ownBlock ≠ some k)
/-- what a node holds is one's own -/
def Hd (B : Nat) (w : World) (x : Nv) : Prop := Row B x.2.1 x.1.data w ∧ RowE B x.2.2 x.1.list w
/-- a tree of one's own: D is its box -/
structure Df (w : World) (B D : Nat) (now : Int) (v : Value) (l : List Nv) : Prop where
  box : w.heap[D]? = some (.cells #[v, .int .i64 now] 230)
  hD : B ≤ D
  row : RowN B v l w
  own : ∀ x ∈ l, Hd B w x
  ap : l.Pairwise Apt
theorem own_keep {w w' : World} {B : Nat} {e : TypeId} {s : Nat} {v : Value} {n : Nat} {xs : List Value} (h : w.ownsRow B e s v n xs) (hk : ∀ k, v.ownBlock = some k → w'.heap[k]? = w.heap[k]?) : w'.ownsRow B e s v n xs := by
  refine ⟨h.1, ?_⟩
  rcases h.2 with h0 | ⟨g, c, cur, rfl, e1, e2, e3⟩
  · exact .inl h0
  · exact .inr ⟨g, c, cur, rfl, e1, (hk g rfl).trans e2, e3⟩
theorem own_type {w : World} {B : Nat} {e : TypeId} {s : Nat} {v : Value} {n : Nat} {xs : List Value} (h : w.ownsRow B e s v n xs) {k : Nat} (hv : v.ownBlock = some k) : ∃ cur, w.heap[k]? = some (.cells cur e (0, 0)) := by
  rcases h.2 with ⟨rfl, _⟩ | ⟨g, c, cur, rfl, e1, e2, e3⟩
  · cases hv
  · cases hv; exact ⟨cur, e2⟩
theorem obj_ne {w : World} {a b : Nat} {c c' : Array Value} {e e' : TypeId} {f f' : Nat × Nat} (h : w.heap[a]? = some (.cells c e f)) (h' : w.heap[b]? = some (.cells c' e' f')) (hne : e ≠ e') : a ≠ b := fun q => by
  rw [q, h'] at h
  injection h with h
  injection h with _ h2 _
  exact hne h2.symm
theorem own_below {w w' : World} {B : Nat} {e : TypeId} {s : Nat} {v : Value} {n : Nat} {xs : List Value} (h : w.ownsRow B e s v n xs) (hb : Below w.heap.size w w') : w'.ownsRow B e s v n xs := own_keep h fun k hk => hb.block k (h.lt k hk).2
theorem Hd.below {B : Nat} {w w' : World} {x : Nv} (h : Hd B w x) (hb : Below w.heap.size w w') : Hd B w' x := ⟨own_below h.1 hb, own_below h.2 hb⟩
theorem Df.below {w w' : World} {B D : Nat} {now : Int} {v : Value} {l : List Nv} (h : Df w B D now v l) (hb : Below w.heap.size w w') : Df w' B D now v l :=
  ⟨(hb.block _ (Array.getElem?_eq_some_iff.1 h.box).1).trans h.box, h.hD, own_below h.row hb, fun x hx => (h.own x hx).below hb, h.ap⟩
/-- only blocks of nodes change: what nodes hold stays -/
theorem Hd.nodes {B : Nat} {w w' : World} {x : Nv} (h : Hd B w x) (hk : ∀ (k : Nat) (cur : Array Value), (w.heap[k]? = some (Obj.cells cur 5 (0, 0)) ∨ w.heap[k]? = some (Obj.cells cur 116 (0, 0))) → w'.heap[k]? = w.heap[k]?) : Hd B w' x :=
  ⟨own_keep h.1 fun k hv => (own_type h.1 hv).elim fun cur hc => hk k cur (.inl hc), own_keep h.2 fun k hv => (own_type h.2 hv).elim fun cur hc => hk k cur (.inr hc)⟩
theorem ox_of {B : Nat} {w : World} {x : Nv} (h : Hd B w x) : Ox w x := by
  obtain ⟨h1, h2⟩ := h
  have e1 : ∃ da dc, x.2.1 = .slice da x.1.data.length dc ∧ By w da x.1.data.length dc x.1.data := by
    rcases h1.2 with ⟨hv, h0⟩ | ⟨g, cap, cur, hv, hb, hg, hle, hmx, hsz, htk⟩
    · exact ⟨none, 0, by rw [hv, h0], by simp, by omega, fun _ => ⟨h0, rfl⟩, .inl h0⟩
    · refine ⟨some ⟨g, 0, none⟩, cap, hv, rfl, hle, (by intro q; cases q), .inr ⟨g, 0, rfl, (Array.getElem?_eq_some_iff.1 hg).1, fun i hi => ?_⟩⟩
      rw [hv] at h1
      have := h1.cellAt i (by omega)
      rw [Nat.zero_add, this]
      simp [Lib.byteCells, hi]
  have e2 : ∃ la lc, x.2.2 = .slice la x.1.list.length lc ∧ Eg w la x.1.list.length lc x.1.list := by
    rcases h2.2 with ⟨hv, h0⟩ | ⟨g, cap, cur, hv, hb, hg, hle, hmx, hsz, htk⟩
    · exact ⟨none, 0, by rw [hv, h0], by simp, by omega, fun _ => ⟨h0, rfl⟩, .inl h0⟩
    · refine ⟨some ⟨g, 0, none⟩, cap, hv, rfl, hle, (by intro q; cases q), .inr ⟨g, 0, rfl, (Array.getElem?_eq_some_iff.1 hg).1, fun i hi => ?_⟩⟩
      rw [hv] at h2
      have c0 := h2.cellAt (i * 2 + 0) (by omega)
      have c1 := h2.cellAt (i * 2 + 1) (by omega)
      rw [entCells_get _ i 0 hi (by omega)] at c0
      rw [entCells_get _ i 1 hi (by omega)] at c1
      rw [Nat.zero_add]
      exact ⟨c0, c1⟩
  obtain ⟨da, dc, q1, q2⟩ := e1
  obtain ⟨la, lc, q3, q4⟩ := e2
  exact ⟨da, dc, la, lc, q1, q3, q2, q4⟩
/-- what a tree of one's own is as a tree that came in -/
theorem Df.ng {w : World} {B D : Nat} {now : Int} {v : Value} {l : List Nv} (h : Df w B D now v l) : ∃ a cap, v = .slice a l.length cap ∧ Ng w a l.length cap (l.map (·.1)) := ng_of_own h.row fun x hx => ox_of (h.own x hx)
/-- the cells of nodes that came in, with the values of what they hold -/
theorem ng_nv {w : World} {a : Option Addr} {n cap : Nat} {ns : List Nd} (h : Ng w a n cap ns) : ∃ l : List Nv, l.map (·.1) = ns ∧ (∀ x ∈ l, Ox w x) ∧ (n = 0 ∨ ∃ b off, a = some ⟨b, off, none⟩ ∧ b < w.heap.size ∧ ∀ j v, (cellsOf l)[j]? = some v → w.cell? ⟨b, off + j, none⟩ = some v) := by
  rcases h.cells with h0 | ⟨b, off, rfl, hb, hc⟩
  · obtain rfl : ns = [] := List.eq_nil_of_length_eq_zero (by rw [h.len, h0])
    exact ⟨[], rfl, by simp, .inl h0⟩
  · have hl := h.len
    have q : ∀ k, k ≤ n → ∃ l : List Nv, l.map (·.1) = ns.take k ∧ (∀ x ∈ l, Ox w x) ∧ ∀ j v, (cellsOf l)[j]? = some v → w.cell? ⟨b, off + j, none⟩ = some v := by
      intro k
      induction k with
      | zero => intro _; exact ⟨[], by simp, by simp, fun j v hj => by simp [cellsOf] at hj⟩
      | succ k ih =>
        intro hk
        obtain ⟨l, h1, h2, h3⟩ := ih (by omega)
        obtain ⟨da, dc, la, lc, q1, q2, q3⟩ := hc k (by omega)
        have hll : l.length = k := by have := congrArg List.length h1; simp at this; omega
        refine ⟨l ++ [(nd ns k, .slice da (nd ns k).data.length dc, .slice la (nd ns k).list.length lc)], ?_, ?_, ?_⟩
        · rw [List.map_append, h1, take_nd ns k (by omega)]; rfl
        · intro x hx
          rcases List.mem_append.1 hx with hx | hx
          · exact h2 x hx
          · simp at hx; subst hx; exact ⟨da, dc, la, lc, rfl, rfl, q2, q3⟩
        · intro j v hj
          rw [cellsOf_snoc] at hj
          by_cases hlt : j < (cellsOf l).length
          · rw [List.getElem?_append_left hlt] at hj; exact h3 j v hj
          · rw [List.getElem?_append_right (by omega), cellsOf_length, hll] at hj
            rw [cellsOf_length, hll] at hlt
            obtain ⟨p, hp⟩ : ∃ p, j = k * 10 + p := ⟨j - k * 10, by omega⟩
            subst hp
            rw [show k * 10 + p - k * 10 = p by omega] at hj
            have hp10 : p < 10 := by have := (List.getElem?_eq_some_iff.1 hj).1; simpa [nc] using this
            rw [← Nat.add_assoc]
            match p, hp10 with
            | 0, _ => simp [nc] at hj; subst hj; exact q1.c0
            | 1, _ => simp [nc] at hj; subst hj; exact q1.c1
            | 2, _ => simp [nc] at hj; subst hj; exact q1.c2
            | 3, _ => simp [nc] at hj; subst hj; exact q1.c3
            | 4, _ => simp [nc] at hj; subst hj; exact q1.c4
            | 5, _ => simp [nc] at hj; subst hj; exact q1.c5
            | 6, _ => simp [nc] at hj; subst hj; exact q1.c6
            | 7, _ => simp [nc] at hj; subst hj; exact q1.c7
            | 8, _ => simp [nc] at hj; subst hj; exact q1.c8
            | 9, _ => simp [nc] at hj; subst hj; exact q1.c9
    obtain ⟨l, h1, h2, h3⟩ := q n (Nat.le_refl _)
    rw [List.take_of_length_le (by omega)] at h1
    exact ⟨l, h1, h2, .inr ⟨b, off, rfl, hb, h3⟩⟩
theorem nv_one {w : World} {l : List Nv} (h : ∀ x ∈ l, Ox w x) : ∀ v ∈ cellsOf l, v.oneCell' = true := by
  intro v hv
  simp only [cellsOf, List.mem_flatMap] at hv
  obtain ⟨x, hx, hv⟩ := hv
  obtain ⟨da, dc, la, lc, h1, h2, -, -⟩ := h x hx
  rw [h1, h2] at hv
  simp only [nc, List.mem_cons, List.not_mem_nil, or_false] at hv
  rcases hv with rfl | rfl | rfl | rfl | rfl | rfl | rfl | rfl | rfl | rfl <;> rfl
/-- one node of a row becomes another one, cell by cell -/
theorem cellsOf_set (l : List Nv) (i j : Nat) (x' : Nv) (u : Value) (hi : i < l.length) (hj : j < 10) (he : nc x'.1 x'.2.1 x'.2.2 = (nc (l.getD i zNv).1 (l.getD i zNv).2.1 (l.getD i zNv).2.2).set j u) : cellsOf (l.set i x') = (cellsOf l).set (i * 10 + j) u := by
  induction l generalizing i with
  | nil => simp at hi
  | cons r l ih =>
    have e : ∀ r l, cellsOf (r :: l) = nc r.1 r.2.1 r.2.2 ++ cellsOf l := fun r l => by simp [cellsOf]
    cases i with
    | zero =>
      simp only [List.getD_cons_zero] at he
      rw [List.set_cons_zero, e, e, he, List.set_append_left _ _ (by rw [nc_length]; omega), Nat.zero_mul, Nat.zero_add]
    | succ i =>
      simp only [List.getD_cons_succ] at he
      rw [List.set_cons_succ, e, e, ih i (by simpa using hi) he, List.set_append_right _ _ (by rw [nc_length]; omega), nc_length, show (i + 1) * 10 + j - 10 = i * 10 + j by omega]
end Go.Proofs.YtpcklgbcabpilaaGreatDoor.Ca
