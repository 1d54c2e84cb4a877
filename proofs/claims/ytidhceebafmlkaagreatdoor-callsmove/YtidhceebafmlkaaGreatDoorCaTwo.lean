import Derived.Test.YtidhceebafmlkaaGreatDoorCaSym
namespace Go.Proofs.YtidhceebafmlkaaGreatDoor.Ca
open Go.RowKit Cu Tr Pm Pt
theorem cell_set {w : World} {g : Nat} {T : TypeId} (i : Nat) (cs cs' : Array Value) (v : Value) (e : cs.setIfInBounds i v = cs') (h : w.heap[g]? = some (.cells cs T (0, 0))) : (w.setCell ⟨g, i, none⟩ v).heap[g]? = some (.cells cs' T (0, 0)) :=
  e ▸ heap_setCell_same w g i cs T v h
theorem box10 {w : World} {g : Nat} {T : TypeId} (h : w.heap[g]? = some (.cells zNd T (0, 0))) (a0 a1 a2 a3 a4 a5 a6 a7 a8 a9 : Value) :
    ((((((((((w.setCell ⟨g, 0, none⟩ a0).setCell ⟨g, 1, none⟩ a1).setCell ⟨g, 2, none⟩ a2).setCell ⟨g, 3, none⟩ a3).setCell ⟨g, 4, none⟩ a4).setCell ⟨g, 5, none⟩ a5).setCell ⟨g, 6, none⟩ a6).setCell ⟨g, 7, none⟩ a7).setCell ⟨g, 8, none⟩ a8).setCell ⟨g, 9, none⟩ a9).heap[g]? = some (.cells #[a0, a1, a2, a3, a4, a5, a6, a7, a8, a9] T (0, 0)) := by
  have e0 := cell_set (w := w) (g := g) (T := T) 0 #[(.int .u8 0), (.int .i64 0), (.int .i64 0), (.int .i64 0), (.int .i64 0), (.int .i64 0), (.slice none 0 0), (.string ⟨#[]⟩), (.slice none 0 0), (.int .i64 0)] #[a0, (.int .i64 0), (.int .i64 0), (.int .i64 0), (.int .i64 0), (.int .i64 0), (.slice none 0 0), (.string ⟨#[]⟩), (.slice none 0 0), (.int .i64 0)] a0 rfl h
  have e1 := cell_set (w := (w.setCell ⟨g, 0, none⟩ a0)) (g := g) (T := T) 1 #[a0, (.int .i64 0), (.int .i64 0), (.int .i64 0), (.int .i64 0), (.int .i64 0), (.slice none 0 0), (.string ⟨#[]⟩), (.slice none 0 0), (.int .i64 0)] #[a0, a1, (.int .i64 0), (.int .i64 0), (.int .i64 0), (.int .i64 0), (.slice none 0 0), (.string ⟨#[]⟩), (.slice none 0 0), (.int .i64 0)] a1 rfl e0
  have e2 := cell_set (w := ((w.setCell ⟨g, 0, none⟩ a0).setCell ⟨g, 1, none⟩ a1)) (g := g) (T := T) 2 #[a0, a1, (.int .i64 0), (.int .i64 0), (.int .i64 0), (.int .i64 0), (.slice none 0 0), (.string ⟨#[]⟩), (.slice none 0 0), (.int .i64 0)] #[a0, a1, a2, (.int .i64 0), (.int .i64 0), (.int .i64 0), (.slice none 0 0), (.string ⟨#[]⟩), (.slice none 0 0), (.int .i64 0)] a2 rfl e1
  have e3 := cell_set (w := (((w.setCell ⟨g, 0, none⟩ a0).setCell ⟨g, 1, none⟩ a1).setCell ⟨g, 2, none⟩ a2)) (g := g) (T := T) 3 #[a0, a1, a2, (.int .i64 0), (.int .i64 0), (.int .i64 0), (.slice none 0 0), (.string ⟨#[]⟩), (.slice none 0 0), (.int .i64 0)] #[a0, a1, a2, a3, (.int .i64 0), (.int .i64 0), (.slice none 0 0), (.string ⟨#[]⟩), (.slice none 0 0), (.int .i64 0)] a3 rfl e2
  have e4 := cell_set (w := ((((w.setCell ⟨g, 0, none⟩ a0).setCell ⟨g, 1, none⟩ a1).setCell ⟨g, 2, none⟩ a2).setCell ⟨g, 3, none⟩ a3)) (g := g) (T := T) 4 #[a0, a1, a2, a3, (.int .i64 0), (.int .i64 0), (.slice none 0 0), (.string ⟨#[]⟩), (.slice none 0 0), (.int .i64 0)] #[a0, a1, a2, a3, a4, (.int .i64 0), (.slice none 0 0), (.string ⟨#[]⟩), (.slice none 0 0), (.int .i64 0)] a4 rfl e3
  have e5 := cell_set (w := (((((w.setCell ⟨g, 0, none⟩ a0).setCell ⟨g, 1, none⟩ a1).setCell ⟨g, 2, none⟩ a2).setCell ⟨g, 3, none⟩ a3).setCell ⟨g, 4, none⟩ a4)) (g := g) (T := T) 5 #[a0, a1, a2, a3, a4, (.int .i64 0), (.slice none 0 0), (.string ⟨#[]⟩), (.slice none 0 0), (.int .i64 0)] #[a0, a1, a2, a3, a4, a5, (.slice none 0 0), (.string ⟨#[]⟩), (.slice none 0 0), (.int .i64 0)] a5 rfl e4
  have e6 := cell_set (w := ((((((w.setCell ⟨g, 0, none⟩ a0).setCell ⟨g, 1, none⟩ a1).setCell ⟨g, 2, none⟩ a2).setCell ⟨g, 3, none⟩ a3).setCell ⟨g, 4, none⟩ a4).setCell ⟨g, 5, none⟩ a5)) (g := g) (T := T) 6 #[a0, a1, a2, a3, a4, a5, (.slice none 0 0), (.string ⟨#[]⟩), (.slice none 0 0), (.int .i64 0)] #[a0, a1, a2, a3, a4, a5, a6, (.string ⟨#[]⟩), (.slice none 0 0), (.int .i64 0)] a6 rfl e5
  have e7 := cell_set (w := (((((((w.setCell ⟨g, 0, none⟩ a0).setCell ⟨g, 1, none⟩ a1).setCell ⟨g, 2, none⟩ a2).setCell ⟨g, 3, none⟩ a3).setCell ⟨g, 4, none⟩ a4).setCell ⟨g, 5, none⟩ a5).setCell ⟨g, 6, none⟩ a6)) (g := g) (T := T) 7 #[a0, a1, a2, a3, a4, a5, a6, (.string ⟨#[]⟩), (.slice none 0 0), (.int .i64 0)] #[a0, a1, a2, a3, a4, a5, a6, a7, (.slice none 0 0), (.int .i64 0)] a7 rfl e6
  have e8 := cell_set (w := ((((((((w.setCell ⟨g, 0, none⟩ a0).setCell ⟨g, 1, none⟩ a1).setCell ⟨g, 2, none⟩ a2).setCell ⟨g, 3, none⟩ a3).setCell ⟨g, 4, none⟩ a4).setCell ⟨g, 5, none⟩ a5).setCell ⟨g, 6, none⟩ a6).setCell ⟨g, 7, none⟩ a7)) (g := g) (T := T) 8 #[a0, a1, a2, a3, a4, a5, a6, a7, (.slice none 0 0), (.int .i64 0)] #[a0, a1, a2, a3, a4, a5, a6, a7, a8, (.int .i64 0)] a8 rfl e7
  have e9 := cell_set (w := (((((((((w.setCell ⟨g, 0, none⟩ a0).setCell ⟨g, 1, none⟩ a1).setCell ⟨g, 2, none⟩ a2).setCell ⟨g, 3, none⟩ a3).setCell ⟨g, 4, none⟩ a4).setCell ⟨g, 5, none⟩ a5).setCell ⟨g, 6, none⟩ a6).setCell ⟨g, 7, none⟩ a7).setCell ⟨g, 8, none⟩ a8)) (g := g) (T := T) 9 #[a0, a1, a2, a3, a4, a5, a6, a7, a8, (.int .i64 0)] #[a0, a1, a2, a3, a4, a5, a6, a7, a8, a9] a9 rfl e8
  exact e9
theorem box10_b {B : Nat} {w w' : World} (h : Below B w w') {g : Nat} (hg : B ≤ g) (a0 a1 a2 a3 a4 a5 a6 a7 a8 a9 : Value) : Below B w ((((((((((w'.setCell ⟨g, 0, none⟩ a0).setCell ⟨g, 1, none⟩ a1).setCell ⟨g, 2, none⟩ a2).setCell ⟨g, 3, none⟩ a3).setCell ⟨g, 4, none⟩ a4).setCell ⟨g, 5, none⟩ a5).setCell ⟨g, 6, none⟩ a6).setCell ⟨g, 7, none⟩ a7).setCell ⟨g, 8, none⟩ a8).setCell ⟨g, 9, none⟩ a9) :=
  ((((((((((h.setCell (p := ⟨g, 0, none⟩) hg a0).setCell (p := ⟨g, 1, none⟩) hg a1).setCell (p := ⟨g, 2, none⟩) hg a2).setCell (p := ⟨g, 3, none⟩) hg a3).setCell (p := ⟨g, 4, none⟩) hg a4).setCell (p := ⟨g, 5, none⟩) hg a5).setCell (p := ⟨g, 6, none⟩) hg a6).setCell (p := ⟨g, 7, none⟩) hg a7).setCell (p := ⟨g, 8, none⟩) hg a8).setCell (p := ⟨g, 9, none⟩) hg a9)
theorem box_look {w : World} {g : Nat} {T : TypeId} (h : w.heap[g]? = some (.cells zNd T (0, 0))) (j : Nat) : w.cell? ⟨g, j, none⟩ = zNd[j]? ∧ w.frozen? ⟨g, j, none⟩ = false := by
  refine ⟨cell_of_row _ _ _ _ _ _ h, ?_⟩
  simp [World.frozen?, h]
set_option maxRecDepth 100000 in
set_option maxHeartbeats 400000 in
theorem isDir_val (n : Nd) (d l : Value) (w : World) : Calls Tryz.prog 197 #[.agg (na n d l)] w fun e w' => e = .returned (.bool (isD n)) ∧ Below w.heap.size w w' := by
  have hq : isD n = ((n.kind.toNat : Int) == 2) := (kd_eq n.kind 2).symm
  rw [hq]
  obtain ⟨kd, md, us, gr, lk, ti, dt, tg, ls, pa⟩ := n
  have hb0 : Hid (Below w.heap.size w (w.alloc (.cells (na ⟨kd, md, us, gr, lk, ti, dt, tg, ls, pa⟩ d l) 82))) := (Below.refl _ _).alloc (Nat.le_refl _) _
  unfold na at *
  simp only at *
  go_enter Tryz.func197, Tryz.ntmps197
  go_wp2
  go_ret
  exact ⟨rfl, uh hb0⟩
end Go.Proofs.YtidhceebafmlkaaGreatDoor.Ca

namespace Go.Proofs.YtidhceebafmlkaaGreatDoor.Ca
open Go.RowKit Cu Tr Pm Pt
def stores (w : World) (g : Nat) : Nat → List Value → World
  | _, [] => w
  | k, v :: vs => stores (w.setCell ⟨g, k, none⟩ v) g (k + 1) vs
theorem stores_other (g k0 : Nat) (hk : k0 ≠ g) : ∀ (vs : List Value) (w : World) (k : Nat), (stores w g k vs).heap[k0]? = w.heap[k0]?
  | [], _, _ => rfl
  | v :: vs, _, k => (stores_other g k0 hk vs _ _).trans (heap_setCell_other _ ⟨g, k, none⟩ k0 v hk)
theorem stores_below {B : Nat} {w : World} {g : Nat} (hg : B ≤ g) : ∀ (vs : List Value) {w' : World} (k : Nat), Below B w w' → Below B w (stores w' g k vs)
  | [], _, _, h => h
  | v :: vs, _, k, h => stores_below hg vs (k + 1) (h.setCell (p := ⟨g, k, none⟩) hg v)
theorem take_set {α : Type} : ∀ (l : List α) (k : Nat) (v : α), k < l.length → (l.set k v).take (k + 1) = l.take k ++ [v]
  | [], _, _, h => absurd h (by simp)
  | _ :: _, 0, _, _ => rfl
  | x :: l, k + 1, v, h => by
    simp only [List.set_cons_succ, List.take_succ_cons, List.cons_append]
    rw [take_set l k v (by simpa using h)]
theorem stores_row {g : Nat} {T : TypeId} : ∀ (vs : List Value) (w : World) (k : Nat) (l : List Value), w.heap[g]? = some (.cells l.toArray T (0, 0)) → l.length = k + vs.length → (stores w g k vs).heap[g]? = some (.cells (l.take k ++ vs).toArray T (0, 0))
  | [], w, k, l, h, hl => by
    rw [List.append_nil, List.take_of_length_le (by simp at hl; omega)]
    exact h
  | v :: vs, w, k, l, h, hl => by
    have h2 := cell_set k l.toArray (l.set k v).toArray v (by simp) h
    have h3 := stores_row vs _ (k + 1) (l.set k v) h2 (by simp at hl ⊢; omega)
    rw [stores, h3, take_set l k v (by simp at hl; omega), List.append_assoc]
    rfl
structure B2 (w1 W : World) (T1 T2 : TypeId) (nb cb : Option (Nat × List Value)) : Prop where
  bel : Below w1.heap.size w1 W
  one : ∀ g cs, nb = some (g, cs) → w1.heap.size ≤ g ∧ W.heap[g]? = some (.cells cs.toArray T1 (0, 0))
  two : ∀ g cs, cb = some (g, cs) → w1.heap.size ≤ g ∧ W.heap[g]? = some (.cells cs.toArray T2 (0, 0))
theorem wOf {w1 W : World} {T1 T2 : TypeId} {nb cb : Option (Nat × List Value)} (_h : Hid (B2 w1 W T1 T2 nb cb)) : ∃ W', W = W' := ⟨_, rfl⟩
theorem B2.start {w1 : World} {T1 T2 : TypeId} : B2 w1 w1.drew T1 T2 none none := ⟨below_drew w1 1, fun _ _ h => (nomatch h), fun _ _ h => (nomatch h)⟩
theorem B2.step {w1 W W' : World} {T1 T2 : TypeId} {nb cb : Option (Nat × List Value)} (h : B2 w1 W T1 T2 nb cb) (hb : Below W.heap.size W W') : B2 w1 W' T1 T2 nb cb :=
  ⟨h.bel.trans (hb.mono h.bel.size), fun g cs e => ⟨(h.one g cs e).1, (hb.block g (Array.getElem?_eq_some_iff.1 (h.one g cs e).2).1).trans (h.one g cs e).2⟩, fun g cs e => ⟨(h.two g cs e).1, (hb.block g (Array.getElem?_eq_some_iff.1 (h.two g cs e).2).1).trans (h.two g cs e).2⟩⟩
theorem B2.new1 {w1 W : World} {T1 T2 : TypeId} {cb : Option (Nat × List Value)} (h : B2 w1 W T1 T2 none cb) (cs : List Value) : B2 w1 (W.alloc (.cells cs.toArray T1)) T1 T2 (some (W.heap.size, cs)) cb :=
  ⟨(h.step (al_below W _)).bel, fun g c e => by
    injection e with e; injection e with e1 e2; subst e1; subst e2
    exact ⟨h.bel.size, heap_alloc_new W _⟩, (h.step (al_below W _)).two⟩
theorem B2.new2 {w1 W : World} {T1 T2 : TypeId} {nb : Option (Nat × List Value)} (h : B2 w1 W T1 T2 nb none) (cs : List Value) : B2 w1 (W.alloc (.cells cs.toArray T2)) T1 T2 nb (some (W.heap.size, cs)) :=
  ⟨(h.step (al_below W _)).bel, (h.step (al_below W _)).one, fun g c e => by
    injection e with e; injection e with e1 e2; subst e1; subst e2
    exact ⟨h.bel.size, heap_alloc_new W _⟩⟩
theorem B2.put1 {w1 W : World} {T1 T2 : TypeId} {g : Nat} {cs : List Value} {cb : Option (Nat × List Value)} (h : B2 w1 W T1 T2 (some (g, cs)) cb) (hT : T1 ≠ T2) (vs : List Value) (hl : cs.length = vs.length) : B2 w1 (stores W g 0 vs) T1 T2 (some (g, vs)) cb := by
  have h1 := h.one g cs rfl
  refine ⟨stores_below h1.1 vs 0 h.bel, fun g' c e => ?_, fun g' c e => ?_⟩
  · injection e with e; injection e with e1 e2; subst e1; subst e2
    exact ⟨h1.1, by simpa using stores_row vs W 0 cs h1.2 (by simpa using hl)⟩
  · have h2 := h.two g' c e
    refine ⟨h2.1, (stores_other g g' (fun e => ?_) vs W 0).trans h2.2⟩
    subst e
    rw [h2.2] at h1
    injection h1.2 with e
    injection e with _ e
    exact hT e.symm
theorem B2.put2 {w1 W : World} {T1 T2 : TypeId} {g : Nat} {cs : List Value} {nb : Option (Nat × List Value)} (h : B2 w1 W T1 T2 nb (some (g, cs))) (hT : T1 ≠ T2) (vs : List Value) (hl : cs.length = vs.length) : B2 w1 (stores W g 0 vs) T1 T2 nb (some (g, vs)) := by
  have h1 := h.two g cs rfl
  refine ⟨stores_below h1.1 vs 0 h.bel, fun g' c e => ?_, fun g' c e => ?_⟩
  · have h2 := h.one g' c e
    refine ⟨h2.1, (stores_other g g' (fun e => ?_) vs W 0).trans h2.2⟩
    subst e
    rw [h2.2] at h1
    injection h1.2 with e
    injection e with _ e
    exact hT e
  · injection e with e; injection e with e1 e2; subst e1; subst e2
    exact ⟨h1.1, by simpa using stores_row vs W 0 cs h1.2 (by simpa using hl)⟩
theorem look3 {w : World} {g : Nat} {T : TypeId} {a0 a1 a2 : Value} (h : w.heap[g]? = some (.cells [a0, a1, a2].toArray T (0, 0))) :
    w.cell? ⟨g, 0, none⟩ = some a0 ∧ w.cell? ⟨g, 1, none⟩ = some a1 ∧ w.cell? ⟨g, 2, none⟩ = some a2 ∧ w.frozen? ⟨g, 0, none⟩ = false ∧ w.frozen? ⟨g, 1, none⟩ = false ∧ w.frozen? ⟨g, 2, none⟩ = false :=
  ⟨cell_of_row _ _ _ _ _ _ h, cell_of_row _ _ _ _ _ _ h, cell_of_row _ _ _ _ _ _ h, by simp [World.frozen?, h], by simp [World.frozen?, h], by simp [World.frozen?, h]⟩
theorem look10 {w : World} {g : Nat} {T : TypeId} {a0 a1 a2 a3 a4 a5 a6 a7 a8 a9 : Value} (h : w.heap[g]? = some (.cells [a0, a1, a2, a3, a4, a5, a6, a7, a8, a9].toArray T (0, 0))) :
    w.cell? ⟨g, 0, none⟩ = some a0 ∧ w.cell? ⟨g, 1, none⟩ = some a1 ∧ w.cell? ⟨g, 2, none⟩ = some a2 ∧ w.cell? ⟨g, 3, none⟩ = some a3 ∧ w.cell? ⟨g, 4, none⟩ = some a4 ∧ w.cell? ⟨g, 5, none⟩ = some a5 ∧ w.cell? ⟨g, 6, none⟩ = some a6 ∧ w.cell? ⟨g, 7, none⟩ = some a7 ∧ w.cell? ⟨g, 8, none⟩ = some a8 ∧ w.cell? ⟨g, 9, none⟩ = some a9 ∧ w.frozen? ⟨g, 0, none⟩ = false ∧ w.frozen? ⟨g, 1, none⟩ = false ∧ w.frozen? ⟨g, 2, none⟩ = false ∧ w.frozen? ⟨g, 3, none⟩ = false ∧ w.frozen? ⟨g, 4, none⟩ = false ∧ w.frozen? ⟨g, 5, none⟩ = false ∧ w.frozen? ⟨g, 6, none⟩ = false ∧ w.frozen? ⟨g, 7, none⟩ = false ∧ w.frozen? ⟨g, 8, none⟩ = false ∧ w.frozen? ⟨g, 9, none⟩ = false :=
  ⟨cell_of_row _ _ _ _ _ _ h, cell_of_row _ _ _ _ _ _ h, cell_of_row _ _ _ _ _ _ h, cell_of_row _ _ _ _ _ _ h, cell_of_row _ _ _ _ _ _ h, cell_of_row _ _ _ _ _ _ h, cell_of_row _ _ _ _ _ _ h, cell_of_row _ _ _ _ _ _ h, cell_of_row _ _ _ _ _ _ h, cell_of_row _ _ _ _ _ _ h, by simp [World.frozen?, h], by simp [World.frozen?, h], by simp [World.frozen?, h], by simp [World.frozen?, h], by simp [World.frozen?, h], by simp [World.frozen?, h], by simp [World.frozen?, h], by simp [World.frozen?, h], by simp [World.frozen?, h], by simp [World.frozen?, h]⟩
theorem look12 {w : World} {g : Nat} {T : TypeId} {a0 a1 a2 a3 a4 a5 a6 a7 a8 a9 a10 a11 : Value} (h : w.heap[g]? = some (.cells [a0, a1, a2, a3, a4, a5, a6, a7, a8, a9, a10, a11].toArray T (0, 0))) :
    w.cell? ⟨g, 0, none⟩ = some a0 ∧ w.cell? ⟨g, 1, none⟩ = some a1 ∧ w.cell? ⟨g, 2, none⟩ = some a2 ∧ w.cell? ⟨g, 3, none⟩ = some a3 ∧ w.cell? ⟨g, 4, none⟩ = some a4 ∧ w.cell? ⟨g, 5, none⟩ = some a5 ∧ w.cell? ⟨g, 6, none⟩ = some a6 ∧ w.cell? ⟨g, 7, none⟩ = some a7 ∧ w.cell? ⟨g, 8, none⟩ = some a8 ∧ w.cell? ⟨g, 9, none⟩ = some a9 ∧ w.cell? ⟨g, 10, none⟩ = some a10 ∧ w.cell? ⟨g, 11, none⟩ = some a11 ∧ w.frozen? ⟨g, 0, none⟩ = false ∧ w.frozen? ⟨g, 1, none⟩ = false ∧ w.frozen? ⟨g, 2, none⟩ = false ∧ w.frozen? ⟨g, 3, none⟩ = false ∧ w.frozen? ⟨g, 4, none⟩ = false ∧ w.frozen? ⟨g, 5, none⟩ = false ∧ w.frozen? ⟨g, 6, none⟩ = false ∧ w.frozen? ⟨g, 7, none⟩ = false ∧ w.frozen? ⟨g, 8, none⟩ = false ∧ w.frozen? ⟨g, 9, none⟩ = false ∧ w.frozen? ⟨g, 10, none⟩ = false ∧ w.frozen? ⟨g, 11, none⟩ = false :=
  ⟨cell_of_row _ _ _ _ _ _ h, cell_of_row _ _ _ _ _ _ h, cell_of_row _ _ _ _ _ _ h, cell_of_row _ _ _ _ _ _ h, cell_of_row _ _ _ _ _ _ h, cell_of_row _ _ _ _ _ _ h, cell_of_row _ _ _ _ _ _ h, cell_of_row _ _ _ _ _ _ h, cell_of_row _ _ _ _ _ _ h, cell_of_row _ _ _ _ _ _ h, cell_of_row _ _ _ _ _ _ h, cell_of_row _ _ _ _ _ _ h, by simp [World.frozen?, h], by simp [World.frozen?, h], by simp [World.frozen?, h], by simp [World.frozen?, h], by simp [World.frozen?, h], by simp [World.frozen?, h], by simp [World.frozen?, h], by simp [World.frozen?, h], by simp [World.frozen?, h], by simp [World.frozen?, h], by simp [World.frozen?, h], by simp [World.frozen?, h]⟩
end Go.Proofs.YtidhceebafmlkaaGreatDoor.Ca
