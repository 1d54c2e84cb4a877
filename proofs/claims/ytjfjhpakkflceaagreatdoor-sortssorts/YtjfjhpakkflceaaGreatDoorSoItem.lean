/- Items (a line, its key, its place) in memory; the heap of items behind its interface. -/
import Derived.Test.YtjfjhpakkflceaaGreatDoorSoPop
import Derived.Deep.RegionHeld3
namespace Go.Proofs.YtjfjhpakkflceaaGreatDoor.So
open Go.RowKit Go.Shelf Ky

attribute [local go_sem] Oper.semAt_some

structure It where
  line : ByteArray
  key : ByteArray
  place : Int
/-- none -/
def it0 : It := ⟨ByteArray.empty, ByteArray.empty, 0⟩
def ia (x : It) : Value := .agg #[.string x.line, .string x.key, .int .i64 x.place]
def ic (x : It) : List Value := [.string x.line, .string x.key, .int .i64 x.place]
/-- the cells of items -/
def its (l : List It) : List Value := l.flatMap ic
theorem its_cons (x : It) (l : List It) : its (x :: l) = .string x.line :: .string x.key :: .int .i64 x.place :: its l := by simp [its, ic]
theorem its_len (l : List It) : (its l).length = l.length * 3 := by
  induction l with
  | nil => rfl
  | cons x l ih => rw [its_cons]; simp only [List.length_cons, ih]; omega
theorem its_app (l m : List It) : its (l ++ m) = its l ++ its m := by simp [its]
theorem its_at (l : List It) (i : Nat) (h : i < l.length) : (its l)[i * 3]? = some (.string (l.getD i it0).line) ∧ (its l)[i * 3 + 1]? = some (.string (l.getD i it0).key) ∧ (its l)[i * 3 + 2]? = some (.int .i64 (l.getD i it0).place) := by
  induction l generalizing i with
  | nil => simp at h
  | cons x l ih =>
    rw [its_cons]
    cases i with
    | zero => simp
    | succ i =>
      have := ih i (by simpa using h)
      rw [show (i + 1) * 3 = i * 3 + 1 + 1 + 1 by omega]
      simpa using this
theorem its_set (l : List It) (i : Nat) (x : It) (h : i < l.length) : (((its l).set (i * 3) (.string x.line)).set (i * 3 + 1) (.string x.key)).set (i * 3 + 2) (.int .i64 x.place) = its (l.set i x) := by
  induction l generalizing i with
  | nil => simp at h
  | cons y l ih =>
    cases i with
    | zero => simp [its_cons]
    | succ i =>
      have := ih i (by simpa using h)
      rw [show (i + 1) * 3 = i * 3 + 1 + 1 + 1 by omega]
      simp only [List.set_cons_succ, its_cons, this]
theorem its_take (l : List It) (n : Nat) : (its l).take (n * 3) = its (l.take n) := by
  induction l generalizing n with
  | nil => simp [its]
  | cons x l ih =>
    cases n with
    | zero => simp [its]
    | succ n => rw [show (n + 1) * 3 = n * 3 + 1 + 1 + 1 by omega, its_cons]; simp only [List.take_succ_cons, its_cons, ih]

/-- what w' keeps of w: all blocks but those of X -/
structure Kp (X : Nat → Prop) (w w' : World) : Prop where
  os : w'.os = w.os
  tape : w'.tape = w.tape
  output : w'.output = w.output
  size : w.heap.size ≤ w'.heap.size
  block : ∀ k, k < w.heap.size → ¬ X k → w'.heap[k]? = w.heap[k]?
theorem Kp.refl (X : Nat → Prop) (w : World) : Kp X w w := ⟨rfl, rfl, rfl, Nat.le_refl _, fun _ _ _ => rfl⟩
theorem Kp.trans {X Y Z : Nat → Prop} {a b c : World} (h : Kp X a b) (k : Kp Y b c) (h1 : ∀ i, i < a.heap.size → X i → Z i) (h2 : ∀ i, i < a.heap.size → Y i → Z i) : Kp Z a c :=
  ⟨k.os.trans h.os, k.tape.trans h.tape, k.output.trans h.output, Nat.le_trans h.size k.size, fun i hi hn => (k.block i (Nat.lt_of_lt_of_le hi h.size) (fun q => hn (h2 i hi q))).trans (h.block i hi (fun q => hn (h1 i hi q)))⟩
theorem Kp.step {X : Nat → Prop} {a b c : World} (h : Kp X a b) (k : Below b.heap.size b c) : Kp X a c :=
  ⟨k.os.trans h.os, k.tape.trans h.tape, k.output.trans h.output, Nat.le_trans h.size k.size, fun i hi hn => (k.block i (Nat.lt_of_lt_of_le hi h.size)).trans (h.block i hi hn)⟩
theorem Kp.set {X : Nat → Prop} {a b : World} (h : Kp X a b) {p : Addr} (hp : X p.block) (v : Value) : Kp X a (b.setCell p v) :=
  ⟨h.os, h.tape, h.output, by simpa [World.setCell] using h.size, fun i hi hn => (Below.heap_setCell _ _ _ _ (fun e => hn (by rw [e]; exact hp))).trans (h.block i hi hn)⟩
theorem Kp.drew {X : Nat → Prop} {a b : World} (h : Kp X a b) : Kp X a b.drew := ⟨h.os, h.tape, h.output, h.size, h.block⟩
theorem Kp.alloc {X : Nat → Prop} {a b : World} (h : Kp X a b) (o : Obj) : Kp X a (b.alloc o) :=
  ⟨h.os, h.tape, h.output, Nat.le_trans h.size (by simp), fun i hi hn => (Below.heap_alloc _ _ _ (Nat.lt_of_lt_of_le hi h.size)).trans (h.block i hi hn)⟩
theorem Kp.set1 {g : Nat} {a b : World} (h : Kp (fun k => k = g) a b) (i : Nat) (v : Value) : Kp (fun k => k = g) a (b.setCell ⟨g, i, none⟩ v) := h.set (p := ⟨g, i, none⟩) (rfl : g = g) v
theorem Kp.set6 (g : Nat) (w : World) (a b c d e f : Nat) (x1 x2 x3 x4 x5 x6 : Value) : Kp (fun k => k = g) w ((((((w.setCell ⟨g, a, none⟩ x1).setCell ⟨g, b, none⟩ x2).setCell ⟨g, c, none⟩ x3).setCell ⟨g, d, none⟩ x4).setCell ⟨g, e, none⟩ x5).setCell ⟨g, f, none⟩ x6).drew :=
  (((((((Kp.refl (fun k => k = g) w).set1 a x1).set1 b x2).set1 c x3).set1 d x4).set1 e x5).set1 f x6).drew
theorem Kp.below {X : Nat → Prop} {a b : World} (h : Kp X a b) (n : Nat) (hn : n ≤ a.heap.size) (hx : ∀ i, i < n → ¬ X i) : Below n a b := ⟨h.os, h.tape, h.output, h.size, fun i hi => h.block i (by omega) (hx i hi)⟩

/-- f compares items such as c says, in every world that keeps all of W but the blocks of X -/
def Cmp (W : World) (X : Nat → Prop) (f : Value) (c : It → It → Int) (D : It → Prop) : Prop :=
  ∃ id cap, f = .func (.func id) #[] cap ∧ (∀ args w, (callFunc id args).run Tryz.prog w = .ok (.enter id args) w) ∧
    ∀ (W' : World), Kp X W W' → ∀ a b : It, D a → D b → Calls Tryz.prog id (#[ia a, ia b] ++ cap) W' fun e w' => e = .returned (.int .i64 (c a b)) ∧ Below W'.heap.size W' w'

/-- the row of items at g -/
def Row3 (g cap : Nat) (w : World) (l : List It) : Prop := ∃ cur, w.heap[g]? = some (.cells cur 75 (0, 0)) ∧ cur.size = cap * 3 ∧ l.length ≤ cap ∧ cur.toList.take (l.length * 3) = its l
theorem Row3.lt {g cap : Nat} {w : World} {l : List It} (h : Row3 g cap w l) : g < w.heap.size := by
  obtain ⟨cur, h1, _⟩ := h
  exact (Array.getElem?_eq_some_iff.1 h1).1
theorem Row3.cells {g cap : Nat} {w : World} {l : List It} (h : Row3 g cap w l) {i : Nat} (hi : i < l.length) :
    w.cell? ⟨g, i * 3, none⟩ = some (.string (l.getD i it0).line) ∧ w.cell? ⟨g, i * 3 + 1, none⟩ = some (.string (l.getD i it0).key) ∧ w.cell? ⟨g, i * 3 + 2, none⟩ = some (.int .i64 (l.getD i it0).place) := by
  obtain ⟨cur, h1, h2, h3, h4⟩ := h
  obtain ⟨a1, a2, a3⟩ := its_at l i hi
  rw [← h4, List.getElem?_take_of_lt (by omega)] at a1
  rw [← h4, List.getElem?_take_of_lt (by omega)] at a2
  rw [← h4, List.getElem?_take_of_lt (by omega)] at a3
  rw [cell_of_row _ _ _ _ _ _ h1, cell_of_row _ _ _ _ _ _ h1, cell_of_row _ _ _ _ _ _ h1]
  exact ⟨by simpa using a1, by simpa using a2, by simpa using a3⟩
theorem Row3.frozen {g cap : Nat} {w : World} {l : List It} (h : Row3 g cap w l) (i : Nat) : w.frozen? ⟨g, i, none⟩ = false := by
  obtain ⟨cur, h1, _⟩ := h
  simp [World.frozen?, h1]
theorem row_set {w : World} {g i : Nat} {cur : Array Value} {e : TypeId} {fz : Nat × Nat} (v : Value) (h : w.heap[g]? = some (.cells cur e fz)) : (w.setCell ⟨g, i, none⟩ v).heap[g]? = some (.cells (cur.setIfInBounds i v) e fz) := by
  obtain ⟨hlt, hk⟩ := Array.getElem?_eq_some_iff.1 h
  show (w.heap.modify g _)[g]? = _
  rw [Array.getElem?_eq_getElem (by rw [Array.size_modify]; exact hlt), Array.getElem_modify_self, hk]
  rfl
theorem Row3.set {g cap : Nat} {w : World} {l : List It} (h : Row3 g cap w l) {i : Nat} (hi : i < l.length) (x : It) :
    Row3 g cap (((w.setCell ⟨g, i * 3, none⟩ (.string x.line)).setCell ⟨g, i * 3 + 1, none⟩ (.string x.key)).setCell ⟨g, i * 3 + 2, none⟩ (.int .i64 x.place)) (l.set i x) := by
  obtain ⟨cur, h1, h2, h3, h4⟩ := h
  refine ⟨_, row_set _ (row_set _ (row_set _ h1)), by simpa using h2, by simpa using h3, ?_⟩
  rw [List.length_set, ← its_set l i x hi, ← h4]
  simp [List.take_set]
theorem Row3.keep {g cap : Nat} {w w' : World} {l : List It} (h : Row3 g cap w l) (e : w'.heap[g]? = w.heap[g]?) : Row3 g cap w' l := by
  obtain ⟨cur, h1, h2⟩ := h
  exact ⟨cur, e.trans h1, h2⟩
theorem Row3.drew {g cap : Nat} {w : World} {l : List It} (h : Row3 g cap w l) : Row3 g cap w.drew l := h.keep rfl
theorem Row3.take {g cap : Nat} {w : World} {l : List It} (h : Row3 g cap w l) (n : Nat) (hn : n ≤ l.length) : Row3 g cap w (l.take n) := by
  obtain ⟨cur, h1, h2, h3, h4⟩ := h
  refine ⟨cur, h1, h2, by rw [List.length_take]; omega, ?_⟩
  rw [List.length_take, show min n l.length = n by omega, ← its_take, ← h4, List.take_take, show min (n * 3) (l.length * 3) = n * 3 by omega]

/-- the heap of items at P: its items lie at g -/
structure Pl (g cap P : Nat) (f : Value) (w : World) (l : List It) : Prop where
  pile : w.heap[P]? = some (.cells #[.slice (some ⟨g, 0, none⟩) l.length cap, f] 87 (0, 0))
  row : Row3 g cap w l
/-- and the rest is as it was -/
def Sx (W1 : World) (g cap P : Nat) (f : Value) (D : It → Prop) (w : World) (l : List It) : Prop := Pl g cap P f w l ∧ (∀ x ∈ l, D x) ∧ Kp (fun k => k = g ∨ k = P) W1 w

theorem it_mem {l : List It} {i : Nat} (h : i < l.length) : l.getD i it0 ∈ l := by rw [getD_get it0 l h]; exact List.getElem_mem h

set_option maxRecDepth 100000 in
set_option maxHeartbeats 400000 in
theorem len1_any (W1 : World) (g cap P : Nat) (f : Value) (D : It → Prop) (w : World) (l : List It) (h : Sx W1 g cap P f D w l) :
    Calls Tryz.prog 82 #[.pointer (some ⟨P, 0, none⟩)] w fun e w' => e = .returned (.int .i64 l.length) ∧ Sx W1 g cap P f D w' l := by
  have hc0 : w.cell? ⟨P, 0, none⟩ = some (.slice (some ⟨g, 0, none⟩) l.length cap) := cell_of_row _ _ 0 _ _ _ h.1.pile
  have H := hide h
  clear h
  go_enter Tryz.func82, Tryz.ntmps82
  go_wp2_with fail
  go_ret
  exact ⟨rfl, unhide H⟩

theorem Pl.keep {g cap P : Nat} {f : Value} {w w' : World} {l : List It} (h : Pl g cap P f w l) (hb : Below w.heap.size w w') : Pl g cap P f w' l :=
  ⟨(hb.block _ (Array.getElem?_eq_some_iff.1 h.pile).1).trans h.pile, h.row.keep (hb.block _ h.row.lt)⟩
theorem Sx.step {W1 : World} {g cap P : Nat} {f : Value} {D : It → Prop} {w w' : World} {l : List It} (h : Sx W1 g cap P f D w l) (hb : Below w.heap.size w w') : Sx W1 g cap P f D w' l := ⟨h.1.keep hb, h.2.1, h.2.2.step hb⟩
theorem Sx.drew {W1 : World} {g cap P : Nat} {f : Value} {D : It → Prop} {w : World} {l : List It} (h : Sx W1 g cap P f D w l) : Sx W1 g cap P f D w.drew l := h.step ((Below.refl _ _).drew)

set_option maxRecDepth 100000 in
set_option maxHeartbeats 400000 in
theorem less1_any {W0 : World} {X : Nat → Prop} (W1 : World) (g cap P : Nat) (f : Value) (c : It → It → Int) (D : It → Prop) (hC : Cmp W0 X f c D) (hK : ∀ w, Kp (fun k => k = g ∨ k = P) W1 w → Kp X W0 w) (w : World) (l : List It) (i j : Nat) (h : Sx W1 g cap P f D w l) (hi : i < l.length) (hj : j < l.length) :
    Calls Tryz.prog 227 #[.pointer (some ⟨P, 0, none⟩), .int .i64 i, .int .i64 j] w fun e w' => e = .returned (.bool (decide (c (l.getD i it0) (l.getD j it0) < 0))) ∧ Sx W1 g cap P f D w' l := by
  obtain ⟨id, cp, rfl, en, CC⟩ := hC
  have hA : ∀ W, Sx W1 g cap P (.func (.func id) #[] cp) D W l →
      (W.cell? ⟨P, 0, none⟩ = some (.slice (some ⟨g, 0, none⟩) l.length cap) ∧ W.cell? ⟨P, 1, none⟩ = some (.func (.func id) #[] cp) ∧
      W.cell? ⟨g, i * 3, none⟩ = some (.string (l.getD i it0).line) ∧ W.cell? ⟨g, i * 3 + 1, none⟩ = some (.string (l.getD i it0).key) ∧ W.cell? ⟨g, i * 3 + 2, none⟩ = some (.int .i64 (l.getD i it0).place) ∧
      W.cell? ⟨g, j * 3, none⟩ = some (.string (l.getD j it0).line) ∧ W.cell? ⟨g, j * 3 + 1, none⟩ = some (.string (l.getD j it0).key) ∧ W.cell? ⟨g, j * 3 + 2, none⟩ = some (.int .i64 (l.getD j it0).place) ∧ Hid (Sx W1 g cap P (.func (.func id) #[] cp) D W l)) := fun W h => by
    obtain ⟨i0, i1, i2⟩ := h.1.row.cells hi
    obtain ⟨j0, j1, j2⟩ := h.1.row.cells hj
    exact ⟨cell_of_row _ _ 0 _ _ _ h.1.pile, cell_of_row _ _ 1 _ _ _ h.1.pile, i0, i1, i2, j0, j1, j2, h⟩
  have CX : Hid (∀ W, (W.cell? ⟨P, 0, none⟩ = some (.slice (some ⟨g, 0, none⟩) l.length cap) ∧ W.cell? ⟨P, 1, none⟩ = some (.func (.func id) #[] cp) ∧
      W.cell? ⟨g, i * 3, none⟩ = some (.string (l.getD i it0).line) ∧ W.cell? ⟨g, i * 3 + 1, none⟩ = some (.string (l.getD i it0).key) ∧ W.cell? ⟨g, i * 3 + 2, none⟩ = some (.int .i64 (l.getD i it0).place) ∧
      W.cell? ⟨g, j * 3, none⟩ = some (.string (l.getD j it0).line) ∧ W.cell? ⟨g, j * 3 + 1, none⟩ = some (.string (l.getD j it0).key) ∧ W.cell? ⟨g, j * 3 + 2, none⟩ = some (.int .i64 (l.getD j it0).place) ∧ Hid (Sx W1 g cap P (.func (.func id) #[] cp) D W l)) → Calls Tryz.prog id (#[ia (l.getD i it0), ia (l.getD j it0)] ++ cp) W fun e w' => e = .returned (.int .i64 (c (l.getD i it0) (l.getD j it0))) ∧ (w'.cell? ⟨P, 0, none⟩ = some (.slice (some ⟨g, 0, none⟩) l.length cap) ∧ w'.cell? ⟨P, 1, none⟩ = some (.func (.func id) #[] cp) ∧
      w'.cell? ⟨g, i * 3, none⟩ = some (.string (l.getD i it0).line) ∧ w'.cell? ⟨g, i * 3 + 1, none⟩ = some (.string (l.getD i it0).key) ∧ w'.cell? ⟨g, i * 3 + 2, none⟩ = some (.int .i64 (l.getD i it0).place) ∧
      w'.cell? ⟨g, j * 3, none⟩ = some (.string (l.getD j it0).line) ∧ w'.cell? ⟨g, j * 3 + 1, none⟩ = some (.string (l.getD j it0).key) ∧ w'.cell? ⟨g, j * 3 + 2, none⟩ = some (.int .i64 (l.getD j it0).place) ∧ Hid (Sx W1 g cap P (.func (.func id) #[] cp) D w' l))) := fun W h =>
    (CC W (hK W (unhide h.2.2.2.2.2.2.2.2).2.2) _ _ ((unhide h.2.2.2.2.2.2.2.2).2.1 _ (it_mem hi)) ((unhide h.2.2.2.2.2.2.2.2).2.1 _ (it_mem hj))).mono fun e w' r => ⟨r.1, hA w' ((unhide h.2.2.2.2.2.2.2.2).step r.2)⟩
  have H := hA w.drew h.drew
  clear h CC hK hA
  unfold ia at CX
  generalize l.getD i it0 = a at *
  generalize l.getD j it0 = b at *
  obtain ⟨al, ak, ap⟩ := a
  obtain ⟨bl, bk, bp⟩ := b
  simp only at H CX
  generalize c ⟨al, ak, ap⟩ ⟨bl, bk, bp⟩ = r at *
  go_enter Tryz.func227, Tryz.ntmps227
  go_wp2_with fail
  go_region_held3 (fun w' => w'.cell? ⟨P, 0, none⟩ = some (.slice (some ⟨g, 0, none⟩) l.length cap) ∧ w'.cell? ⟨P, 1, none⟩ = some (.func (.func id) #[] cp) ∧
      w'.cell? ⟨g, i * 3, none⟩ = some (.string al) ∧ w'.cell? ⟨g, i * 3 + 1, none⟩ = some (.string ak) ∧ w'.cell? ⟨g, i * 3 + 2, none⟩ = some (.int .i64 ap) ∧
      w'.cell? ⟨g, j * 3, none⟩ = some (.string bl) ∧ w'.cell? ⟨g, j * 3 + 1, none⟩ = some (.string bk) ∧ w'.cell? ⟨g, j * 3 + 2, none⟩ = some (.int .i64 bp) ∧ Hid (Sx W1 g cap P (.func (.func id) #[] cp) D w' l)) (first | assumption | go_keep)
    (with_reducible refine (unhide CX _ (by assumption)).mono ?_; rintro e w' ⟨rfl, hS1⟩)
  go_wp2_with fail
  go_ret
  exact ⟨rfl, unhide hS1.2.2.2.2.2.2.2.2⟩

theorem swp_sets (l : List It) (i j : Nat) : (l.set i (l.getD j it0)).set j (l.getD i it0) = swp it0 l i j := rfl
set_option maxRecDepth 100000 in
set_option maxHeartbeats 800000 in
theorem swap1_any (W1 : World) (g cap P : Nat) (f : Value) (D : It → Prop) (hgP : g ≠ P) (w : World) (l : List It) (i j : Nat) (h : Sx W1 g cap P f D w l) (hi : i < l.length) (hj : j < l.length) :
    Calls Tryz.prog 230 #[.pointer (some ⟨P, 0, none⟩), .int .i64 i, .int .i64 j] w fun e w' => e = .returned (.tuple #[]) ∧ Sx W1 g cap P f D w' (swp it0 l i j) := by
  have hc0 : w.cell? ⟨P, 0, none⟩ = some (.slice (some ⟨g, 0, none⟩) l.length cap) := cell_of_row _ _ 0 _ _ _ h.1.pile
  obtain ⟨i0, i1, i2⟩ := h.1.row.cells hi
  obtain ⟨j0, j1, j2⟩ := h.1.row.cells hj
  have fz0 := h.1.row.frozen (i * 3)
  have fz1 := h.1.row.frozen (i * 3 + 1)
  have fz2 := h.1.row.frozen (i * 3 + 2)
  have fy0 := h.1.row.frozen (j * 3)
  have fy1 := h.1.row.frozen (j * 3 + 1)
  have fy2 := h.1.row.frozen (j * 3 + 2)
  have hR := (h.1.row.set hi (l.getD j it0)).set (i := j) (by simpa using hj) (l.getD i it0)
  rw [swp_sets] at hR
  have HR := hide hR
  have H := hide h
  clear h hR
  have FIN : ∀ w' : World, Row3 g cap w' (swp it0 l i j) → Kp (fun k => k = g) w w' → Sx W1 g cap P f D w' (swp it0 l i j) := fun w' a1 a2 =>
    ⟨⟨by rw [swp_len, a2.block P (Array.getElem?_eq_some_iff.1 (unhide H).1.pile).1 (Ne.symm hgP)]; exact (unhide H).1.pile, a1⟩, fun x hx => (unhide H).2.1 x ((swp_perm it0 l hi hj).subset hx), (unhide H).2.2.trans a2 (fun _ _ q => q) (fun _ _ q => .inl q)⟩
  have HF := hide FIN
  clear FIN H
  by_cases hij : i = j
  · subst hij
    generalize l.getD i it0 = a at *
    obtain ⟨al, ak, ap⟩ := a
    simp only at i0 i1 i2 j0 j1 j2 HR
    go_enter Tryz.func230, Tryz.ntmps230
    go_wp2_with fail
    go_region
    go_wp2_with fail
    go_end0
    exact ⟨rfl, unhide HF _ (unhide HR).drew (Kp.set6 g w _ _ _ _ _ _ _ _ _ _ _ _)⟩
  · generalize l.getD i it0 = a at *
    generalize l.getD j it0 = b at *
    obtain ⟨al, ak, ap⟩ := a
    obtain ⟨bl, bk, bp⟩ := b
    simp only at i0 i1 i2 j0 j1 j2 HR
    go_enter Tryz.func230, Tryz.ntmps230
    go_wp2_with fail
    go_region
    go_wp2_with fail
    go_end0
    exact ⟨rfl, unhide HF _ (unhide HR).drew (Kp.set6 g w _ _ _ _ _ _ _ _ _ _ _ _)⟩

theorem pile_set {w : World} {P : Nat} {x y v : Value} {e : TypeId} (h : w.heap[P]? = some (.cells #[x, y] e (0, 0))) : (w.setCell ⟨P, 0, none⟩ v).heap[P]? = some (.cells #[v, y] e (0, 0)) := row_set v h
set_option maxRecDepth 100000 in
set_option maxHeartbeats 400000 in
theorem pop1_any (W1 : World) (g cap P : Nat) (f : Value) (D : It → Prop) (hgP : g ≠ P) (w : World) (l : List It) (h : Sx W1 g cap P f D w l) (h0 : 0 < l.length) (hl : l.length ≤ 65536) :
    Calls Tryz.prog 228 #[.pointer (some ⟨P, 0, none⟩)] w fun e w' => e = .returned (.iface 75 (ia (l.getD (l.length - 1) it0))) ∧ Sx W1 g cap P f D w' (l.take (l.length - 1)) := by
  obtain ⟨m, hm⟩ : ∃ m, m + 1 = l.length := ⟨l.length - 1, by omega⟩
  rw [show l.length - 1 = m by omega]
  have em : (l.length : Int) - 1 = (m : Int) := by omega
  have hcap : l.length ≤ cap := by obtain ⟨_, _, _, q, _⟩ := h.1.row; exact q
  have hc0 : w.cell? ⟨P, 0, none⟩ = some (.slice (some ⟨g, 0, none⟩) l.length cap) := cell_of_row _ _ 0 _ _ _ h.1.pile
  have fz : w.frozen? ⟨P, 0, none⟩ = false := by simp [World.frozen?, h.1.pile]
  obtain ⟨i0, i1, i2⟩ := h.1.row.cells (show m < l.length by omega)
  have HF : Hid (∀ w' : World, w'.heap[g]? = w.heap[g]? → w'.heap[P]? = some (.cells #[.slice (some ⟨g, 0, none⟩) m cap, f] 87 (0, 0)) → Kp (fun k => k = g ∨ k = P) w w' → Sx W1 g cap P f D w' (l.take m)) := fun w' a1 a2 a3 =>
    ⟨⟨by rw [List.length_take, show min m l.length = m by omega]; exact a2, (h.1.row.keep a1).take m (by omega)⟩, fun x hx => h.2.1 x (List.mem_of_mem_take hx), h.2.2.trans a3 (fun _ _ q => q) (fun _ _ q => q)⟩
  have HP := hide h.1.pile
  have hPl : P < w.heap.size := (Array.getElem?_eq_some_iff.1 h.1.pile).1
  have hgl : g < w.heap.size := h.1.row.lt
  clear h
  generalize l.getD m it0 = a at *
  obtain ⟨al, ak, ap⟩ := a
  unfold ia
  simp only at i0 i1 i2 ⊢
  have hm' : m < l.length := by omega
  clear hm h0
  go_enter Tryz.func228, Tryz.ntmps228
  go_wp2_with fail
  go_ret
  refine ⟨rfl, unhide HF _ ((Below.heap_alloc _ _ _ (by simpa [World.setCell] using hgl)).trans (Below.heap_setCell _ _ _ _ hgP)) ((Below.heap_alloc _ _ _ (by simpa [World.setCell] using hPl)).trans (pile_set (unhide HP))) (((Kp.refl _ w).set (p := ⟨P, 0, none⟩) (.inr rfl) _).alloc _)⟩

theorem Tryz.meth1 (P : Nat) : Meth 85 ⟨P, 0, none⟩ "Len" 82 ∧ Meth 85 ⟨P, 0, none⟩ "Less" 227 ∧ Meth 85 ⟨P, 0, none⟩ "Swap" 230 ∧ Meth 85 ⟨P, 0, none⟩ "Pop" 228 :=
  ⟨⟨fun _ => by kernel_rfl, enters_of Tryz.func82 (by kernel_rfl) rfl⟩, ⟨fun _ => by kernel_rfl, enters_of Tryz.func227 (by kernel_rfl) rfl⟩, ⟨fun _ => by kernel_rfl, enters_of Tryz.func230 (by kernel_rfl) rfl⟩, ⟨fun _ => by kernel_rfl, enters_of Tryz.func228 (by kernel_rfl) rfl⟩⟩

/-- the heap of items, behind its interface -/
theorem pile1 {W0 : World} {X : Nat → Prop} (W1 : World) (g cap P : Nat) (f : Value) (c : It → It → Int) (D : It → Prop) (hC : Cmp W0 X f c D) (hK : ∀ w, Kp (fun k => k = g ∨ k = P) W1 w → Kp X W0 w) (hgP : g ≠ P) :
    Pile 85 ⟨P, 0, none⟩ (fun w l => Sx W1 g cap P f D w l ∧ l.length ≤ 65536) c it0 ∧ PileOff 85 ⟨P, 0, none⟩ (fun w l => Sx W1 g cap P f D w l ∧ l.length ≤ 65536) it0 (fun x => .iface 75 (ia x)) :=
  ⟨⟨⟨_, (Tryz.meth1 P).1, fun w l h => (len1_any W1 g cap P f D w l h.1).mono fun _ _ r => ⟨r.1, r.2, h.2⟩⟩,
    ⟨_, (Tryz.meth1 P).2.1, fun w l i j h hi hj => (less1_any W1 g cap P f c D hC hK w l i j h.1 hi hj).mono fun _ _ r => ⟨r.1, r.2, h.2⟩⟩,
    ⟨_, (Tryz.meth1 P).2.2.1, fun w l i j h hi hj => (swap1_any W1 g cap P f D hgP w l i j h.1 hi hj).mono fun _ _ r => ⟨r.1, r.2, by rw [swp_len]; exact h.2⟩⟩⟩,
   ⟨⟨_, (Tryz.meth1 P).2.2.2, fun w l h h0 => (pop1_any W1 g cap P f D hgP w l h.1 h0 h.2).mono fun _ _ r => ⟨r.1, r.2, by rw [List.length_take]; have := h.2; omega⟩⟩⟩⟩
end Go.Proofs.YtjfjhpakkflceaaGreatDoor.So
