/- Items (a line, its key, its place) in memory; functions that compare them. -/
import Derived.Test.YtmpppdbomdepoaaGreatDoorSoHeap
import Derived.Test.YtmpppdbomdepoaaGreatDoorKyBase
namespace Go.Proofs.YtmpppdbomdepoaaGreatDoor.So
open Go.RowKit Go.Shelf Ky

attribute [local go_sem] Oper.semAt_some

structure It where
  line : ByteArray
  key : ByteArray
  place : Int
/-- none -/
def it0 : It := ⟨ByteArray.empty, ByteArray.empty, 0⟩
def ia (x : It) : Value := .agg #[.string x.line, .string x.key, .int .i64 x.place]
def ic (x : It) : List Value := [.string x.line, .string x.key, .int .i64 x.place]
/-- the cells of items -/
def its (l : List It) : List Value := l.flatMap ic
theorem its_cons (x : It) (l : List It) : its (x :: l) = .string x.line :: .string x.key :: .int .i64 x.place :: its l := by simp [its, ic]
theorem its_len (l : List It) : (its l).length = l.length * 3 := by
  induction l with
  | nil => rfl
  | cons x l ih => rw [its_cons]; simp only [List.length_cons, ih]; omega
theorem its_app (l m : List It) : its (l ++ m) = its l ++ its m := by simp [its]
theorem its_at (l : List It) (i : Nat) (h : i < l.length) : (its l)[i * 3]? = some (.string (l.getD i it0).line) ∧ (its l)[i * 3 + 1]? = some (.string (l.getD i it0).key) ∧ (its l)[i * 3 + 2]? = some (.int .i64 (l.getD i it0).place) := by
  induction l generalizing i with
  | nil => simp at h
  | cons x l ih =>
    rw [its_cons]
    cases i with
    | zero => simp
    | succ i =>
      have := ih i (by simpa using h)
      rw [show (i + 1) * 3 = i * 3 + 1 + 1 + 1 by omega]
      simpa using this
theorem its_set (l : List It) (i : Nat) (x : It) (h : i < l.length) : (((its l).set (i * 3) (.string x.line)).set (i * 3 + 1) (.string x.key)).set (i * 3 + 2) (.int .i64 x.place) = its (l.set i x) := by
  induction l generalizing i with
  | nil => simp at h
  | cons y l ih =>
    cases i with
    | zero => simp [its_cons]
    | succ i =>
      have := ih i (by simpa using h)
      rw [show (i + 1) * 3 = i * 3 + 1 + 1 + 1 by omega]
      simp only [List.set_cons_succ, its_cons, this]
theorem its_take (l : List It) (n : Nat) : (its l).take (n * 3) = its (l.take n) := by
  induction l generalizing n with
  | nil => simp [its]
  | cons x l ih =>
    cases n with
    | zero => simp [its]
    | succ n => rw [show (n + 1) * 3 = n * 3 + 1 + 1 + 1 by omega, its_cons]; simp only [List.take_succ_cons, its_cons, ih]

/-- what w' keeps of w: all blocks but those of X -/
structure Kp (X : Nat → Prop) (w w' : World) : Prop where
  os : w'.os = w.os
  tape : w'.tape = w.tape
  output : w'.output = w.output
  size : w.heap.size ≤ w'.heap.size
  block : ∀ k, k < w.heap.size → ¬ X k → w'.heap[k]? = w.heap[k]?
theorem Kp.refl (X : Nat → Prop) (w : World) : Kp X w w := ⟨rfl, rfl, rfl, Nat.le_refl _, fun _ _ _ => rfl⟩
theorem Kp.trans {X Y Z : Nat → Prop} {a b c : World} (h : Kp X a b) (k : Kp Y b c) (h1 : ∀ i, i < a.heap.size → X i → Z i) (h2 : ∀ i, i < a.heap.size → Y i → Z i) : Kp Z a c :=
  ⟨k.os.trans h.os, k.tape.trans h.tape, k.output.trans h.output, Nat.le_trans h.size k.size, fun i hi hn => (k.block i (Nat.lt_of_lt_of_le hi h.size) (fun q => hn (h2 i hi q))).trans (h.block i hi (fun q => hn (h1 i hi q)))⟩
theorem Kp.step {X : Nat → Prop} {a b c : World} (h : Kp X a b) (k : Below b.heap.size b c) : Kp X a c :=
  ⟨k.os.trans h.os, k.tape.trans h.tape, k.output.trans h.output, Nat.le_trans h.size k.size, fun i hi hn => (k.block i (Nat.lt_of_lt_of_le hi h.size)).trans (h.block i hi hn)⟩
theorem Kp.set {X : Nat → Prop} {a b : World} (h : Kp X a b) {p : Addr} (hp : X p.block) (v : Value) : Kp X a (b.setCell p v) :=
  ⟨h.os, h.tape, h.output, by simpa [World.setCell] using h.size, fun i hi hn => (Below.heap_setCell _ _ _ _ (fun e => hn (by rw [e]; exact hp))).trans (h.block i hi hn)⟩
theorem Kp.drew {X : Nat → Prop} {a b : World} (h : Kp X a b) : Kp X a b.drew := ⟨h.os, h.tape, h.output, h.size, h.block⟩
theorem Kp.alloc {X : Nat → Prop} {a b : World} (h : Kp X a b) (o : Obj) : Kp X a (b.alloc o) :=
  ⟨h.os, h.tape, h.output, Nat.le_trans h.size (by simp), fun i hi hn => (Below.heap_alloc _ _ _ (Nat.lt_of_lt_of_le hi h.size)).trans (h.block i hi hn)⟩
theorem Kp.set1 {g : Nat} {a b : World} (h : Kp (fun k => k = g) a b) (i : Nat) (v : Value) : Kp (fun k => k = g) a (b.setCell ⟨g, i, none⟩ v) := h.set (p := ⟨g, i, none⟩) (rfl : g = g) v
theorem Kp.set6 (g : Nat) (w : World) (a b c d e f : Nat) (x1 x2 x3 x4 x5 x6 : Value) : Kp (fun k => k = g) w ((((((w.setCell ⟨g, a, none⟩ x1).setCell ⟨g, b, none⟩ x2).setCell ⟨g, c, none⟩ x3).setCell ⟨g, d, none⟩ x4).setCell ⟨g, e, none⟩ x5).setCell ⟨g, f, none⟩ x6).drew :=
  (((((((Kp.refl (fun k => k = g) w).set1 a x1).set1 b x2).set1 c x3).set1 d x4).set1 e x5).set1 f x6).drew
theorem Kp.below {X : Nat → Prop} {a b : World} (h : Kp X a b) (n : Nat) (hn : n ≤ a.heap.size) (hx : ∀ i, i < n → ¬ X i) : Below n a b := ⟨h.os, h.tape, h.output, h.size, fun i hi => h.block i (by omega) (hx i hi)⟩

/-- f compares items such as c says, in every world that keeps all of W but the blocks of X -/
def Cmp (W : World) (X : Nat → Prop) (f : Value) (c : It → It → Int) (D : It → Prop) : Prop :=
  ∃ id cap, f = .func (.func id) #[] cap ∧ (∀ args w, (callFunc id args).run Tryz.prog w = .ok (.enter id args) w) ∧
    ∀ (W' : World), Kp X W W' → ∀ a b : It, D a → D b → Calls Tryz.prog id (#[ia a, ia b] ++ cap) W' fun e w' => e = .returned (.int .i64 (c a b)) ∧ Below W'.heap.size W' w'

/-- the row of items at g -/
def Row3 (g cap : Nat) (w : World) (l : List It) : Prop := ∃ cur, w.heap[g]? = some (.cells cur 66 (0, 0)) ∧ cur.size = cap * 3 ∧ l.length ≤ cap ∧ cur.toList.take (l.length * 3) = its l
theorem Row3.lt {g cap : Nat} {w : World} {l : List It} (h : Row3 g cap w l) : g < w.heap.size := by
  obtain ⟨cur, h1, _⟩ := h
  exact (Array.getElem?_eq_some_iff.1 h1).1
theorem Row3.cells {g cap : Nat} {w : World} {l : List It} (h : Row3 g cap w l) {i : Nat} (hi : i < l.length) :
    w.cell? ⟨g, i * 3, none⟩ = some (.string (l.getD i it0).line) ∧ w.cell? ⟨g, i * 3 + 1, none⟩ = some (.string (l.getD i it0).key) ∧ w.cell? ⟨g, i * 3 + 2, none⟩ = some (.int .i64 (l.getD i it0).place) := by
  obtain ⟨cur, h1, h2, h3, h4⟩ := h
  obtain ⟨a1, a2, a3⟩ := its_at l i hi
  rw [← h4, List.getElem?_take_of_lt (by omega)] at a1
  rw [← h4, List.getElem?_take_of_lt (by omega)] at a2
  rw [← h4, List.getElem?_take_of_lt (by omega)] at a3
  rw [cell_of_row _ _ _ _ _ _ h1, cell_of_row _ _ _ _ _ _ h1, cell_of_row _ _ _ _ _ _ h1]
  exact ⟨by simpa using a1, by simpa using a2, by simpa using a3⟩
theorem Row3.frozen {g cap : Nat} {w : World} {l : List It} (h : Row3 g cap w l) (i : Nat) : w.frozen? ⟨g, i, none⟩ = false := by
  obtain ⟨cur, h1, _⟩ := h
  simp [World.frozen?, h1]
theorem row_set {w : World} {g i : Nat} {cur : Array Value} {e : TypeId} {fz : Nat × Nat} (v : Value) (h : w.heap[g]? = some (.cells cur e fz)) : (w.setCell ⟨g, i, none⟩ v).heap[g]? = some (.cells (cur.setIfInBounds i v) e fz) := by
  obtain ⟨hlt, hk⟩ := Array.getElem?_eq_some_iff.1 h
  show (w.heap.modify g _)[g]? = _
  rw [Array.getElem?_eq_getElem (by rw [Array.size_modify]; exact hlt), Array.getElem_modify_self, hk]
  rfl
theorem Row3.set {g cap : Nat} {w : World} {l : List It} (h : Row3 g cap w l) {i : Nat} (hi : i < l.length) (x : It) :
    Row3 g cap (((w.setCell ⟨g, i * 3, none⟩ (.string x.line)).setCell ⟨g, i * 3 + 1, none⟩ (.string x.key)).setCell ⟨g, i * 3 + 2, none⟩ (.int .i64 x.place)) (l.set i x) := by
  obtain ⟨cur, h1, h2, h3, h4⟩ := h
  refine ⟨_, row_set _ (row_set _ (row_set _ h1)), by simpa using h2, by simpa using h3, ?_⟩
  rw [List.length_set, ← its_set l i x hi, ← h4]
  simp [List.take_set]
theorem Row3.keep {g cap : Nat} {w w' : World} {l : List It} (h : Row3 g cap w l) (e : w'.heap[g]? = w.heap[g]?) : Row3 g cap w' l := by
  obtain ⟨cur, h1, h2⟩ := h
  exact ⟨cur, e.trans h1, h2⟩
theorem Row3.drew {g cap : Nat} {w : World} {l : List It} (h : Row3 g cap w l) : Row3 g cap w.drew l := h.keep rfl
theorem Row3.take {g cap : Nat} {w : World} {l : List It} (h : Row3 g cap w l) (n : Nat) (hn : n ≤ l.length) : Row3 g cap w (l.take n) := by
  obtain ⟨cur, h1, h2, h3, h4⟩ := h
  refine ⟨cur, h1, h2, by rw [List.length_take]; omega, ?_⟩
  rw [List.length_take, show min n l.length = n by omega, ← its_take, ← h4, List.take_take, show min (n * 3) (l.length * 3) = n * 3 by omega]
theorem it_mem {l : List It} {i : Nat} (h : i < l.length) : l.getD i it0 ∈ l := by rw [getD_get it0 l h]; exact List.getElem_mem h
/-- f tells whether two items are alike -/
def Eqf (W : World) (X : Nat → Prop) (f : Value) (r : It → It → Bool) (D : It → Prop) : Prop :=
  ∃ id cap, f = .func (.func id) #[] cap ∧ (∀ args w, (callFunc id args).run Tryz.prog w = .ok (.enter id args) w) ∧
    ∀ (W' : World), Kp X W W' → ∀ a b : It, D a → D b → Calls Tryz.prog id (#[ia a, ia b] ++ cap) W' fun e w' => e = .returned (.bool (r a b)) ∧ Below W'.heap.size W' w'
end Go.Proofs.YtmpppdbomdepoaaGreatDoor.So
