/- The heap of items behind its interface. -/
import Derived.Test.YtmpppdbomdepoaaGreatDoorSoPop
import Derived.Test.YtmpppdbomdepoaaGreatDoorSoIt
import Derived.Deep.RegionHeld3
namespace Go.Proofs.YtmpppdbomdepoaaGreatDoor.So
open Go.RowKit Go.Shelf Ky

attribute [local go_sem] Oper.semAt_some

/-- the heap of items at P: its items lie at g -/
structure Pl (g cap P : Nat) (f : Value) (w : World) (l : List It) : Prop where
  pile : w.heap[P]? = some (.cells #[.slice (some ⟨g, 0, none⟩) l.length cap, f] 170 (0, 0))
  row : Row3 g cap w l
/-- and the rest is as it was -/
def Sx (W1 : World) (g cap P : Nat) (f : Value) (D : It → Prop) (w : World) (l : List It) : Prop := Pl g cap P f w l ∧ (∀ x ∈ l, D x) ∧ Kp (fun k => k = g ∨ k = P) W1 w


set_option maxRecDepth 100000 in
set_option maxHeartbeats 400000 in
theorem len1_any (W1 : World) (g cap P : Nat) (f : Value) (D : It → Prop) (w : World) (l : List It) (h : Sx W1 g cap P f D w l) :
    Calls Tryz.prog 116 #[.pointer (some ⟨P, 0, none⟩)] w fun e w' => e = .returned (.int .i64 l.length) ∧ Sx W1 g cap P f D w' l := by
  have hc0 : w.cell? ⟨P, 0, none⟩ = some (.slice (some ⟨g, 0, none⟩) l.length cap) := cell_of_row _ _ 0 _ _ _ h.1.pile
  have H := hide h
  clear h
  go_enter Tryz.func116, Tryz.ntmps116
  go_wp2_with fail
  go_ret
  exact ⟨rfl, unhide H⟩

theorem Pl.keep {g cap P : Nat} {f : Value} {w w' : World} {l : List It} (h : Pl g cap P f w l) (hb : Below w.heap.size w w') : Pl g cap P f w' l :=
  ⟨(hb.block _ (Array.getElem?_eq_some_iff.1 h.pile).1).trans h.pile, h.row.keep (hb.block _ h.row.lt)⟩
theorem Sx.step {W1 : World} {g cap P : Nat} {f : Value} {D : It → Prop} {w w' : World} {l : List It} (h : Sx W1 g cap P f D w l) (hb : Below w.heap.size w w') : Sx W1 g cap P f D w' l := ⟨h.1.keep hb, h.2.1, h.2.2.step hb⟩
theorem Sx.drew {W1 : World} {g cap P : Nat} {f : Value} {D : It → Prop} {w : World} {l : List It} (h : Sx W1 g cap P f D w l) : Sx W1 g cap P f D w.drew l := h.step ((Below.refl _ _).drew)

set_option maxRecDepth 100000 in
set_option maxHeartbeats 400000 in
theorem less1_any {W0 : World} {X : Nat → Prop} (W1 : World) (g cap P : Nat) (f : Value) (c : It → It → Int) (D : It → Prop) (hC : Cmp W0 X f c D) (hK : ∀ w, Kp (fun k => k = g ∨ k = P) W1 w → Kp X W0 w) (w : World) (l : List It) (i j : Nat) (h : Sx W1 g cap P f D w l) (hi : i < l.length) (hj : j < l.length) :
    Calls Tryz.prog 229 #[.pointer (some ⟨P, 0, none⟩), .int .i64 i, .int .i64 j] w fun e w' => e = .returned (.bool (decide (c (l.getD i it0) (l.getD j it0) < 0))) ∧ Sx W1 g cap P f D w' l := by
  obtain ⟨id, cp, rfl, en, CC⟩ := hC
  have hA : ∀ W, Sx W1 g cap P (.func (.func id) #[] cp) D W l →
      (W.cell? ⟨P, 0, none⟩ = some (.slice (some ⟨g, 0, none⟩) l.length cap) ∧ W.cell? ⟨P, 1, none⟩ = some (.func (.func id) #[] cp) ∧
      W.cell? ⟨g, i * 3, none⟩ = some (.string (l.getD i it0).line) ∧ W.cell? ⟨g, i * 3 + 1, none⟩ = some (.string (l.getD i it0).key) ∧ W.cell? ⟨g, i * 3 + 2, none⟩ = some (.int .i64 (l.getD i it0).place) ∧
      W.cell? ⟨g, j * 3, none⟩ = some (.string (l.getD j it0).line) ∧ W.cell? ⟨g, j * 3 + 1, none⟩ = some (.string (l.getD j it0).key) ∧ W.cell? ⟨g, j * 3 + 2, none⟩ = some (.int .i64 (l.getD j it0).place) ∧ Hid (Sx W1 g cap P (.func (.func id) #[] cp) D W l)) := fun W h => by
    obtain ⟨i0, i1, i2⟩ := h.1.row.cells hi
    obtain ⟨j0, j1, j2⟩ := h.1.row.cells hj
    exact ⟨cell_of_row _ _ 0 _ _ _ h.1.pile, cell_of_row _ _ 1 _ _ _ h.1.pile, i0, i1, i2, j0, j1, j2, h⟩
  have CX : Hid (∀ W, (W.cell? ⟨P, 0, none⟩ = some (.slice (some ⟨g, 0, none⟩) l.length cap) ∧ W.cell? ⟨P, 1, none⟩ = some (.func (.func id) #[] cp) ∧
      W.cell? ⟨g, i * 3, none⟩ = some (.string (l.getD i it0).line) ∧ W.cell? ⟨g, i * 3 + 1, none⟩ = some (.string (l.getD i it0).key) ∧ W.cell? ⟨g, i * 3 + 2, none⟩ = some (.int .i64 (l.getD i it0).place) ∧
      W.cell? ⟨g, j * 3, none⟩ = some (.string (l.getD j it0).line) ∧ W.cell? ⟨g, j * 3 + 1, none⟩ = some (.string (l.getD j it0).key) ∧ W.cell? ⟨g, j * 3 + 2, none⟩ = some (.int .i64 (l.getD j it0).place) ∧ Hid (Sx W1 g cap P (.func (.func id) #[] cp) D W l)) → Calls Tryz.prog id (#[ia (l.getD i it0), ia (l.getD j it0)] ++ cp) W fun e w' => e = .returned (.int .i64 (c (l.getD i it0) (l.getD j it0))) ∧ (w'.cell? ⟨P, 0, none⟩ = some (.slice (some ⟨g, 0, none⟩) l.length cap) ∧ w'.cell? ⟨P, 1, none⟩ = some (.func (.func id) #[] cp) ∧
      w'.cell? ⟨g, i * 3, none⟩ = some (.string (l.getD i it0).line) ∧ w'.cell? ⟨g, i * 3 + 1, none⟩ = some (.string (l.getD i it0).key) ∧ w'.cell? ⟨g, i * 3 + 2, none⟩ = some (.int .i64 (l.getD i it0).place) ∧
      w'.cell? ⟨g, j * 3, none⟩ = some (.string (l.getD j it0).line) ∧ w'.cell? ⟨g, j * 3 + 1, none⟩ = some (.string (l.getD j it0).key) ∧ w'.cell? ⟨g, j * 3 + 2, none⟩ = some (.int .i64 (l.getD j it0).place) ∧ Hid (Sx W1 g cap P (.func (.func id) #[] cp) D w' l))) := fun W h =>
    (CC W (hK W (unhide h.2.2.2.2.2.2.2.2).2.2) _ _ ((unhide h.2.2.2.2.2.2.2.2).2.1 _ (it_mem hi)) ((unhide h.2.2.2.2.2.2.2.2).2.1 _ (it_mem hj))).mono fun e w' r => ⟨r.1, hA w' ((unhide h.2.2.2.2.2.2.2.2).step r.2)⟩
  have H := hA w.drew h.drew
  clear h CC hK hA
  unfold ia at CX
  generalize l.getD i it0 = a at *
  generalize l.getD j it0 = b at *
  obtain ⟨al, ak, ap⟩ := a
  obtain ⟨bl, bk, bp⟩ := b
  simp only at H CX
  generalize c ⟨al, ak, ap⟩ ⟨bl, bk, bp⟩ = r at *
  go_enter Tryz.func229, Tryz.ntmps229
  go_wp2_with fail
  go_region_held3 (fun w' => w'.cell? ⟨P, 0, none⟩ = some (.slice (some ⟨g, 0, none⟩) l.length cap) ∧ w'.cell? ⟨P, 1, none⟩ = some (.func (.func id) #[] cp) ∧
      w'.cell? ⟨g, i * 3, none⟩ = some (.string al) ∧ w'.cell? ⟨g, i * 3 + 1, none⟩ = some (.string ak) ∧ w'.cell? ⟨g, i * 3 + 2, none⟩ = some (.int .i64 ap) ∧
      w'.cell? ⟨g, j * 3, none⟩ = some (.string bl) ∧ w'.cell? ⟨g, j * 3 + 1, none⟩ = some (.string bk) ∧ w'.cell? ⟨g, j * 3 + 2, none⟩ = some (.int .i64 bp) ∧ Hid (Sx W1 g cap P (.func (.func id) #[] cp) D w' l)) (first | assumption | go_keep)
    (with_reducible refine (unhide CX _ (by assumption)).mono ?_; rintro e w' ⟨rfl, hS1⟩)
  go_wp2_with fail
  go_ret
  exact ⟨rfl, unhide hS1.2.2.2.2.2.2.2.2⟩

theorem swp_sets (l : List It) (i j : Nat) : (l.set i (l.getD j it0)).set j (l.getD i it0) = swp it0 l i j := rfl
set_option maxRecDepth 100000 in
set_option maxHeartbeats 800000 in
theorem swap1_any (W1 : World) (g cap P : Nat) (f : Value) (D : It → Prop) (hgP : g ≠ P) (w : World) (l : List It) (i j : Nat) (h : Sx W1 g cap P f D w l) (hi : i < l.length) (hj : j < l.length) :
    Calls Tryz.prog 232 #[.pointer (some ⟨P, 0, none⟩), .int .i64 i, .int .i64 j] w fun e w' => e = .returned (.tuple #[]) ∧ Sx W1 g cap P f D w' (swp it0 l i j) := by
  have hc0 : w.cell? ⟨P, 0, none⟩ = some (.slice (some ⟨g, 0, none⟩) l.length cap) := cell_of_row _ _ 0 _ _ _ h.1.pile
  obtain ⟨i0, i1, i2⟩ := h.1.row.cells hi
  obtain ⟨j0, j1, j2⟩ := h.1.row.cells hj
  have fz0 := h.1.row.frozen (i * 3)
  have fz1 := h.1.row.frozen (i * 3 + 1)
  have fz2 := h.1.row.frozen (i * 3 + 2)
  have fy0 := h.1.row.frozen (j * 3)
  have fy1 := h.1.row.frozen (j * 3 + 1)
  have fy2 := h.1.row.frozen (j * 3 + 2)
  have hR := (h.1.row.set hi (l.getD j it0)).set (i := j) (by simpa using hj) (l.getD i it0)
  rw [swp_sets] at hR
  have HR := hide hR
  have H := hide h
  clear h hR
  have FIN : ∀ w' : World, Row3 g cap w' (swp it0 l i j) → Kp (fun k => k = g) w w' → Sx W1 g cap P f D w' (swp it0 l i j) := fun w' a1 a2 =>
    ⟨⟨by rw [swp_len, a2.block P (Array.getElem?_eq_some_iff.1 (unhide H).1.pile).1 (Ne.symm hgP)]; exact (unhide H).1.pile, a1⟩, fun x hx => (unhide H).2.1 x ((swp_perm it0 l hi hj).subset hx), (unhide H).2.2.trans a2 (fun _ _ q => q) (fun _ _ q => .inl q)⟩
  have HF := hide FIN
  clear FIN H
  by_cases hij : i = j
  · subst hij
    generalize l.getD i it0 = a at *
    obtain ⟨al, ak, ap⟩ := a
    simp only at i0 i1 i2 j0 j1 j2 HR
    go_enter Tryz.func232, Tryz.ntmps232
    go_wp2_with fail
    go_region
    go_wp2_with fail
    go_end0
    exact ⟨rfl, unhide HF _ (unhide HR).drew (Kp.set6 g w _ _ _ _ _ _ _ _ _ _ _ _)⟩
  · generalize l.getD i it0 = a at *
    generalize l.getD j it0 = b at *
    obtain ⟨al, ak, ap⟩ := a
    obtain ⟨bl, bk, bp⟩ := b
    simp only at i0 i1 i2 j0 j1 j2 HR
    go_enter Tryz.func232, Tryz.ntmps232
    go_wp2_with fail
    go_region
    go_wp2_with fail
    go_end0
    exact ⟨rfl, unhide HF _ (unhide HR).drew (Kp.set6 g w _ _ _ _ _ _ _ _ _ _ _ _)⟩

theorem pile_set {w : World} {P : Nat} {x y v : Value} {e : TypeId} (h : w.heap[P]? = some (.cells #[x, y] e (0, 0))) : (w.setCell ⟨P, 0, none⟩ v).heap[P]? = some (.cells #[v, y] e (0, 0)) := row_set v h
set_option maxRecDepth 100000 in
set_option maxHeartbeats 400000 in
theorem pop1_any (W1 : World) (g cap P : Nat) (f : Value) (D : It → Prop) (hgP : g ≠ P) (w : World) (l : List It) (h : Sx W1 g cap P f D w l) (h0 : 0 < l.length) (hl : l.length ≤ 65536) :
    Calls Tryz.prog 230 #[.pointer (some ⟨P, 0, none⟩)] w fun e w' => e = .returned (.iface 66 (ia (l.getD (l.length - 1) it0))) ∧ Sx W1 g cap P f D w' (l.take (l.length - 1)) := by
  obtain ⟨m, hm⟩ : ∃ m, m + 1 = l.length := ⟨l.length - 1, by omega⟩
  rw [show l.length - 1 = m by omega]
  have em : (l.length : Int) - 1 = (m : Int) := by omega
  have hcap : l.length ≤ cap := by obtain ⟨_, _, _, q, _⟩ := h.1.row; exact q
  have hc0 : w.cell? ⟨P, 0, none⟩ = some (.slice (some ⟨g, 0, none⟩) l.length cap) := cell_of_row _ _ 0 _ _ _ h.1.pile
  have fz : w.frozen? ⟨P, 0, none⟩ = false := by simp [World.frozen?, h.1.pile]
  obtain ⟨i0, i1, i2⟩ := h.1.row.cells (show m < l.length by omega)
  have HF : Hid (∀ w' : World, w'.heap[g]? = w.heap[g]? → w'.heap[P]? = some (.cells #[.slice (some ⟨g, 0, none⟩) m cap, f] 170 (0, 0)) → Kp (fun k => k = g ∨ k = P) w w' → Sx W1 g cap P f D w' (l.take m)) := fun w' a1 a2 a3 =>
    ⟨⟨by rw [List.length_take, show min m l.length = m by omega]; exact a2, (h.1.row.keep a1).take m (by omega)⟩, fun x hx => h.2.1 x (List.mem_of_mem_take hx), h.2.2.trans a3 (fun _ _ q => q) (fun _ _ q => q)⟩
  have HP := hide h.1.pile
  have hPl : P < w.heap.size := (Array.getElem?_eq_some_iff.1 h.1.pile).1
  have hgl : g < w.heap.size := h.1.row.lt
  clear h
  generalize l.getD m it0 = a at *
  obtain ⟨al, ak, ap⟩ := a
  unfold ia
  simp only at i0 i1 i2 ⊢
  have hm' : m < l.length := by omega
  clear hm h0
  go_enter Tryz.func230, Tryz.ntmps230
  go_wp2_with fail
  go_ret
  refine ⟨rfl, unhide HF _ ((Below.heap_alloc _ _ _ (by simpa [World.setCell] using hgl)).trans (Below.heap_setCell _ _ _ _ hgP)) ((Below.heap_alloc _ _ _ (by simpa [World.setCell] using hPl)).trans (pile_set (unhide HP))) (((Kp.refl _ w).set (p := ⟨P, 0, none⟩) (.inr rfl) _).alloc _)⟩

theorem Tryz.meth1 (P : Nat) : Meth 168 ⟨P, 0, none⟩ "Len" 116 ∧ Meth 168 ⟨P, 0, none⟩ "Less" 229 ∧ Meth 168 ⟨P, 0, none⟩ "Swap" 232 ∧ Meth 168 ⟨P, 0, none⟩ "Pop" 230 :=
  ⟨⟨fun _ => by kernel_rfl, enters_of Tryz.func116 (by kernel_rfl) rfl⟩, ⟨fun _ => by kernel_rfl, enters_of Tryz.func229 (by kernel_rfl) rfl⟩, ⟨fun _ => by kernel_rfl, enters_of Tryz.func232 (by kernel_rfl) rfl⟩, ⟨fun _ => by kernel_rfl, enters_of Tryz.func230 (by kernel_rfl) rfl⟩⟩

/-- the heap of items, behind its interface -/
theorem pile1 {W0 : World} {X : Nat → Prop} (W1 : World) (g cap P : Nat) (f : Value) (c : It → It → Int) (D : It → Prop) (hC : Cmp W0 X f c D) (hK : ∀ w, Kp (fun k => k = g ∨ k = P) W1 w → Kp X W0 w) (hgP : g ≠ P) :
    Pile 168 ⟨P, 0, none⟩ (fun w l => Sx W1 g cap P f D w l ∧ l.length ≤ 65536) c it0 ∧ PileOff 168 ⟨P, 0, none⟩ (fun w l => Sx W1 g cap P f D w l ∧ l.length ≤ 65536) it0 (fun x => .iface 66 (ia x)) :=
  ⟨⟨⟨_, (Tryz.meth1 P).1, fun w l h => (len1_any W1 g cap P f D w l h.1).mono fun _ _ r => ⟨r.1, r.2, h.2⟩⟩,
    ⟨_, (Tryz.meth1 P).2.1, fun w l i j h hi hj => (less1_any W1 g cap P f c D hC hK w l i j h.1 hi hj).mono fun _ _ r => ⟨r.1, r.2, h.2⟩⟩,
    ⟨_, (Tryz.meth1 P).2.2.1, fun w l i j h hi hj => (swap1_any W1 g cap P f D hgP w l i j h.1 hi hj).mono fun _ _ r => ⟨r.1, r.2, by rw [swp_len]; exact h.2⟩⟩⟩,
   ⟨⟨_, (Tryz.meth1 P).2.2.2, fun w l h h0 => (pop1_any W1 g cap P f D hgP w l h.1 h0 h.2).mono fun _ _ r => ⟨r.1, r.2, by rw [List.length_take]; have := h.2; omega⟩⟩⟩⟩
end Go.Proofs.YtmpppdbomdepoaaGreatDoor.So
