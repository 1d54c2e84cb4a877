/- What stays as it is while blocks of one type change; the cells of a machine. -/
import Derived.Test.YtelijbnamiefcaaGlBits
namespace Go.Proofs.Ytelijbnamiefcaa.Gl
open Go.RowKit

/-- all blocks of other types than e stay as they are -/
def Sep (e : TypeId) (w w' : World) : Prop := w.heap.size ≤ w'.heap.size ∧ ∀ (k : Nat) (c : Array Value) (e' : TypeId) (z : Nat × Nat), w.heap[k]? = some (Obj.cells c e' z) → e' ≠ e → w'.heap[k]? = some (Obj.cells c e' z)
theorem Sep.refl (e : TypeId) (w : World) : Sep e w w := ⟨Nat.le_refl _, fun _ _ _ _ h _ => h⟩
theorem Sep.trans {e : TypeId} {x y z : World} (h : Sep e x y) (h' : Sep e y z) : Sep e x z := ⟨Nat.le_trans h.1 h'.1, fun k c e' u ha hk => h'.2 k c e' u (h.2 k c e' u ha hk) hk⟩
theorem Sep.of (e : TypeId) {w w' : World} (h : Below w.heap.size w w') : Sep e w w' := ⟨h.size, fun k _ _ _ ha _ => (h.block k (Array.getElem?_eq_some_iff.1 ha).1).trans ha⟩
theorem Sep.set {e : TypeId} {w : World} {a : Addr} {c : Array Value} {z : Nat × Nat} (h : w.heap[a.block]? = some (Obj.cells c e z)) (x : Value) : Sep e w (w.setCell a x) := by
  refine ⟨by simp, fun k c' e' z' hk he => ?_⟩
  rw [heap_setCell_other _ _ _ _ (fun e1 => ?_)]
  · exact hk
  · rw [e1, h] at hk
    injection hk with hk
    injection hk with _ h2 _
    exact he h2.symm
theorem Sep.grown {e : TypeId} {w w' : World} {v : Value} {base n size : Nat} {xs : List Value} (hg : w.grownBy w' v.ownBlock) (ho : w.ownsRow base e size v n xs) : Sep e w w' := by
  refine ⟨hg.size, fun k c e' z hk hne => ?_⟩
  have hlt := (Array.getElem?_eq_some_iff.1 hk).1
  rw [hg.block k hlt, hk]
  intro e1
  rcases ho.2 with ⟨hv, _⟩ | ⟨g, cap, cur, hv, _, hgk, _⟩
  · rw [hv] at e1; cases e1
  · rw [hv] at e1
    have : k = g := by simpa [Value.ownBlock] using e1
    subst this
    rw [hk] at hgk
    injection hgk with hgk
    injection hgk with _ h2 _
    exact hne h2
theorem Sep.kt {e : TypeId} {w w' : World} (h : Sep e w w') (he : okT e = false) : Kt w w' :=
  ⟨h.1, fun k c e' z hk hok => h.2 k c e' z hk fun e1 => by rw [e1, he] at hok; cases hok⟩
theorem own_of {w w' : World} {B : Nat} {e : TypeId} {size : Nat} {v : Value} {n : Nat} {xs : List Value} (h : w.ownsRow B e size v n xs) (hb : ∀ (k : Nat) (c : Array Value) (z : Nat × Nat), w.heap[k]? = some (Obj.cells c e z) → w'.heap[k]? = some (Obj.cells c e z)) : w'.ownsRow B e size v n xs := by
  refine ⟨h.1, ?_⟩
  rcases h.2 with hn | ⟨g, cap, cur, hv, h1, hg, rest⟩
  · exact .inl hn
  · exact .inr ⟨g, cap, cur, hv, h1, hb _ _ _ hg, rest⟩
theorem Sep.own {e : TypeId} {w w' : World} (h : Sep e w w') {B : Nat} {e' : TypeId} {size : Nat} {v : Value} {n : Nat} {xs : List Value} (ho : w.ownsRow B e' size v n xs) (hne : e' ≠ e) : w'.ownsRow B e' size v n xs := own_of ho fun k c z hk => h.2 k c e' z hk hne
theorem Sep.pl {e : TypeId} {w w' : World} (h : Sep e w w') {g m : Nat} {f : Nat → Wd} (hp : Pl w g m f) (hne : 72 ≠ e) : Pl w' g m f := h.2 _ _ _ _ hp hne
theorem Pl.drew {w : World} {g m : Nat} {f : Nat → Wd} (h : Pl w g m f) : Pl w.drew g m f := h
theorem below_drew1 {B : Nat} {w0 w : World} (h : Below B w0 w) : Below B w0 w.drew := h.trans ⟨rfl, rfl, rfl, Nat.le_refl _, fun _ _ => rfl⟩
theorem Sep.drew {e : TypeId} {w w' : World} (h : Sep e w w') : Sep e w w'.drew := h

/-! ### a machine -/
def zs : UInt8 → Value := fun _ => .slice none 0 0
/-- the cells of a machine -/
def mcs (o s a : Value) (f : UInt8 → Value) : Array Value := #[o, s, a] ++ tab f
theorem mcs_size (o s a : Value) (f : UInt8 → Value) : (mcs o s a f).size = 259 := by simp [mcs, tab_size]
theorem Try.infoMach : (Try.prog.info? 42).map (fun i => (i.zero, i.size)) = some (some (.agg (mcs (.slice none 0 0) (.slice none 0 0) (.slice none 0 0) zs)), 259) := by kernel_rfl
theorem mcs_0 (o s a : Value) (f : UInt8 → Value) : (mcs o s a f)[0]? = some o := by unfold mcs; rw [Array.getElem?_append_left (by simp)]; rfl
theorem mcs_1 (o s a : Value) (f : UInt8 → Value) : (mcs o s a f)[1]? = some s := by unfold mcs; rw [Array.getElem?_append_left (by simp)]; rfl
theorem mcs_2 (o s a : Value) (f : UInt8 → Value) : (mcs o s a f)[2]? = some a := by unfold mcs; rw [Array.getElem?_append_left (by simp)]; rfl
theorem mcs_fit (o s a : Value) (f : UInt8 → Value) (c : UInt8) : (mcs o s a f)[3 + c.toNat]? = some (f c) := by
  unfold mcs
  rw [Array.getElem?_append_right (by simp)]
  simp only [List.size_toArray, List.length_cons, List.length_nil]
  rw [show 3 + c.toNat - (0 + 1 + 1 + 1) = c.toNat by omega, tab_at]
theorem mcs_set0 (o s a : Value) (f : UInt8 → Value) (v : Value) : (mcs o s a f).setIfInBounds 0 v = mcs v s a f := by
  unfold mcs
  rw [Array.setIfInBounds_append_left (by simp)]; rfl
theorem mcs_set1 (o s a : Value) (f : UInt8 → Value) (v : Value) : (mcs o s a f).setIfInBounds 1 v = mcs o v a f := by
  unfold mcs
  rw [Array.setIfInBounds_append_left (by simp)]; rfl
theorem mcs_set2 (o s a : Value) (f : UInt8 → Value) (v : Value) : (mcs o s a f).setIfInBounds 2 v = mcs o s v f := by
  unfold mcs
  rw [Array.setIfInBounds_append_left (by simp)]; rfl
theorem mcs_setfit (o s a : Value) (f : UInt8 → Value) (c : UInt8) (v : Value) : (mcs o s a f).setIfInBounds (3 + c.toNat) v = mcs o s a (fun d => if d = c then v else f d) := by
  unfold mcs
  rw [Array.setIfInBounds_append_right (by simp)]
  simp only [List.size_toArray, List.length_cons, List.length_nil]
  rw [show 3 + c.toNat - (0 + 1 + 1 + 1) = c.toNat by omega, tab_set]
theorem mcs_one (o s a : Value) (f : UInt8 → Value) (ho : o.oneCell' = true) (hs : s.oneCell' = true) (ha : a.oneCell' = true) (hf : ∀ c, (f c).oneCell' = true) : (mcs o s a f).all (·.oneCell') = true := by
  unfold mcs
  rw [Array.all_append, tab_one f hf]
  simp [ho, hs, ha]
/-- block b is a machine -/
def Mc (w : World) (b : Nat) (o s a : Value) (f : UInt8 → Value) : Prop := w.heap[b]? = some (.cells (mcs o s a f) 42 (0, 0))
theorem Mc.cell0 {w : World} {b : Nat} {o s a : Value} {f : UInt8 → Value} (h : Mc w b o s a f) : w.cell? ⟨b, 0, none⟩ = some o := by rw [cell_of_row _ _ _ _ _ _ h, mcs_0]
theorem Mc.cell1 {w : World} {b : Nat} {o s a : Value} {f : UInt8 → Value} (h : Mc w b o s a f) : w.cell? ⟨b, 1, none⟩ = some s := by rw [cell_of_row _ _ _ _ _ _ h, mcs_1]
theorem Mc.cell2 {w : World} {b : Nat} {o s a : Value} {f : UInt8 → Value} (h : Mc w b o s a f) : w.cell? ⟨b, 2, none⟩ = some a := by rw [cell_of_row _ _ _ _ _ _ h, mcs_2]
theorem Mc.cellf {w : World} {b : Nat} {o s a : Value} {f : UInt8 → Value} (h : Mc w b o s a f) (c : UInt8) : w.cell? ⟨b, 3 + c.toNat, none⟩ = some (f c) := by rw [cell_of_row _ _ _ _ _ _ h, mcs_fit]
theorem Mc.frozen {w : World} {b : Nat} {o s a : Value} {f : UInt8 → Value} (h : Mc w b o s a f) (i : Nat) : w.frozen? ⟨b, i, none⟩ = false := by
  unfold Mc at h
  simp [World.frozen?, h]
theorem Mc.lt {w : World} {b : Nat} {o s a : Value} {f : UInt8 → Value} (h : Mc w b o s a f) : b < w.heap.size := (Array.getElem?_eq_some_iff.1 h).1
theorem Mc.set0 {w : World} {b : Nat} {o s a : Value} {f : UInt8 → Value} (h : Mc w b o s a f) (v : Value) : Mc (w.setCell ⟨b, 0, none⟩ v) b v s a f := by
  unfold Mc
  rw [heap_setCell_same _ _ _ _ _ _ h, mcs_set0]
theorem Mc.setf {w : World} {b : Nat} {o s a : Value} {f : UInt8 → Value} (h : Mc w b o s a f) (c : UInt8) (v : Value) : Mc (w.setCell ⟨b, 3 + c.toNat, none⟩ v) b o s a (fun d => if d = c then v else f d) := by
  unfold Mc
  rw [heap_setCell_same _ _ _ _ _ _ h, mcs_setfit]
theorem Sep.mc {e : TypeId} {w w' : World} (h : Sep e w w') {b : Nat} {o s a : Value} {f : UInt8 → Value} (hp : Mc w b o s a f) (hne : 42 ≠ e) : Mc w' b o s a f := h.2 _ _ _ _ hp hne
theorem run_load_rec {P : Program} {w : World} {g : Nat} {t : TypeId} {c : Array Value} {fr : Nat × Nat} {d : TypeDesc} (h : w.heap[g]? = some (.cells c t fr)) (hu : P.underlying t = some d) (hd : (match d with | .struct _ | .array _ _ => true | _ => false) = true) (hi : (P.info? t).map (·.size) = some c.size) :
    (Instr.loadAt t (.pointer (some ⟨g, 0, none⟩))).run P w = .ok (.agg c) w := by
  simp only [Instr.loadAt, Instr.sureAddr, Sem.run_bind, Sem.run_pure, Result.andThen]
  exact run_loadVar_row _ _ t t c fr d h hu hd hi
end Go.Proofs.Ytelijbnamiefcaa.Gl
