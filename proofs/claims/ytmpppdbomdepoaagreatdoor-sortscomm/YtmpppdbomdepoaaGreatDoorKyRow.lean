/- An order in memory: its seven cells, what keeps them, what changes one. -/
import Derived.Test.YtmpppdbomdepoaaGreatDoorKyBase
namespace Go.Proofs.YtmpppdbomdepoaaGreatDoor.Ky
open Go.RowKit Go.Shelf

/-- the order o lies at k -/
def OR (W : World) (k : Nat) (o : Ord) : Prop := W.heap[k]? = some (.cells #[.bool o.num, .bool o.fold, .bool o.bls, .bool o.rev, .int .i64 o.fr, .int .i64 o.to, .int .u8 (o.sep.toNat : Int)] 23 (0, 0))
theorem OR.cells {W : World} {k : Nat} {o : Ord} (h : OR W k o) :
    W.cell? ⟨k, 0, none⟩ = some (.bool o.num) ∧ W.cell? ⟨k, 1, none⟩ = some (.bool o.fold) ∧ W.cell? ⟨k, 2, none⟩ = some (.bool o.bls) ∧ W.cell? ⟨k, 3, none⟩ = some (.bool o.rev) ∧ W.cell? ⟨k, 4, none⟩ = some (.int .i64 o.fr) ∧ W.cell? ⟨k, 5, none⟩ = some (.int .i64 o.to) ∧ W.cell? ⟨k, 6, none⟩ = some (.int .u8 (o.sep.toNat : Int)) :=
  ⟨cell_of_row _ _ 0 _ _ _ h, cell_of_row _ _ 1 _ _ _ h, cell_of_row _ _ 2 _ _ _ h, cell_of_row _ _ 3 _ _ _ h, cell_of_row _ _ 4 _ _ _ h, cell_of_row _ _ 5 _ _ _ h, cell_of_row _ _ 6 _ _ _ h⟩
theorem OR.new (w : World) (o : Ord) : OR (w.alloc (.cells #[.bool o.num, .bool o.fold, .bool o.bls, .bool o.rev, .int .i64 o.fr, .int .i64 o.to, .int .u8 (o.sep.toNat : Int)] 23)) w.heap.size o := heap_alloc_new w _
theorem OR.frozen {W : World} {k : Nat} {o : Ord} (h : OR W k o) (i : Nat) : W.frozen? ⟨k, i, none⟩ = false := by unfold OR at h; simp [World.frozen?, h]
theorem OR.lt {W : World} {k : Nat} {o : Ord} (h : OR W k o) : k < W.heap.size := (Array.getElem?_eq_some_iff.1 h).1
theorem OR.below {W W' : World} {k : Nat} {o : Ord} (h : OR W k o) (b : Below W.heap.size W W') : OR W' k o := (b.block _ h.lt).trans h
theorem OR.alloc {W : World} {k : Nat} {o : Ord} (h : OR W k o) (x : Obj) : OR (W.alloc x) k o := (Below.heap_alloc _ _ _ h.lt).trans h
theorem OR.set {W : World} {k : Nat} {o o' : Ord} (h : OR W k o) (i : Nat) (v : Value)
    (e : (#[Value.bool o.num, .bool o.fold, .bool o.bls, .bool o.rev, .int .i64 o.fr, .int .i64 o.to, .int .u8 (o.sep.toNat : Int)]).setIfInBounds i v = #[.bool o'.num, .bool o'.fold, .bool o'.bls, .bool o'.rev, .int .i64 o'.fr, .int .i64 o'.to, .int .u8 (o'.sep.toNat : Int)]) : OR (W.setCell ⟨k, i, none⟩ v) k o' := by
  obtain ⟨hlt, hk⟩ := Array.getElem?_eq_some_iff.1 h
  unfold OR
  show (W.heap.modify k _)[k]? = _
  rw [Array.getElem?_eq_getElem (by rw [Array.size_modify]; exact hlt), Array.getElem_modify_self, hk, ← e]
  rfl
theorem OR.rev {W : World} {k : Nat} {o : Ord} (h : OR W k o) (r : Bool) : OR (W.setCell ⟨k, 3, none⟩ (.bool r)) k { o with rev := r } := h.set 3 _ rfl
theorem OR.fold {W : World} {k : Nat} {o : Ord} (h : OR W k o) (r : Bool) : OR (W.setCell ⟨k, 1, none⟩ (.bool r)) k { o with fold := r } := h.set 1 _ rfl
theorem OR.setTo {W : World} {k : Nat} {o : Ord} (h : OR W k o) (n : Int) : OR (W.setCell ⟨k, 5, none⟩ (.int .i64 n)) k { o with to := n } := h.set 5 _ rfl
end Go.Proofs.YtmpppdbomdepoaaGreatDoor.Ky
