/- An order that is held while calls go on. -/
import Derived.Test.YtmpppdbomdepoaaGreatDoorKyRow
namespace Go.Proofs.YtmpppdbomdepoaaGreatDoor.Ky
open Go.RowKit Go.Shelf

/-- the order o lies where the call laid it; nothing that was there before is touched -/
def Hd (w : World) (o : Ord) (W : World) : Prop := OR W w.heap.size o ∧ Below w.heap.size w W
theorem Hd.step {w W W' : World} {o : Ord} (h : Hd w o W) (b : Below W.heap.size W W') : Hd w o W' := ⟨h.1.below b, h.2.trans (b.mono h.2.size)⟩
theorem Hd.new (w : World) (o : Ord) : Hd w o (w.alloc (.cells #[.bool o.num, .bool o.fold, .bool o.bls, .bool o.rev, .int .i64 o.fr, .int .i64 o.to, .int .u8 (o.sep.toNat : Int)] 23)) := ⟨OR.new w o, (Below.refl _ _).alloc (Nat.le_refl _) _⟩
theorem Hd.drew {w W : World} {o : Ord} (h : Hd w o W) : Hd w o W.drew := ⟨h.1, h.2.drew⟩
theorem Hd.fold {w W : World} {o : Ord} (h : Hd w o W) (r : Bool) : Hd w { o with fold := r } (W.setCell ⟨w.heap.size, 1, none⟩ (.bool r)) := ⟨h.1.fold r, h.2.setCell (p := ⟨w.heap.size, 1, none⟩) (Nat.le_refl _) _⟩
theorem Hd.setTo {w W : World} {o : Ord} (h : Hd w o W) (n : Int) : Hd w { o with to := n } (W.setCell ⟨w.heap.size, 5, none⟩ (.int .i64 n)) := ⟨h.1.setTo n, h.2.setCell (p := ⟨w.heap.size, 5, none⟩) (Nat.le_refl _) _⟩
/-- its cells, beside that -/
def H7 (w : World) (o : Ord) (W : World) : Prop :=
  W.cell? ⟨w.heap.size, 0, none⟩ = some (.bool o.num) ∧ W.cell? ⟨w.heap.size, 1, none⟩ = some (.bool o.fold) ∧ W.cell? ⟨w.heap.size, 2, none⟩ = some (.bool o.bls) ∧ W.cell? ⟨w.heap.size, 3, none⟩ = some (.bool o.rev) ∧ W.cell? ⟨w.heap.size, 4, none⟩ = some (.int .i64 o.fr) ∧ W.cell? ⟨w.heap.size, 5, none⟩ = some (.int .i64 o.to) ∧ W.cell? ⟨w.heap.size, 6, none⟩ = some (.int .u8 (o.sep.toNat : Int)) ∧ Hid (Hd w o W)
theorem H7.of {w W : World} {o : Ord} (h : Hd w o W) : H7 w o W := by
  obtain ⟨h0, h1, h2, h3, h4, h5, h6⟩ := h.1.cells
  exact ⟨h0, h1, h2, h3, h4, h5, h6, h⟩
theorem H7.held {w W : World} {o : Ord} (h : H7 w o W) : Hd w o W := unhide h.2.2.2.2.2.2.2
/-- a call keeps what is held -/
theorem H7.call {w : World} {o : Ord} {f : FuncId} {args : Array Value} {v : Value} (h : ∀ W, Calls Tryz.prog f args W fun e w' => e = .returned v ∧ Below W.heap.size W w') :
    ∀ W, H7 w o W → Calls Tryz.prog f args W fun e w' => e = .returned v ∧ H7 w o w' := fun W q => (h W).mono fun _ _ r => ⟨r.1, H7.of (q.held.step r.2)⟩
end Go.Proofs.YtmpppdbomdepoaaGreatDoor.Ky
