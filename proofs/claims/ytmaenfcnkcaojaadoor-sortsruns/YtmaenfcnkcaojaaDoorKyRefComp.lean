/- What the document's Compare answers. -/
import Derived.Test.YtmaenfcnkcaojaaDoorKyRefFit
import Derived.Test.YtmaenfcnkcaojaaDoorKyRefKey
import Derived.Test.YtmaenfcnkcaojaaDoorKyRefNumb
import Derived.Deep.RegionHeld3
namespace Go.Proofs.YtmaenfcnkcaojaaDoor.Ky
open Go.RowKit Go.Shelf

attribute [local go_sem] Oper.semAt_some

/-- what is held while keys are made fit -/
def Held (w : World) (o : Ord) (W : World) : Prop := OR W w.heap.size o ∧ Below w.heap.size w W
theorem Held.step {w W W' : World} {o : Ord} (h : Held w o W) (b : Below W.heap.size W W') : Held w o W' := ⟨h.1.below b, h.2.trans (b.mono h.2.size)⟩
def S7 (w : World) (o : Ord) (bn : Bool) (W : World) : Prop :=
  W.cell? ⟨w.heap.size, 0, none⟩ = some (.bool bn) ∧ W.cell? ⟨w.heap.size, 1, none⟩ = some (.bool o.fold) ∧ W.cell? ⟨w.heap.size, 2, none⟩ = some (.bool o.bls) ∧ W.cell? ⟨w.heap.size, 3, none⟩ = some (.bool o.rev) ∧ W.cell? ⟨w.heap.size, 4, none⟩ = some (.int .i64 o.fr) ∧ W.cell? ⟨w.heap.size, 5, none⟩ = some (.int .i64 o.«to») ∧ W.cell? ⟨w.heap.size, 6, none⟩ = some (.int .u8 (o.sep.toNat : Int)) ∧ Hid (Held w o W)
theorem S7.of {w W : World} {o : Ord} {bn : Bool} (hb : bn = o.num) (h : Held w o W) : S7 w o bn W := by
  obtain ⟨h0, h1, h2, h3, h4, h5, h6⟩ := h.1.cells
  exact ⟨by rw [hb]; exact h0, h1, h2, h3, h4, h5, h6, h⟩
theorem S7.held {w W : World} {o : Ord} {bn : Bool} (h : S7 w o bn W) : Held w o W := unhide h.2.2.2.2.2.2.2
theorem len_key (o : Ord) (s : ByteArray) : (Ln.bt (key o s.data.toList)).size ≤ s.size := key_len o s.data.toList

end Go.Proofs.YtmaenfcnkcaojaaDoor.Ky
