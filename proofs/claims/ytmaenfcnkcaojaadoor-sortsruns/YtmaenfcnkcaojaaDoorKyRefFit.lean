/- What the document's fit answers. -/
import Derived.Test.YtmaenfcnkcaojaaDoorKyComp
import Derived.Test.YtmaenfcnkcaojaaDoorKyRefParts
namespace Go.Proofs.YtmaenfcnkcaojaaDoor.Ky
open Go.RowKit Go.Shelf

attribute [local go_sem] Oper.semAt_some

theorem OR.other {W : World} {k b i : Nat} {o : Ord} (h : OR W k o) (hb : b ≠ k) (v : Value) : OR (W.setCell ⟨b, i, none⟩ v) k o := by
  unfold OR at *
  show (W.heap.modify b _)[k]? = _
  rw [Array.getElem?_modify, if_neg hb]; exact h
/-- where the key begins, blanks left out or not -/
def fitAt (o : Ord) (s : Bs) : Nat := if o.bls = true then upto bl s 0 else 0
theorem fit_at (o : Ord) (s : Bs) : fit o s = (s.drop (fitAt o s)).map (fun c => if o.fold = true then up c else c) := by
  unfold fit fitAt
  cases o.bls
  · simp
  · simp only [if_true]
    have := upto_drop bl s 0
    rw [List.drop_zero] at this
    rw [this]
theorem fit_small {o : Ord} (h : o.fold = false) (s : Bs) : fit o s = s.drop (fitAt o s) := by
  rw [fit_at, h]; simp
theorem fit_great {o : Ord} (h : o.fold = true) (s : Bs) : fit o s = (s.drop (fitAt o s)).map up := by
  rw [fit_at, h]; simp

end Go.Proofs.YtmaenfcnkcaojaaDoor.Ky
