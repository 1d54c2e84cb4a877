/- A node that came in, opened. -/
import Derived.Test.YtngljliollbcnaaPmOpen
import Derived.Test.YtngljliollbcnaaTrOpen
namespace Go.Proofs.Ytngljliollbcnaa.Pm
open Go.ChangeShapes Go.WideShapes Go.ChangeAt Go.RowKit Go.Deep Go.Proofs.Ytngljliollbcnaa.Tr

theorem cellsNd : Try.prog.cellsOf 26 = 10 := by kernel_rfl
theorem open_node1 {H : Type} {enc : TypeId × Value → H} {W : World} {base : Nat} {spare : Nat → Bool} {held : Bool} {r : Reach} {b0 : Nat} {v : Value} {d : DataW H} {p : List MemPlace}
    (hval : Value.okWide Try.prog W r b0 26 v) (h : DataW.Trod enc Try.prog W base spare held 26 v d p) (hz : ∀ n ∈ d.weights Try.prog 26, n ≤ reachBytes) :
    ∃ (n : Nd) (da : Option Addr) (dc : Nat) (la : Option Addr) (lc : Nat), v = .agg (na n (.slice da n.data.length dc) (.slice la n.list.length lc)) ∧ By W da n.data.length dc n.data ∧ Eg W la n.list.length lc n.list ∧ Rb n := by
  obtain ⟨cs, rfl, hsz⟩ := okWide_struct Try.underlying26 hval
  rw [cellsNd] at hsz
  obtain ⟨fuel, hf⟩ := h
  simp only [Value.cells] at hf
  obtain ⟨n, da, dc, la, lc, hc, hb, hg, hr⟩ := open_node (by simpa using hsz) hf hz
  exact ⟨n, da, dc, la, lc, by rw [← Array.toArray_toList (xs := cs), hc]; rfl, hb, hg, hr⟩
end Go.Proofs.Ytngljliollbcnaa.Pm
