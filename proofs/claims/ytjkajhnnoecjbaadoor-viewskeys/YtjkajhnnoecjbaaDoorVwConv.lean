/- Texts as bytes and back. -/
import Derived.Test.YtjkajhnnoecjbaaDoorVwPlain
import Derived.Laws.IdiomStrings
import Derived.Lib.BufferRead
set_option linter.unusedVariables false
namespace Go.Proofs.YtjkajhnnoecjbaaDoor.Vw
open Go.RowKit Cu

theorem add_at (b off j : Nat) : (⟨b, off, none⟩ : Addr).add j = ⟨b, off + j, none⟩ := by unfold Addr.add; split <;> simp_all
theorem cv_to (x : ByteArray) (W : World) : ∃ (c : Nat) (o : Obj), (convert 9 49 (.string x)).run Tryd.prog W = .ok (.slice (some ⟨W.heap.size, 0, none⟩) x.size c) (W.alloc o).drew ∧ (∀ j u, (Lib.strCells x)[j]? = some u → (W.alloc o).cell? ((⟨W.heap.size, 0, none⟩ : Addr).add j) = some u) := by
  refine ⟨_, _, run_bytes_of_string W 9 49 5 x Tryd.underlying9 Tryd.underlying49 Tryd.underlying5, ?_⟩
  intro j u hj
  have hj' : j < x.data.size := by
    have := (List.getElem?_eq_some_iff.1 hj).1
    simpa [Lib.strCells] using this
  rw [add_at, Nat.zero_add, Lib.cell_of_heap (heap_alloc_new W _)]
  rw [← hj]
  unfold bytesRow
  rw [Array.getElem?_append_left (by simpa using hj')]
  simp [Lib.strCells]
theorem cv_back {W : World} {base : Nat} {v : Value} (l : Bs) (h : Row base v l W) : (convert 49 9 v).run Tryd.prog W = .ok (.string (bt l)) W := by
  rcases h.2 with ⟨rfl, h0⟩ | ⟨g, cap, cur, rfl, _⟩
  · obtain rfl : l = [] := List.eq_nil_of_length_eq_zero h0
    exact Lib.run_convert_nil_bytes W 49 9 5 0 Tryd.underlying49 Tryd.underlying5 Tryd.underlying9
  · refine run_convert_bytes_back W 49 9 5 ⟨g, 0, none⟩ cap l Tryd.underlying49 Tryd.underlying5 Tryd.underlying9 ?_
    intro j hj
    exact h.cells (g := g) rfl j _ (by simp [Lib.byteCells, List.getElem?_eq_getElem hj])
theorem row_text {w : World} {B n : Nat} {v : Value} {l : Bs} {x : ByteArray} (h : w.ownsRow B 5 1 v n (Lib.byteCells l ++ Lib.strCells x)) (hn : n = l.length + x.size) : Row B v (l ++ bs x) w := by
  subst hn
  unfold Row
  rw [List.length_append, Lib.byteCells_append, bs_len]
  rw [show Lib.byteCells (bs x) = Lib.strCells x by rw [Lib.strCells_eq]]
  exact h
end Go.Proofs.YtjkajhnnoecjbaaDoor.Vw
