/- What the document's Key answers. -/
import Derived.Test.YtmaenfcnkcaojaaDoorKyRefParts
import Derived.Test.YtmaenfcnkcaojaaDoorKyRefJoin
import Derived.Test.YtmaenfcnkcaojaaDoorKyIter
import Derived.Laws.IdiomStrings
import Derived.Lib.BufferRead
import Derived.Lib.Builder
namespace Go.Proofs.YtmaenfcnkcaojaaDoor.Ky
open Go.RowKit Go.Shelf

attribute [local go_sem] Oper.semAt_some

theorem at_lt {W : World} {x i : Nat} {v : Value} (h : W.cell? ⟨x, i, none⟩ = some v) : x < W.heap.size := by
  by_cases hx : x < W.heap.size
  · exact hx
  · have h2 : W.heap[x]? = none := Array.getElem?_eq_none (by omega)
    simp [World.cell?, h2] at h
/-- a list of texts, to be read -/
def FL (W : World) (v : Value) (F : List Bs) : Prop := ∃ a cap, v = .slice a F.length cap ∧ F.length ≤ cap ∧ cap ≤ 9223372036854775807 ∧ ∀ m x, F[m]? = some x → ∃ g, a = some ⟨g, 0, none⟩ ∧ W.cell? ⟨g, m, none⟩ = some (.string (Ln.bt x))
theorem FL.of_row {W : World} {base : Nat} {v : Value} {F : List Bs} (h : W.ownsRow base 9 1 v F.length (Ln.strs1 F)) : FL W v F := by
  rcases h.2 with ⟨hv, h0⟩ | ⟨g, cap, cur, hv, hb, hg, hc1, hc2, hc3, hc4⟩
  · exact ⟨none, 0, by rw [hv, h0], by omega, by omega, fun m x hx => by rw [List.getElem?_eq_none (by omega)] at hx; cases hx⟩
  · refine ⟨some ⟨g, 0, none⟩, cap, hv, hc1, (by unfold maxLen at hc2; omega), fun m x hx => ⟨g, rfl, ?_⟩⟩
    rw [cell_of_row _ _ _ _ _ _ hg]
    obtain ⟨hi, rfl⟩ := List.getElem?_eq_some_iff.1 hx
    have h1 : (cur.toList.take (F.length * 1))[m]? = some (.string (Ln.bt F[m])) := by rw [hc4]; simp [Ln.strs1, List.getElem?_eq_getElem hi]
    rw [List.getElem?_take_of_lt (by omega)] at h1
    simpa using h1
theorem FL.below {W W' : World} {v : Value} {F : List Bs} (h : FL W v F) (b : Below W.heap.size W W') : FL W' v F := by
  obtain ⟨a, cap, h1, h2, h3, h4⟩ := h
  refine ⟨a, cap, h1, h2, h3, fun m x hx => ?_⟩
  obtain ⟨g, e, hc⟩ := h4 m x hx
  exact ⟨g, e, (b.cell (p := ⟨g, m, none⟩) (at_lt hc)).trans hc⟩
/-- string([]byte{c}) -/
theorem one_back (W : World) (c : UInt8) : (convert 112 9 (.slice (some ⟨W.heap.size, 0, none⟩) 1 1)).run Tryd.prog (W.alloc (.cells #[.int .u8 (c.toNat : Int)] 5)) = .ok (.string (Ln.bt [c])) (W.alloc (.cells #[.int .u8 (c.toNat : Int)] 5)) := by
  refine run_convert_bytes_back _ 112 9 5 ⟨W.heap.size, 0, none⟩ 1 [c] Tryd.underlying112 Tryd.underlying5 Tryd.underlying9 ?_
  intro j hj
  simp at hj
  subst hj
  simp [Addr.add]
theorem btw_zero {o : Ord} (h : o.sep = 0) : btw o = [] := by unfold btw; rw [if_pos h]
theorem btw_one {o : Ord} (h : o.sep ≠ 0) : btw o = [o.sep] := by unfold btw; rw [if_neg h]
theorem sep_int (c : UInt8) : c ≠ 0 ↔ ¬ (c.toNat : Int) = 0 := by
  constructor
  · intro h h'; exact h (UInt8.toNat_inj.1 (by rw [show (0 : UInt8).toNat = 0 from rfl]; omega))
  · intro h h'; exact h (by rw [h']; rfl)

end Go.Proofs.YtmaenfcnkcaojaaDoor.Ky
