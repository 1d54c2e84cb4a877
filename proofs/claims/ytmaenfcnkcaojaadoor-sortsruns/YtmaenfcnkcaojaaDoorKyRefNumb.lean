/- What the document's Number answers. -/
import Derived.Test.YtmaenfcnkcaojaaDoorKyRefOf
namespace Go.Proofs.YtmaenfcnkcaojaaDoor.Ky
open Go.RowKit Go.Shelf

attribute [local go_sem] Oper.semAt_some

/-- the ways of the document's Number -/
def NW (sx sy : Int) (xw xp yw yp : ByteArray) (r : Int) : Prop :=
  (sx < sy ∧ r = -1) ∨ (sy < sx ∧ r = 1) ∨ (sx = sy ∧ (((xw.size : Int) < yw.size ∧ r = -sx) ∨ ((yw.size : Int) < xw.size ∧ r = sx) ∨ ((xw.size : Int) = yw.size ∧ (xw.toList == yw.toList) = false ∧ r = cmpL xw.data.toList yw.data.toList * sx) ∨ (xw = yw ∧ r = cmpL xp.data.toList yp.data.toList * sx)))
theorem nw_of (x y : Dec) (_hx : sgn x) (_hy : sgn y) : NW x.sign y.sign (Ln.bt x.whole) (Ln.bt x.part) (Ln.bt y.whole) (Ln.bt y.part) (cmpD x y) := by
  unfold NW cmpD
  have z1 : (Ln.bt x.whole).size = x.whole.length := rfl
  have z2 : (Ln.bt y.whole).size = y.whole.length := rfl
  by_cases hs : x.sign = y.sign
  · right; right
    refine ⟨hs, ?_⟩
    rw [if_pos hs, z1, z2]
    unfold cmpU lex cmpI
    by_cases h1 : (x.whole.length : Int) < y.whole.length
    · left; simp [h1]
    · by_cases h2 : (y.whole.length : Int) < x.whole.length
      · right; left; simp [h1, h2]
      · right; right
        by_cases h3 : x.whole = y.whole
        · right
          refine ⟨by rw [h3], ?_⟩
          simp only [if_neg h1, if_neg h2, if_true, if_pos ((cmpL_zero _ _).2 h3)]; rfl
        · left
          refine ⟨by omega, ?_, ?_⟩
          · rw [ByteArray.toList_eq, ByteArray.toList_eq]
            show (x.whole == y.whole) = false
            simpa using h3
          · have h4 : cmpL x.whole y.whole ≠ 0 := fun e => h3 ((cmpL_zero _ _).1 e)
            simp only [if_neg h1, if_neg h2, if_true, if_neg h4]; rfl
  · rw [if_neg hs]
    unfold cmpI
    by_cases h1 : x.sign < y.sign
    · left; exact ⟨h1, by rw [if_pos h1]⟩
    · right; left
      have h2 : y.sign < x.sign := by omega
      exact ⟨h2, by rw [if_neg h1, if_pos h2]⟩

theorem three_cells {W : World} {k : Nat} {x y z : Value} {t : TypeId} (h : W.heap[k]? = some (.cells #[x, y, z] t (0, 0))) : W.cell? ⟨k, 0, none⟩ = some x ∧ W.cell? ⟨k, 1, none⟩ = some y ∧ W.cell? ⟨k, 2, none⟩ = some z :=
  ⟨cell_of_row _ _ 0 _ _ _ h, cell_of_row _ _ 1 _ _ _ h, cell_of_row _ _ 2 _ _ _ h⟩

end Go.Proofs.YtmaenfcnkcaojaaDoor.Ky
