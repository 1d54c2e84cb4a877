/- What the document's Number answers. -/
import Derived.Test.YtjfjhpakkflceaaDoorKyRefOf
namespace Go.Proofs.YtjfjhpakkflceaaDoor.Ky
open Go.RowKit Go.Shelf

attribute [local go_sem] Oper.semAt_some

/-- the ways of the document's Number -/
def NW (sx sy : Int) (xw xp yw yp : ByteArray) (r : Int) : Prop :=
  (sx < sy ∧ r = -1) ∨ (sy < sx ∧ r = 1) ∨ (sx = sy ∧ (((xw.size : Int) < yw.size ∧ r = -sx) ∨ ((yw.size : Int) < xw.size ∧ r = sx) ∨ ((xw.size : Int) = yw.size ∧ (xw.toList == yw.toList) = false ∧ r = cmpL xw.data.toList yw.data.toList * sx) ∨ (xw = yw ∧ r = cmpL xp.data.toList yp.data.toList * sx)))
theorem nw_of (x y : Dec) (_hx : sgn x) (_hy : sgn y) : NW x.sign y.sign (Ln.bt x.whole) (Ln.bt x.part) (Ln.bt y.whole) (Ln.bt y.part) (cmpD x y) := by
  unfold NW cmpD
  have z1 : (Ln.bt x.whole).size = x.whole.length := rfl
  have z2 : (Ln.bt y.whole).size = y.whole.length := rfl
  by_cases hs : x.sign = y.sign
  · right; right
    refine ⟨hs, ?_⟩
    rw [if_pos hs, z1, z2]
    unfold cmpU lex cmpI
    by_cases h1 : (x.whole.length : Int) < y.whole.length
    · left; simp [h1]
    · by_cases h2 : (y.whole.length : Int) < x.whole.length
      · right; left; simp [h1, h2]
      · right; right
        by_cases h3 : x.whole = y.whole
        · right
          refine ⟨by rw [h3], ?_⟩
          simp only [if_neg h1, if_neg h2, if_true, if_pos ((cmpL_zero _ _).2 h3)]; rfl
        · left
          refine ⟨by omega, ?_, ?_⟩
          · rw [ByteArray.toList_eq, ByteArray.toList_eq]
            show (x.whole == y.whole) = false
            simpa using h3
          · have h4 : cmpL x.whole y.whole ≠ 0 := fun e => h3 ((cmpL_zero _ _).1 e)
            simp only [if_neg h1, if_neg h2, if_true, if_neg h4]; rfl
  · rw [if_neg hs]
    unfold cmpI
    by_cases h1 : x.sign < y.sign
    · left; exact ⟨h1, by rw [if_pos h1]⟩
    · right; left
      have h2 : y.sign < x.sign := by omega
      exact ⟨h2, by rw [if_neg h1, if_pos h2]⟩

theorem three_cells {W : World} {k : Nat} {x y z : Value} {t : TypeId} (h : W.heap[k]? = some (.cells #[x, y, z] t (0, 0))) : W.cell? ⟨k, 0, none⟩ = some x ∧ W.cell? ⟨k, 1, none⟩ = some y ∧ W.cell? ⟨k, 2, none⟩ = some z :=
  ⟨cell_of_row _ _ 0 _ _ _ h, cell_of_row _ _ 1 _ _ _ h, cell_of_row _ _ 2 _ _ _ h⟩

set_option maxRecDepth 100000 in
set_option maxHeartbeats 4000000 in
theorem rnumber_any (a b : ByteArray) (w : World) (ha : a.size ≤ 1073741824) (hb : b.size ≤ 1073741824) :
    Calls Tryd.prog 74 #[.string a, .string b] w fun e w' => e = .returned (.int .i64 (number a.data.toList b.data.toList)) ∧ Below w.heap.size w w' := by
  have R1 := hide (fun w => of_any a w ha)
  have R2 := hide (fun w => of_any b w hb)
  have sx := decOf_sgn a.data.toList
  have hw := hide (nw_of _ _ (decOf_sgn a.data.toList) (decOf_sgn b.data.toList))
  unfold number
  generalize cmpD (decOf a.data.toList) (decOf b.data.toList) = r at *
  unfold sgn at sx
  have SX := hide sx
  clear sx
  generalize (decOf a.data.toList).sign = s1 at *
  generalize (decOf b.data.toList).sign = s2 at *
  generalize Ln.bt (decOf a.data.toList).whole = x1 at *
  generalize Ln.bt (decOf a.data.toList).part = x2 at *
  generalize Ln.bt (decOf b.data.toList).whole = y1 at *
  generalize Ln.bt (decOf b.data.toList).part = y2 at *
  have D1 := hide (fun w => bytes_any x1 y1 w)
  have D2 := hide (fun w => bytes_any x2 y2 w)
  have G1 := hide (good_cmpL.rg x1.data.toList y1.data.toList)
  have G2 := hide (good_cmpL.rg x2.data.toList y2.data.toList)
  unfold NW at hw
  generalize cmpL x1.data.toList y1.data.toList = m1 at *
  generalize cmpL x2.data.toList y2.data.toList = m2 at *
  go_enter Tryd.func74, Tryd.ntmps74
  go_wp2_with fail
  refine (unhide R1 _).mono ?_
  rintro e w1 ⟨rfl, b1⟩
  go_wp2_with fail
  refine (unhide R2 _).mono ?_
  rintro e w2 ⟨rfl, b2⟩
  have r1 := (b2.block _ (by simp)).trans (heap_alloc_new w1 (.cells #[.int .i64 s1, .string x1, .string x2] 160))
  have hB0 : Below w.heap.size w (w1.alloc (.cells #[.int .i64 s1, .string x1, .string x2] 160)) := b1.alloc b1.size _
  have hB := hB0.trans (b2.mono hB0.size)
  have hB2 := hide (hB.alloc hB.size (.cells #[.int .i64 s2, .string y1, .string y2] 160))
  have r2 := (Below.heap_alloc w2 (.cells #[.int .i64 s2, .string y1, .string y2] 160) _ (Array.getElem?_eq_some_iff.1 r1).1).trans r1
  obtain ⟨q0, q1, q2⟩ := three_cells r2
  clear r1 r2 hB0 hB b1 b2 R1 R2
  have hs := unhide SX
  have hv := unhide hw
  clear SX hw
  rcases hv with ⟨h1, rfl⟩ | ⟨h1, rfl⟩ | ⟨rfl, ⟨h1, rfl⟩ | ⟨h1, rfl⟩ | ⟨h1, h2, rfl⟩ | ⟨rfl, rfl⟩⟩
  · clear hs
    go_wp2_with fail
    go_ret
    exact ⟨rfl, unhide hB2⟩
  · clear hs
    go_wp2_with fail
    go_ret
    exact ⟨rfl, unhide hB2⟩
  · rcases hs with rfl | rfl | rfl
    all_goals
      go_wp2_with fail
      go_ret
      exact ⟨rfl, unhide hB2⟩
  · rcases hs with rfl | rfl | rfl
    all_goals
      go_wp2_with fail
      go_ret
      exact ⟨rfl, unhide hB2⟩
  · have g := unhide G1
    clear G1 G2
    rcases hs with rfl | rfl | rfl <;> rcases g with rfl | rfl | rfl
    all_goals
      go_wp2_with fail
      refine (unhide D1 _).mono ?_
      rintro e w3 ⟨rfl, hw3⟩
      rw [hw3]
      go_wp2_with fail
      go_ret
      exact ⟨rfl, unhide hB2⟩
  · have g := unhide G2
    clear G1 G2
    rcases hs with rfl | rfl | rfl <;> rcases g with rfl | rfl | rfl
    all_goals
      go_wp2_with fail
      refine (unhide D2 _).mono ?_
      rintro e w3 ⟨rfl, hw3⟩
      rw [hw3]
      go_wp2_with fail
      go_ret
      exact ⟨rfl, unhide hB2⟩
end Go.Proofs.YtjfjhpakkflceaaDoor.Ky
