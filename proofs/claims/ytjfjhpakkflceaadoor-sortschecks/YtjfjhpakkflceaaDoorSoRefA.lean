/- What the document's ahead and before answer. -/
import Derived.Test.YtjfjhpakkflceaaDoorSoLines
import Derived.Test.YtjfjhpakkflceaaDoorKyRefComp
namespace Go.Proofs.YtjfjhpakkflceaaDoor.So
open Go.RowKit Go.Shelf Ky

attribute [local go_sem] Oper.semAt_some

set_option maxRecDepth 100000 in
set_option maxHeartbeats 600000 in
theorem rahead_any (o : Ord) (a b : ByteArray) (w : World) (ha : a.size ≤ 1073741000) (hb : b.size ≤ 1073741000) :
    Calls Tryd.prog 25 #[ov o, .string a, .string b] w fun e w' => e = .returned (.bool (decide (cB o false a b < 0))) ∧ Below w.heap.size w w' := by
  have C := hide (fun W => rcompare_any o a b W ha hb)
  have h1 := less_eq a.data.toList b.data.toList
  have h2 : (a.data.toList == b.data.toList) = decide (cmpL a.data.toList b.data.toList = 0) := by
    rw [Bool.eq_iff_iff]; simp [cmpL_zero]
  have hr := good_cmpL.rg a.data.toList b.data.toList
  have hrc := (good_compare o).rg a.data.toList b.data.toList
  have hres : cB o false a b = if Ky.compare o a.data.toList b.data.toList = 0 then (if o.rev = true then -cmpL a.data.toList b.data.toList else cmpL a.data.toList b.data.toList) else Ky.compare o a.data.toList b.data.toList := by
    unfold cB cmpA Ky.lex
    simp only [Bool.false_eq_true, if_false]
    cases o.rev <;> rfl
  rw [hres]
  clear hres
  rw [← Go.ByteArray.toList_eq, ← Go.ByteArray.toList_eq] at h1 h2 hr hrc C ⊢
  generalize Ky.compare o a.toList b.toList = n at *
  generalize cmpL a.toList b.toList = x at *
  obtain ⟨br, hbr⟩ : ∃ r, r = o.rev := ⟨_, rfl⟩
  rw [← hbr]
  have HBR := hide hbr.symm
  clear hbr
  unfold ov at C ⊢
  have H0 : Hid (Held w o (w.alloc (.cells #[.bool o.num, .bool o.fold, .bool o.bls, .bool o.rev, .int .i64 o.fr, .int .i64 o.«to», .int .u8 (o.sep.toNat : Int)] 23))) := ⟨OR.new w o, (Below.refl _ _).alloc (Nat.le_refl _) _⟩
  have H1 := hide h1
  have H2 := hide h2
  have HR := hide hr
  clear h1 h2 hr
  go_enter Tryd.func25, Tryd.ntmps25
  go_wp2_with fail
  refine (unhide C _).mono ?_
  rintro e w1 ⟨rfl, b1⟩
  have H3 := hide ((unhide H0).step b1)
  clear b1 H0 C
  obtain ⟨d0, d1, d2, d3, d4, d5, d6⟩ := (unhide H3).1.cells
  rw [unhide HBR] at d3
  clear HBR
  rcases hrc with rfl | rfl | rfl
  · clear H1 H2 HR
    go_wp2_with fail
    go_ret
    exact ⟨rfl, (unhide H3).2⟩
  · have h1 := unhide H1
    have h2 := unhide H2
    have hr := unhide HR
    clear H1 H2 HR
    cases br
    · rcases hr with rfl | rfl | rfl
      all_goals
        simp only [Int.reduceNeg, Int.reduceEq, decide_true, decide_false] at h1 h2
        go_wp2_with fail
        go_ret
        exact ⟨rfl, (unhide H3).2⟩
    · rcases hr with rfl | rfl | rfl
      all_goals
        simp only [Int.reduceNeg, Int.reduceEq, decide_true, decide_false] at h1 h2
        go_wp2_with fail
        go_ret
        exact ⟨rfl, (unhide H3).2⟩
  · clear H1 H2 HR
    go_wp2_with fail
    go_ret
    exact ⟨rfl, (unhide H3).2⟩

end Go.Proofs.YtjfjhpakkflceaaDoor.So
