/- What great answers: whether lines are more than are gone through. -/
import Derived.Test.YtjfjhpakkflceaaDoorSoList
import Derived.Test.YtjfjhpakkflceaaDoorTextsSize
import Derived.Test.YtjfjhpakkflceaaDoorKyBase
namespace Go.Proofs.YtjfjhpakkflceaaDoor.So
open Go.RowKit Go.Shelf Ky
open Pa (Tx tot)

attribute [local go_sem] Oper.semAt_some

set_option maxRecDepth 100000 in
set_option maxHeartbeats 400000 in
theorem great_lines (A : Ls) (a : Option Addr) (la ca : Nat) (w : World) (hT : Tx w a la ca A) (hl : la ≤ 4611686018427387904) (hs : ∀ s ∈ A, s.size ≤ 4611686018427387904) :
    Calls Tryd.prog 6 #[.slice a la ca] w fun e w' => ∃ r : Bool, e = .returned (.bool r) ∧ (r = false → (la ≤ 3000 ∨ 65536 < la) ∧ la + tot A ≤ 300000) ∧ Below w.heap.size w w' := by
  have C := hide (Pa.textsSize_any a la ca A w hT hl hs)
  have hw : ((3000 : Int) < la ∧ (la : Int) ≤ 65536) ∨ (¬ (3000 : Int) < la) ∨ ((3000 : Int) < la ∧ ¬ (la : Int) ≤ 65536) := by omega
  clear hT hs
  rcases hw with ⟨h1, h2⟩ | h1 | ⟨h1, h2⟩
  · clear C
    go_enter Tryd.func6, Tryd.ntmps6
    go_wp2_with fail
    go_ret
    exact ⟨true, rfl, (fun h => by cases h), Below.refl _ _⟩
  · go_enter Tryd.func6, Tryd.ntmps6
    go_wp2_with fail
    refine (unhide C).mono ?_
    rintro e w1 ⟨⟨v, rfl, h3, h4, h5⟩, hw1⟩
    rw [hw1]
    have H5 := hide h5
    clear h5 C hw1
    go_wp2_with fail
    go_ret
    refine ⟨_, rfl, fun h => ⟨.inl (by omega), ?_⟩, Below.refl _ _⟩
    have h6 : ¬ (300000 : Int) < v := by simpa using h
    have := unhide H5 (by omega)
    omega
  · go_enter Tryd.func6, Tryd.ntmps6
    go_wp2_with fail
    refine (unhide C).mono ?_
    rintro e w1 ⟨⟨v, rfl, h3, h4, h5⟩, hw1⟩
    rw [hw1]
    have H5 := hide h5
    clear h5 C hw1
    go_wp2_with fail
    go_ret
    refine ⟨_, rfl, fun h => ⟨.inr (by omega), ?_⟩, Below.refl _ _⟩
    have h6 : ¬ (300000 : Int) < v := by simpa using h
    have := unhide H5 (by omega)
    omega
end Go.Proofs.YtjfjhpakkflceaaDoor.So
