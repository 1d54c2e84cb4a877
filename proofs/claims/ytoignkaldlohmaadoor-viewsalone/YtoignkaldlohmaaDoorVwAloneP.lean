/- One list alone, and two, in plain words. -/
import Derived.Test.YtoignkaldlohmaaDoorVwPaste
set_option linter.unusedVariables false
namespace Go.Proofs.YtoignkaldlohmaaDoor.Vw
open Go.RowKit Cu

theorem range_getD (L : List Bs) : (List.range L.length).map (fun n => L.getD n []) = L := by
  apply List.ext_getElem
  · simp
  · intro i h1 h2
    simp [List.getD, List.getElem?_eq_getElem h2]
theorem paste_alone (L : List Bs) (c : UInt8) : pasteP [L] [c] = L := by
  have h : ∀ n, besideP [c] 0 (nth [L] n) = L.getD n [] := fun n => by
    simp [nth, besideP, sepAt_zero]
  unfold pasteP
  rw [show most [L] = L.length by simp [most]]
  simp only [h]
  exact range_getD L
theorem paste_both (L M : List Bs) (c : UInt8) : (pasteP [L, M] [c]).length = max L.length M.length ∧ ∀ i (h : i < (pasteP [L, M] [c]).length), (pasteP [L, M] [c])[i] = L.getD i [] ++ [c] ++ M.getD i [] := by
  have h : ∀ n, besideP [c] 0 (nth [L, M] n) = L.getD n [] ++ [c] ++ M.getD n [] := fun n => by
    simp [nth, besideP, sepAt, List.append_assoc]
  constructor
  · simp [pasteP, most]
  · intro i hi
    simp only [pasteP, List.getElem_map, List.getElem_range]
    exact h i
end Go.Proofs.YtoignkaldlohmaaDoor.Vw
