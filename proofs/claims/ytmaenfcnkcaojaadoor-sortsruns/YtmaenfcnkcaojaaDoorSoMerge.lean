/- What the document's merged answers. -/
import Derived.Test.YtmaenfcnkcaojaaDoorSoRefA
import Derived.Test.YtmaenfcnkcaojaaDoorSoList
import Derived.Laws.AppendOwnNone
import Derived.Deep.RegionHeld3
namespace Go.Proofs.YtmaenfcnkcaojaaDoor.So
open Go.RowKit Go.Shelf Ky
open Pa (Tx)

attribute [local go_sem] Oper.semAt_some

/-- how far merging has come -/
def Mgd (c : ByteArray → ByteArray → Int) (A B : Ls) (i k : Nat) (O : Ls) : Prop := mrg c A B = O ++ mrg c (A.drop i) (B.drop k) ∧ O.length = i + k
theorem Mgd.left {c : ByteArray → ByteArray → Int} {A B : Ls} {i k : Nat} {O : Ls} (h : Mgd c A B i k O) (hi : i < A.length) (hk : k < B.length) (hc : ¬ c (B.getD k ByteArray.empty) (A.getD i ByteArray.empty) < 0) : Mgd c A B (i + 1) k (O ++ [A.getD i ByteArray.empty]) := by
  refine ⟨?_, by rw [List.length_append, h.2, List.length_singleton]; omega⟩
  rw [h.1, drop_at hi, drop_at hk, mrg_cons, if_neg hc]; simp
theorem Mgd.right {c : ByteArray → ByteArray → Int} {A B : Ls} {i k : Nat} {O : Ls} (h : Mgd c A B i k O) (hk : k < B.length) (hc : i < A.length → c (B.getD k ByteArray.empty) (A.getD i ByteArray.empty) < 0) : Mgd c A B i (k + 1) (O ++ [B.getD k ByteArray.empty]) := by
  refine ⟨?_, by rw [List.length_append, h.2, List.length_singleton]; omega⟩
  rw [h.1, drop_at hk]
  by_cases hi : i < A.length
  · rw [drop_at hi, mrg_cons, if_pos (hc hi)]; simp
  · rw [List.drop_eq_nil_of_le (by omega), mrg_nil, mrg_nil]; simp
theorem Mgd.done {c : ByteArray → ByteArray → Int} {A B : Ls} {i k : Nat} {O : Ls} (h : Mgd c A B i k O) (hk : B.length ≤ k) : mrg c A B = O ++ A.drop i := by
  rw [h.1, List.drop_eq_nil_of_le hk, mrg_nil']

end Go.Proofs.YtmaenfcnkcaojaaDoor.So
