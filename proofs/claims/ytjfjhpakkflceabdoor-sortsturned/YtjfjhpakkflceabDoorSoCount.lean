/- What count answers: how often a line stands among lines. -/
import Derived.Test.YtjfjhpakkflceabDoorSoList
import Derived.Test.YtjfjhpakkflceabDoorKyBase
import Derived.Deep.LoopGhost
namespace Go.Proofs.YtjfjhpakkflceabDoor.So
open Go.RowKit Go.Shelf Ky
open Pa (Tx)

attribute [local go_sem] Oper.semAt_some

/-- how often -/
def cnt (A : Ls) (s : ByteArray) : Nat := A.countP (fun y => decide (y = s))
theorem cnt_take (A : Ls) (s : ByteArray) (k : Nat) (h : k < A.length) : cnt (A.take (k + 1)) s = cnt (A.take k) s + (if A.getD k ByteArray.empty = s then 1 else 0) := by
  have e : A.take (k + 1) = A.take k ++ [A.getD k ByteArray.empty] := by
    rw [List.take_succ_eq_append_getElem h]; simp [List.getD, List.getElem?_eq_getElem h]
  unfold cnt
  rw [e, List.countP_append]
  simp [List.countP_cons]
theorem cnt_le (A : Ls) (s : ByteArray) : cnt A s ≤ A.length := List.countP_le_length

end Go.Proofs.YtjfjhpakkflceabDoor.So
