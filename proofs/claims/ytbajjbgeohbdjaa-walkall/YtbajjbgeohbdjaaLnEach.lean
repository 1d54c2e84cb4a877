/- The iterator of a text's parts: what it gives, to whatever loop. -/
import Derived.Test.YtbajjbgeohbdjaaRows
import Derived.Test.YtbajjbgeohbdjaaRng
import Derived.Test.YtbajjbgeohbdjaaLnPlain
import Derived.Shelf.Abstract
import Derived.WalkKit
import Derived.OwnWalkIn
import Derived.TacticsInMore
import Derived.LoopNIn
import Derived.LoopIn
import Derived.BigQuiet
namespace Go.Proofs.Ytbajjbgeohbdjaa.Ln
open Go.RowKit Go.Shelf

attribute [local go_sem] Oper.semAt_some

theorem hide {p : Prop} (h : p) : Hid p := h
theorem unhide {p : Prop} (h : Hid p) : p := h.out

def bt (l : List UInt8) : ByteArray := ⟨l.toArray⟩
/-- a part, as the iterator hands it on -/
def enc (q : List UInt8 × Bool) : Array Value := #[.string (bt q.1), .bool q.2]

theorem bt_extract (s : ByteArray) (i j : Nat) : s.extract i j = bt ((s.data.toList.drop i).take (j - i)) := by
  apply ByteArray.ext
  simp [bt, ByteArray.data_extract]
  apply Array.ext'
  simp [List.extract_eq_take_drop]

theorem grown_drewN (w : World) (q : Nat) (row : Option Nat) : w.grownBy (w.drewN q) row := ⟨rfl, rfl, rfl, Nat.le_refl _, fun _ _ _ => rfl⟩
/-- what the iterator reads: the text, and the function that says which bytes count -/
def Rd (bs bp : Nat) (s : ByteArray) (gk : Nat) (lbk : Array Value) (W : World) : Prop :=
  W.cell? ⟨bs, 0, none⟩ = some (.string s) ∧ W.cell? ⟨bp, 0, none⟩ = some (.func (.func gk) #[] lbk)

theorem parts_go {p : UInt8 → Bool} {l : List UInt8} {pre : List (List UInt8 × Bool)} {from' i : Nat} (h : parts p l = pre ++ parts p (l.drop from')) (hfi : from' ≤ i) (hil : i < l.length) (hcl : ∀ c ∈ (l.drop from').take (i - from'), p c = false) (hp : p l[i] = true) :
    parts p l = (pre ++ [((l.drop from').take (i - from'), true)]) ++ parts p (l.drop (i + 1)) := by
  have e : l.drop from' = (l.drop from').take (i - from') ++ l[i] :: l.drop (i + 1) := by
    have h1 := (List.take_append_drop (i - from') (l.drop from')).symm
    rwa [List.drop_drop, show from' + (i - from') = i by omega, List.drop_eq_getElem_cons hil] at h1
  rw [h, e, parts_hit _ _ _ hcl hp]
  rw [← e]
  simp
theorem take_more {p : UInt8 → Bool} {l : List UInt8} {from' i : Nat} (hfi : from' ≤ i) (hil : i < l.length) (hcl : ∀ c ∈ (l.drop from').take (i - from'), p c = false) (hp : p l[i] = false) : ∀ c ∈ (l.drop from').take (i + 1 - from'), p c = false := by
  intro c hc
  rw [show i + 1 - from' = (i - from') + 1 by omega, List.take_add_one] at hc
  rcases List.mem_append.1 hc with hc | hc
  · exact hcl c hc
  · rw [List.getElem?_drop, show from' + (i - from') = i by omega, List.getElem?_eq_getElem hil] at hc
    simp at hc
    subst hc
    exact hp

end Go.Proofs.Ytbajjbgeohbdjaa.Ln
