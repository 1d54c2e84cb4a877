/- What Split answers. -/
import Derived.Test.YtbajjbgeohbdjaaLnEach
import Derived.Maps.AppendAt
namespace Go.Proofs.Ytbajjbgeohbdjaa.Ln
open Go.RowKit Go.Shelf

attribute [local go_sem] Oper.semAt_some

theorem Try.infoStr : (Try.prog.info? 9).map (fun i => (i.zero, i.size, i.bytes)) = some (some (.string ByteArray.empty), 1, 16) := by kernel_rfl

section boxes
variable {W w1 : World} {N : Nat} {e : TypeId} {size k m : Nat} {v v' : Value} {xs ys : List Value} {tmp : Obj}
/-- an append to a row that lies at N or above leaves a box below N -/
theorem app_box {B : Nat} {t : TypeId} {u : Value} (hB : Boxed W B t u) (hlt : B < N) (hrow : W.ownsRow N e size v k xs) (hgrow : (W.alloc tmp).grownBy w1 v.ownBlock) : Boxed w1 B t u :=
  (hB.alloc tmp).kept hgrow (fun e => by have := hrow.lt _ e.symm; omega)
theorem app_stays {B : Nat} (hN : N ≤ W.heap.size) (hrow : W.ownsRow N e size v k xs) (hgrow : (W.alloc tmp).grownBy w1 v.ownBlock) : Rng.Stays B N W w1 :=
  (Rng.Stays.alloc W tmp hN).trans (Rng.Stays.grown hgrow (by simp; omega) (fun k ek => .inr (hrow.lt _ ek).1))
theorem app_below {w : World} {n₀ : Nat} (hB : Below n₀ w W) (hn : n₀ ≤ N) (hs : n₀ ≤ w.heap.size) (hrow : W.ownsRow N e size v k xs) (hgrow : (W.alloc tmp).grownBy w1 v.ownBlock) : Below n₀ w w1 :=
  (hB.alloc (Nat.le_trans hs hB.size) tmp).grown hgrow (by have := hB.size; simp; omega) (fun j ej => by have := hrow.lt _ ej; omega)
theorem own_set {B : Nat} {u : Value} (h : W.ownsRow N e size v k xs) (hlt : B < N) : (W.setCell ⟨B, 0, none⟩ u).ownsRow N e size v k xs :=
  h.kept (grownBy_setCell' W B u) (by
    rcases h.2 with ⟨rfl, _⟩ | ⟨g, cap, cur, rfl, hb, _, _⟩
    · exact .inl rfl
    · exact .inr (fun e' => by simp [Value.ownBlock] at e'; omega))
theorem own_base' {N' : Nat} (h : W.ownsRow N e size v k xs) (hle : N' ≤ N) : W.ownsRow N' e size v k xs := by
  refine ⟨h.1, ?_⟩
  rcases h.2 with h2 | ⟨g, cap, cur, h2, hb, h3⟩
  · exact .inl h2
  · exact .inr ⟨g, cap, cur, h2, Nat.le_trans hle hb, h3⟩
end boxes

def lastB (pre : List (List UInt8 × Bool)) : Bool := (pre.getLast?.map (·.2)).getD false
theorem lastB_snoc (pre : List (List UInt8 × Bool)) (x : List UInt8 × Bool) : lastB (pre ++ [x]) = x.2 := by simp [lastB]
def strs (pre : List (List UInt8 × Bool)) : List Value := pre.map fun q => .string (bt q.1)
theorem strs_snoc (pre : List (List UInt8 × Bool)) (x : List UInt8 × Bool) : strs (pre ++ [x]) = strs pre ++ [.string (bt x.1)] := by simp [strs]

end Go.Proofs.Ytbajjbgeohbdjaa.Ln
