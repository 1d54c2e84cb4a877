/- A region that draws its order, walked once, in a class of worlds that the prover names: no program is named here. -/
import Derived.Test.YtcpellddjlmegaaGreatDoorBookPlain
import Derived.BigQuiet
namespace Go.Proofs.YtcpellddjlmegaaGreatDoor.Bk
open Go.RowKit

/-- a world of the class T -/
structure CW (T : World → Prop) where
  W : World
  ok : T W
theorem wp_region_calm {P : Program} {id : Nat} {Q : Exit → Act → World → Prop} {a : Act} {w : World} {l : List Oper} (T : World → Prop) (hm : P.follows .mixedOrders = true) (hB : Region.lexB .any l.toArray = true)
    (h0 : T w.drew) (h : wpQuiet P l.toArray (fun w' => ∃ v : CW T, w' = v.W) (fun a' => ∀ w', (∃ v : CW T, w' = v.W) → Q .normal a' w') l a) : (Code.region id l.toArray true).wp P Q a w :=
  wp_region_quiet (C := fun w' => ∃ v : CW T, w' = v.W) hm hB ⟨⟨_, h0⟩, rfl⟩ (by simpa using h)
theorem calm_of {P : Program} {f : FuncId} {args : Array Value} {T : World → Prop} {v : CW T} {x : Value} (h : Calls P f args v.W fun e w' => e = .returned x ∧ T w') :
    Calls P f args v.W fun e w'' => e = .returned x ∧ ∃ v' : CW T, w'' = v'.W := h.mono fun _ w' ⟨he, ht⟩ => ⟨he, ⟨w', ht⟩, rfl⟩
end Go.Proofs.YtcpellddjlmegaaGreatDoor.Bk
