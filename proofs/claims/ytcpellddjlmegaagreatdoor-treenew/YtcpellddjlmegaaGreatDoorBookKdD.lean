/- fill, grow and look of nodes, as steps of their kind. -/
import Derived.Test.YtcpellddjlmegaaGreatDoorBookKd
import Derived.Test.YtcpellddjlmegaaGreatDoorBookLookD
namespace Go.Proofs.YtcpellddjlmegaaGreatDoor.Bk
open Go.RowKit
/-- nodes -/
abbrev kdD (u : Value) (k : Nat) (V : Nat → Value) (M N : Nat → Nat) (X : Nat → List Value) : Kd := ⟨116, 51, 10, fun m => [.int .u8 0, .int .i64 (rmD m), .int .i64 0, .int .i64 0, .int .i64 0, .int .i64 0, .slice none 0 0, .string ⟨#[]⟩, .slice none 0 0, .int .i64 0], u, k, V, M, N, X⟩
theorem fillNode_st (P k : Nat) (u : Value) (cur : List Value) (V : Nat → Value) (M N : Nat → Nat) (X : Nat → List Value) (w : World) (hB : Own w P cur) (h3 : cur[10]? = some u) (hd : (kdD u k V M N X).st 0 w) (ho : (kdD u k V M N X).ok) :
    Calls Tryz.prog 27 #[.pointer (some ⟨P, 0, none⟩)] w fun e w' => e = .returned (.tuple #[]) ∧ (kdD u k V M N X).st 1 w' ∧ Touch (kdD u k V M N X).bl w w' := by
  refine (fillNode_any P k u cur V M N X w hB h3 hd.1 hd.2 ho.2.1 ho.2.2 ho.1).mono ?_
  rintro e w' ⟨rfl, h1, h2⟩
  exact ⟨rfl, ⟨h2.own hd.1 (fun b hb ⟨i, hi, e⟩ => own_ne (hd.2.own i hi) hd.1 (show (51 : Nat) ≠ 116 from by decide) b e hb), h1⟩, h2.mono (fun b _ h => .inl h)⟩
theorem growNode_st (P k : Nat) (u : Value) (cur : List Value) (V : Nat → Value) (M N : Nat → Nat) (X : Nat → List Value) (w : World) (hB : Own w P cur) (h3 : cur[10]? = some u) (hd : (kdD u k V M N X).st 1 w) (ho : (kdD u k V M N X).ok) :
    Calls Tryz.prog 39 #[.pointer (some ⟨P, 0, none⟩)] w fun e w' => e = .returned (.tuple #[]) ∧ (kdD u k V M N X).st 2 w' ∧ Touch (kdD u k V M N X).bl w w' := by
  refine (growNode_any P k u cur V M N w hB h3 hd.1 hd.2 ho.2.1 ho.2.2 ho.1).mono ?_
  rintro e w' ⟨rfl, ⟨G, h1, h2⟩, h3, h4⟩
  exact ⟨rfl, ⟨G, h1, h2, h3⟩, h4⟩
theorem lookNode_st (P k : Nat) (u : Value) (cur : List Value) (V : Nat → Value) (M N : Nat → Nat) (X : Nat → List Value) (w : World) (hB : Own w P cur) (h3 : cur[10]? = some u) (hd : (kdD u k V M N X).st 2 w) (ho : (kdD u k V M N X).ok) :
    Calls Tryz.prog 51 #[.pointer (some ⟨P, 0, none⟩)] w fun e w' => e = .returned (.bool true) ∧ Touch (fun _ => False) w w' := by
  obtain ⟨G, h1, h2, h4⟩ := hd
  exact lookNode_any P k u cur V G M N w hB h3 h1 h4 h2 ho.2.1 ho.2.2 ho.1
end Go.Proofs.YtcpellddjlmegaaGreatDoor.Bk
