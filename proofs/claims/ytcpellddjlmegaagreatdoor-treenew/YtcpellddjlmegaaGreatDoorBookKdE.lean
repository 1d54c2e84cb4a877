/- fill, grow and look of names, as steps of their kind. -/
import Derived.Test.YtcpellddjlmegaaGreatDoorBookKd
import Derived.Test.YtcpellddjlmegaaGreatDoorBookLookE
namespace Go.Proofs.YtcpellddjlmegaaGreatDoor.Bk
open Go.RowKit
/-- names -/
abbrev kdE (u : Value) (k : Nat) (V : Nat → Value) (M N : Nat → Nat) (X : Nat → List Value) : Kd := ⟨113, 72, 2, fun m => [.string (wd m), .int .i64 0], u, k, V, M, N, X⟩
theorem fillEntry_st (P k : Nat) (u : Value) (cur : List Value) (V : Nat → Value) (M N : Nat → Nat) (X : Nat → List Value) (w : World) (hB : Own w P cur) (h3 : cur[9]? = some u) (hd : (kdE u k V M N X).st 0 w) (ho : (kdE u k V M N X).ok) :
    Calls Tryz.prog 26 #[.pointer (some ⟨P, 0, none⟩)] w fun e w' => e = .returned (.tuple #[]) ∧ (kdE u k V M N X).st 1 w' ∧ Touch (kdE u k V M N X).bl w w' := by
  refine (fillEntry_any P k u cur V M N X w hB h3 hd.1 hd.2 ho.2.1 ho.2.2 ho.1).mono ?_
  rintro e w' ⟨rfl, h1, h2⟩
  exact ⟨rfl, ⟨h2.own hd.1 (fun b hb ⟨i, hi, e⟩ => own_ne (hd.2.own i hi) hd.1 (show (72 : Nat) ≠ 113 from by decide) b e hb), h1⟩, h2.mono (fun b _ h => .inl h)⟩
theorem growEntry_st (P k : Nat) (u : Value) (cur : List Value) (V : Nat → Value) (M N : Nat → Nat) (X : Nat → List Value) (w : World) (hB : Own w P cur) (h3 : cur[9]? = some u) (hd : (kdE u k V M N X).st 1 w) (ho : (kdE u k V M N X).ok) :
    Calls Tryz.prog 38 #[.pointer (some ⟨P, 0, none⟩)] w fun e w' => e = .returned (.tuple #[]) ∧ (kdE u k V M N X).st 2 w' ∧ Touch (kdE u k V M N X).bl w w' := by
  refine (growEntry_any P k u cur V M N w hB h3 hd.1 hd.2 ho.2.1 ho.2.2 ho.1).mono ?_
  rintro e w' ⟨rfl, ⟨G, h1, h2⟩, h3, h4⟩
  exact ⟨rfl, ⟨G, h1, h2, h3⟩, h4⟩
theorem lookEntry_st (P k : Nat) (u : Value) (cur : List Value) (V : Nat → Value) (M N : Nat → Nat) (X : Nat → List Value) (w : World) (hB : Own w P cur) (h3 : cur[9]? = some u) (hd : (kdE u k V M N X).st 2 w) (ho : (kdE u k V M N X).ok) :
    Calls Tryz.prog 50 #[.pointer (some ⟨P, 0, none⟩)] w fun e w' => e = .returned (.bool true) ∧ Touch (fun _ => False) w w' := by
  obtain ⟨G, h1, h2, h4⟩ := hd
  exact lookEntry_any P k u cur V G M N w hB h3 h1 h4 h2 ho.2.1 ho.2.2 ho.1
end Go.Proofs.YtcpellddjlmegaaGreatDoor.Bk
