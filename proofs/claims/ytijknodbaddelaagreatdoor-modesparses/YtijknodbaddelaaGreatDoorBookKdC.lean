/- fill, grow and look of changes, as steps of their kind. -/
import Derived.Test.YtijknodbaddelaaGreatDoorBookKd
import Derived.Test.YtijknodbaddelaaGreatDoorBookLookC
namespace Go.Proofs.YtijknodbaddelaaGreatDoor.Bk
open Go.RowKit
/-- changes -/
abbrev kdC (u : Value) (k : Nat) (V : Nat → Value) (M N : Nat → Nat) (X : Nat → List Value) : Kd := ⟨66, 54, 5, fun m => [.int .i64 0, .int .u8 0, .int .i64 (rm m), .int .u8 0, .bool false], u, k, V, M, N, X⟩
theorem fillChange_st (P k : Nat) (u : Value) (cur : List Value) (V : Nat → Value) (M N : Nat → Nat) (X : Nat → List Value) (w : World) (hB : Own w P cur) (h3 : cur[8]? = some u) (hd : (kdC u k V M N X).st 0 w) (ho : (kdC u k V M N X).ok) :
    Calls Tryz.prog 24 #[.pointer (some ⟨P, 0, none⟩)] w fun e w' => e = .returned (.tuple #[]) ∧ (kdC u k V M N X).st 1 w' ∧ Touch (kdC u k V M N X).bl w w' := by
  refine (fillChange_any P k u cur V M N X w hB h3 hd.1 hd.2 ho.2.1 ho.2.2 ho.1).mono ?_
  rintro e w' ⟨rfl, h1, h2⟩
  exact ⟨rfl, ⟨h2.own hd.1 (fun b hb ⟨i, hi, e⟩ => own_ne (hd.2.own i hi) hd.1 (show (54 : Nat) ≠ 66 from by decide) b e hb), h1⟩, h2.mono (fun b _ h => .inl h)⟩
theorem growChange_st (P k : Nat) (u : Value) (cur : List Value) (V : Nat → Value) (M N : Nat → Nat) (X : Nat → List Value) (w : World) (hB : Own w P cur) (h3 : cur[8]? = some u) (hd : (kdC u k V M N X).st 1 w) (ho : (kdC u k V M N X).ok) :
    Calls Tryz.prog 36 #[.pointer (some ⟨P, 0, none⟩)] w fun e w' => e = .returned (.tuple #[]) ∧ (kdC u k V M N X).st 2 w' ∧ Touch (kdC u k V M N X).bl w w' := by
  refine (growChange_any P k u cur V M N w hB h3 hd.1 hd.2 ho.2.1 ho.2.2 ho.1).mono ?_
  rintro e w' ⟨rfl, ⟨G, h1, h2⟩, h3, h4⟩
  exact ⟨rfl, ⟨G, h1, h2, h3⟩, h4⟩
theorem lookChange_st (P k : Nat) (u : Value) (cur : List Value) (V : Nat → Value) (M N : Nat → Nat) (X : Nat → List Value) (w : World) (hB : Own w P cur) (h3 : cur[8]? = some u) (hd : (kdC u k V M N X).st 2 w) (ho : (kdC u k V M N X).ok) :
    Calls Tryz.prog 48 #[.pointer (some ⟨P, 0, none⟩)] w fun e w' => e = .returned (.bool true) ∧ Touch (fun _ => False) w w' := by
  obtain ⟨G, h1, h2, h4⟩ := hd
  exact lookChange_any P k u cur V G M N w hB h3 h1 h4 h2 ho.2.1 ho.2.2 ho.1
end Go.Proofs.YtijknodbaddelaaGreatDoor.Bk
