/- fill, grow and look of bytes, as steps of their kind. -/
import Derived.Test.YtbofidpoajdcmaaGreatDoorBookKd
import Derived.Test.YtbofidpoajdcmaaGreatDoorBookLookB
namespace Go.Proofs.YtbofidpoajdcmaaGreatDoor.Bk
open Go.RowKit
/-- bytes -/
abbrev kdB (u : Value) (k : Nat) (V : Nat → Value) (M N : Nat → Nat) (X : Nat → List Value) : Kd := ⟨114, 5, 1, fun m => [.int .u8 (bm m)], u, k, V, M, N, X⟩
theorem fillByte_st (P k : Nat) (u : Value) (cur : List Value) (V : Nat → Value) (M N : Nat → Nat) (X : Nat → List Value) (w : World) (hB : Own w P cur) (h3 : cur[1]? = some u) (hd : (kdB u k V M N X).st 0 w) (ho : (kdB u k V M N X).ok) :
    Calls Tryz.prog 41 #[.pointer (some ⟨P, 0, none⟩)] w fun e w' => e = .returned (.tuple #[]) ∧ (kdB u k V M N X).st 1 w' ∧ Touch (kdB u k V M N X).bl w w' := by
  refine (fillByte_any P k u cur V M N X w hB h3 hd.1 hd.2 ho.2.1 ho.2.2 ho.1).mono ?_
  rintro e w' ⟨rfl, h1, h2⟩
  exact ⟨rfl, ⟨h2.own hd.1 (fun b hb ⟨i, hi, e⟩ => own_ne (hd.2.own i hi) hd.1 (show (5 : Nat) ≠ 114 from by decide) b e hb), h1⟩, h2.mono (fun b _ h => .inl h)⟩
theorem growByte_st (P k : Nat) (u : Value) (cur : List Value) (V : Nat → Value) (M N : Nat → Nat) (X : Nat → List Value) (w : World) (hB : Own w P cur) (h3 : cur[1]? = some u) (hd : (kdB u k V M N X).st 1 w) (ho : (kdB u k V M N X).ok) :
    Calls Tryz.prog 53 #[.pointer (some ⟨P, 0, none⟩)] w fun e w' => e = .returned (.tuple #[]) ∧ (kdB u k V M N X).st 2 w' ∧ Touch (kdB u k V M N X).bl w w' := by
  refine (growByte_any P k u cur V M N w hB h3 hd.1 hd.2 ho.2.1 ho.2.2 ho.1).mono ?_
  rintro e w' ⟨rfl, ⟨G, h1, h2⟩, h3, h4⟩
  exact ⟨rfl, ⟨G, h1, h2, h3⟩, h4⟩
theorem lookByte_st (P k : Nat) (u : Value) (cur : List Value) (V : Nat → Value) (M N : Nat → Nat) (X : Nat → List Value) (w : World) (hB : Own w P cur) (h3 : cur[1]? = some u) (hd : (kdB u k V M N X).st 2 w) (ho : (kdB u k V M N X).ok) :
    Calls Tryz.prog 65 #[.pointer (some ⟨P, 0, none⟩)] w fun e w' => e = .returned (.bool true) ∧ Touch (fun _ => False) w w' := by
  obtain ⟨G, h1, h2, h4⟩ := hd
  exact lookByte_any P k u cur V G M N w hB h3 h1 h4 h2 ho.2.1 ho.2.2 ho.1
end Go.Proofs.YtbofidpoajdcmaaGreatDoor.Bk
