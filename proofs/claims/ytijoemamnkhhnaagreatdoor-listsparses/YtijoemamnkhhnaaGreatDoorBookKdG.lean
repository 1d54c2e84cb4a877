/- fill, grow and look of ranges, as steps of their kind. -/
import Derived.Test.YtijoemamnkhhnaaGreatDoorBookKd
import Derived.Test.YtijoemamnkhhnaaGreatDoorBookLookG
namespace Go.Proofs.YtijoemamnkhhnaaGreatDoor.Bk
open Go.RowKit
/-- ranges -/
abbrev kdG (u : Value) (k : Nat) (V : Nat → Value) (M N : Nat → Nat) (X : Nat → List Value) : Kd := ⟨60, 53, 2, fun m => [.int .i64 (rm m), .int .i64 0], u, k, V, M, N, X⟩
theorem fillRange_st (P k : Nat) (u : Value) (cur : List Value) (V : Nat → Value) (M N : Nat → Nat) (X : Nat → List Value) (w : World) (hB : Own w P cur) (h3 : cur[7]? = some u) (hd : (kdG u k V M N X).st 0 w) (ho : (kdG u k V M N X).ok) :
    Calls Tryz.prog 21 #[.pointer (some ⟨P, 0, none⟩)] w fun e w' => e = .returned (.tuple #[]) ∧ (kdG u k V M N X).st 1 w' ∧ Touch (kdG u k V M N X).bl w w' := by
  refine (fillRange_any P k u cur V M N X w hB h3 hd.1 hd.2 ho.2.1 ho.2.2 ho.1).mono ?_
  rintro e w' ⟨rfl, h1, h2⟩
  exact ⟨rfl, ⟨h2.own hd.1 (fun b hb ⟨i, hi, e⟩ => own_ne (hd.2.own i hi) hd.1 (show (53 : Nat) ≠ 60 from by decide) b e hb), h1⟩, h2.mono (fun b _ h => .inl h)⟩
theorem growRange_st (P k : Nat) (u : Value) (cur : List Value) (V : Nat → Value) (M N : Nat → Nat) (X : Nat → List Value) (w : World) (hB : Own w P cur) (h3 : cur[7]? = some u) (hd : (kdG u k V M N X).st 1 w) (ho : (kdG u k V M N X).ok) :
    Calls Tryz.prog 33 #[.pointer (some ⟨P, 0, none⟩)] w fun e w' => e = .returned (.tuple #[]) ∧ (kdG u k V M N X).st 2 w' ∧ Touch (kdG u k V M N X).bl w w' := by
  refine (growRange_any P k u cur V M N w hB h3 hd.1 hd.2 ho.2.1 ho.2.2 ho.1).mono ?_
  rintro e w' ⟨rfl, ⟨G, h1, h2⟩, h3, h4⟩
  exact ⟨rfl, ⟨G, h1, h2, h3⟩, h4⟩
theorem lookRange_st (P k : Nat) (u : Value) (cur : List Value) (V : Nat → Value) (M N : Nat → Nat) (X : Nat → List Value) (w : World) (hB : Own w P cur) (h3 : cur[7]? = some u) (hd : (kdG u k V M N X).st 2 w) (ho : (kdG u k V M N X).ok) :
    Calls Tryz.prog 45 #[.pointer (some ⟨P, 0, none⟩)] w fun e w' => e = .returned (.bool true) ∧ Touch (fun _ => False) w w' := by
  obtain ⟨G, h1, h2, h4⟩ := hd
  exact lookRange_any P k u cur V G M N w hB h3 h1 h4 h2 ho.2.1 ho.2.2 ho.1
end Go.Proofs.YtijoemamnkhhnaaGreatDoor.Bk
