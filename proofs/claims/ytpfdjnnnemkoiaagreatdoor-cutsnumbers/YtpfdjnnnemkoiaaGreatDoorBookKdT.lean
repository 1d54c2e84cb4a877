/- fill, grow and look of texts, as steps of their kind. -/
import Derived.Test.YtpfdjnnnemkoiaaGreatDoorBookKd
import Derived.Test.YtpfdjnnnemkoiaaGreatDoorBookLook
namespace Go.Proofs.YtpfdjnnnemkoiaaGreatDoor.Bk
open Go.RowKit
/-- texts -/
abbrev kdT (u : Value) (k : Nat) (V : Nat → Value) (M N : Nat → Nat) (X : Nat → List Value) : Kd := ⟨52, 9, 1, fun m => [.string (wd m)], u, k, V, M, N, X⟩
theorem fillText_st (P k : Nat) (u : Value) (cur : List Value) (V : Nat → Value) (M N : Nat → Nat) (X : Nat → List Value) (w : World) (hB : Own w P cur) (h3 : cur[3]? = some u) (hd : (kdT u k V M N X).st 0 w) (ho : (kdT u k V M N X).ok) :
    Calls Tryz.prog 20 #[.pointer (some ⟨P, 0, none⟩)] w fun e w' => e = .returned (.tuple #[]) ∧ (kdT u k V M N X).st 1 w' ∧ Touch (kdT u k V M N X).bl w w' := by
  refine (fillText_any P k u cur V M N X w hB h3 hd.1 hd.2 ho.2.1 ho.2.2 ho.1).mono ?_
  rintro e w' ⟨rfl, h1, h2⟩
  exact ⟨rfl, ⟨h2.own hd.1 (fun b hb ⟨i, hi, e⟩ => own_ne (hd.2.own i hi) hd.1 (show (9 : Nat) ≠ 52 from by decide) b e hb), h1⟩, h2.mono (fun b _ h => .inl h)⟩
theorem growText_st (P k : Nat) (u : Value) (cur : List Value) (V : Nat → Value) (M N : Nat → Nat) (X : Nat → List Value) (w : World) (hB : Own w P cur) (h3 : cur[3]? = some u) (hd : (kdT u k V M N X).st 1 w) (ho : (kdT u k V M N X).ok) :
    Calls Tryz.prog 32 #[.pointer (some ⟨P, 0, none⟩)] w fun e w' => e = .returned (.tuple #[]) ∧ (kdT u k V M N X).st 2 w' ∧ Touch (kdT u k V M N X).bl w w' := by
  refine (growText_any P k u cur V M N w hB h3 hd.1 hd.2 ho.2.1 ho.2.2 ho.1).mono ?_
  rintro e w' ⟨rfl, ⟨G, h1, h2⟩, h3, h4⟩
  exact ⟨rfl, ⟨G, h1, h2, h3⟩, h4⟩
theorem lookText_st (P k : Nat) (u : Value) (cur : List Value) (V : Nat → Value) (M N : Nat → Nat) (X : Nat → List Value) (w : World) (hB : Own w P cur) (h3 : cur[3]? = some u) (hd : (kdT u k V M N X).st 2 w) (ho : (kdT u k V M N X).ok) :
    Calls Tryz.prog 44 #[.pointer (some ⟨P, 0, none⟩)] w fun e w' => e = .returned (.bool true) ∧ Touch (fun _ => False) w w' := by
  obtain ⟨G, h1, h2, h4⟩ := hd
  exact lookText_any P k u cur V G M N w hB h3 h1 h4 h2 ho.2.1 ho.2.2 ho.1
end Go.Proofs.YtpfdjnnnemkoiaaGreatDoor.Bk
