/- fill, grow and look of flags, as steps of their kind. -/
import Derived.Test.YtpfdjnnnemkoiaaGreatDoorBookKd
import Derived.Test.YtpfdjnnnemkoiaaGreatDoorBookLookF
namespace Go.Proofs.YtpfdjnnnemkoiaaGreatDoor.Bk
open Go.RowKit
/-- flags -/
abbrev kdF (u : Value) (k : Nat) (V : Nat → Value) (M N : Nat → Nat) (X : Nat → List Value) : Kd := ⟨70, 72, 2, fun m => [.int .u8 0, .string (wd m)], u, k, V, M, N, X⟩
theorem fillFlag_st (P k : Nat) (u : Value) (cur : List Value) (V : Nat → Value) (M N : Nat → Nat) (X : Nat → List Value) (w : World) (hB : Own w P cur) (h3 : cur[6]? = some u) (hd : (kdF u k V M N X).st 0 w) (ho : (kdF u k V M N X).ok) :
    Calls Tryz.prog 23 #[.pointer (some ⟨P, 0, none⟩)] w fun e w' => e = .returned (.tuple #[]) ∧ (kdF u k V M N X).st 1 w' ∧ Touch (kdF u k V M N X).bl w w' := by
  refine (fillFlag_any P k u cur V M N X w hB h3 hd.1 hd.2 ho.2.1 ho.2.2 ho.1).mono ?_
  rintro e w' ⟨rfl, h1, h2⟩
  exact ⟨rfl, ⟨h2.own hd.1 (fun b hb ⟨i, hi, e⟩ => own_ne (hd.2.own i hi) hd.1 (show (72 : Nat) ≠ 70 from by decide) b e hb), h1⟩, h2.mono (fun b _ h => .inl h)⟩
theorem growFlag_st (P k : Nat) (u : Value) (cur : List Value) (V : Nat → Value) (M N : Nat → Nat) (X : Nat → List Value) (w : World) (hB : Own w P cur) (h3 : cur[6]? = some u) (hd : (kdF u k V M N X).st 1 w) (ho : (kdF u k V M N X).ok) :
    Calls Tryz.prog 35 #[.pointer (some ⟨P, 0, none⟩)] w fun e w' => e = .returned (.tuple #[]) ∧ (kdF u k V M N X).st 2 w' ∧ Touch (kdF u k V M N X).bl w w' := by
  refine (growFlag_any P k u cur V M N w hB h3 hd.1 hd.2 ho.2.1 ho.2.2 ho.1).mono ?_
  rintro e w' ⟨rfl, ⟨G, h1, h2⟩, h3, h4⟩
  exact ⟨rfl, ⟨G, h1, h2, h3⟩, h4⟩
theorem lookFlag_st (P k : Nat) (u : Value) (cur : List Value) (V : Nat → Value) (M N : Nat → Nat) (X : Nat → List Value) (w : World) (hB : Own w P cur) (h3 : cur[6]? = some u) (hd : (kdF u k V M N X).st 2 w) (ho : (kdF u k V M N X).ok) :
    Calls Tryz.prog 47 #[.pointer (some ⟨P, 0, none⟩)] w fun e w' => e = .returned (.bool true) ∧ Touch (fun _ => False) w w' := by
  obtain ⟨G, h1, h2, h4⟩ := hd
  exact lookFlag_any P k u cur V G M N w hB h3 h1 h4 h2 ho.2.1 ho.2.2 ho.1
end Go.Proofs.YtpfdjnnnemkoiaaGreatDoor.Bk
