/- Apart of a Book that holds lists of these kinds alone: Byte Entry Node. -/
import Derived.Test.YtcpellddjlmegaaGreatDoorBookKdB
import Derived.Test.YtcpellddjlmegaaGreatDoorBookKdE
import Derived.Test.YtcpellddjlmegaaGreatDoorBookKdD
import Derived.Test.YtcpellddjlmegaaGreatDoorBookNone
import Derived.Test.YtcpellddjlmegaaGreatDoorApart
namespace Go.Proofs.YtcpellddjlmegaaGreatDoor.Bk
open Go.RowKit

/-- what holds ahead of call number c of Apart -/
structure Aps (P : Nat) (cur : List Value) (dB dE dD : Kd) (w0 : World) (c : Nat) (w : World) : Prop where
  book : Own w P cur
  touch : Touch (fun b => dB.bl b ∨ dE.bl b ∨ dD.bl b) w0 w
  kB : dB.st (if c ≤ 0 then 0 else if c ≤ 12 then 1 else 2) w
  kE : dE.st (if c ≤ 8 then 0 else if c ≤ 20 then 1 else 2) w
  kD : dD.st (if c ≤ 9 then 0 else if c ≤ 21 then 1 else 2) w

set_option maxHeartbeats 1000000 in
theorem apart_ok (P : Nat) (cur : List Value) (uB : Value) (kB : Nat) (VB : Nat → Value) (MB NB : Nat → Nat) (XB : Nat → List Value) (uE : Value) (kE : Nat) (VE : Nat → Value) (ME NE : Nat → Nat) (XE : Nat → List Value) (uD : Value) (kD : Nat) (VD : Nat → Value) (MD ND : Nat → Nat) (XD : Nat → List Value) (w0 : World) (hB : Own w0 P cur)
    (cInt : cur[2]? = some (.slice none 0 0))
    (cText : cur[3]? = some (.slice none 0 0))
    (cBlob : cur[4]? = some (.slice none 0 0))
    (cRow : cur[5]? = some (.slice none 0 0))
    (cFlag : cur[6]? = some (.slice none 0 0))
    (cRange : cur[7]? = some (.slice none 0 0))
    (cChange : cur[8]? = some (.slice none 0 0))
    (cCall : cur[11]? = some (.slice none 0 0))
    (cStep : cur[12]? = some (.slice none 0 0))
    (cByte : cur[1]? = some uB) (oB : (kdB uB kB VB MB NB XB).ok) (sB : (kdB uB kB VB MB NB XB).st 0 w0)
    (cEntry : cur[9]? = some uE) (oE : (kdE uE kE VE ME NE XE).ok) (sE : (kdE uE kE VE ME NE XE).st 0 w0)
    (cNode : cur[10]? = some uD) (oD : (kdD uD kD VD MD ND XD).ok) (sD : (kdD uD kD VD MD ND XD).st 0 w0)
    : Calls Tryz.prog 9 #[.pointer (some ⟨P, 0, none⟩)] w0 fun e w' => e = .returned (.bool true) ∧ Touch (fun b => (kdB uB kB VB MB NB XB).bl b ∨ (kdE uE kE VE ME NE XE).bl b ∨ (kdD uD kD VD MD ND XD).bl b) w0 w' := by
  refine (apart_any P (fun c w => Aps P cur (kdB uB kB VB MB NB XB) (kdE uE kE VE ME NE XE) (kdD uD kD VD MD ND XD) w0 c w) w0 ⟨hB, Touch.refl _ _, sB, sE, sD⟩
    (fun w h => (fillByte_st P kB uB cur VB MB NB XB w h.book cByte h.kB oB).mono (fun e w' hr => ⟨hr.1, (Kd.bl_ty h.kB).own hr.2.2 h.book (by simp), h.touch.trans hr.2.2 (fun b _ hb => .inl (hb)), hr.2.1, Kd.keep (Kd.bl_ty h.kB) hr.2.2 (by simp) (by simp) h.kE, Kd.keep (Kd.bl_ty h.kB) hr.2.2 (by simp) (by simp) h.kD⟩))
    (fun w h => (fillInt_none P w ((h.book.cellAt 2 (by decide)).trans cInt)).mono (fun e w' hr => ⟨hr.1, by rw [hr.2]; exact ⟨h.book, h.touch, h.kB, h.kE, h.kD⟩⟩))
    (fun w h => (fillText_none P w ((h.book.cellAt 3 (by decide)).trans cText)).mono (fun e w' hr => ⟨hr.1, by rw [hr.2]; exact ⟨h.book, h.touch, h.kB, h.kE, h.kD⟩⟩))
    (fun w h => (fillBlob_none P w ((h.book.cellAt 4 (by decide)).trans cBlob)).mono (fun e w' hr => ⟨hr.1, by rw [hr.2]; exact ⟨h.book, h.touch, h.kB, h.kE, h.kD⟩⟩))
    (fun w h => (fillRow_none P w ((h.book.cellAt 5 (by decide)).trans cRow)).mono (fun e w' hr => ⟨hr.1, by rw [hr.2]; exact ⟨h.book, h.touch, h.kB, h.kE, h.kD⟩⟩))
    (fun w h => (fillFlag_none P w ((h.book.cellAt 6 (by decide)).trans cFlag)).mono (fun e w' hr => ⟨hr.1, by rw [hr.2]; exact ⟨h.book, h.touch, h.kB, h.kE, h.kD⟩⟩))
    (fun w h => (fillRange_none P w ((h.book.cellAt 7 (by decide)).trans cRange)).mono (fun e w' hr => ⟨hr.1, by rw [hr.2]; exact ⟨h.book, h.touch, h.kB, h.kE, h.kD⟩⟩))
    (fun w h => (fillChange_none P w ((h.book.cellAt 8 (by decide)).trans cChange)).mono (fun e w' hr => ⟨hr.1, by rw [hr.2]; exact ⟨h.book, h.touch, h.kB, h.kE, h.kD⟩⟩))
    (fun w h => (fillEntry_st P kE uE cur VE ME NE XE w h.book cEntry h.kE oE).mono (fun e w' hr => ⟨hr.1, (Kd.bl_ty h.kE).own hr.2.2 h.book (by simp), h.touch.trans hr.2.2 (fun b _ hb => .inr (.inl (hb))), Kd.keep (Kd.bl_ty h.kE) hr.2.2 (by simp) (by simp) h.kB, hr.2.1, Kd.keep (Kd.bl_ty h.kE) hr.2.2 (by simp) (by simp) h.kD⟩))
    (fun w h => (fillNode_st P kD uD cur VD MD ND XD w h.book cNode h.kD oD).mono (fun e w' hr => ⟨hr.1, (Kd.bl_ty h.kD).own hr.2.2 h.book (by simp), h.touch.trans hr.2.2 (fun b _ hb => .inr (.inr (hb))), Kd.keep (Kd.bl_ty h.kD) hr.2.2 (by simp) (by simp) h.kB, Kd.keep (Kd.bl_ty h.kD) hr.2.2 (by simp) (by simp) h.kE, hr.2.1⟩))
    (fun w h => (fillCall_none P w ((h.book.cellAt 11 (by decide)).trans cCall)).mono (fun e w' hr => ⟨hr.1, by rw [hr.2]; exact ⟨h.book, h.touch, h.kB, h.kE, h.kD⟩⟩))
    (fun w h => (fillStep_none P w ((h.book.cellAt 12 (by decide)).trans cStep)).mono (fun e w' hr => ⟨hr.1, by rw [hr.2]; exact ⟨h.book, h.touch, h.kB, h.kE, h.kD⟩⟩))
    (fun w h => (growByte_st P kB uB cur VB MB NB XB w h.book cByte h.kB oB).mono (fun e w' hr => ⟨hr.1, (Kd.bl_ty h.kB).own hr.2.2 h.book (by simp), h.touch.trans hr.2.2 (fun b _ hb => .inl (hb)), hr.2.1, Kd.keep (Kd.bl_ty h.kB) hr.2.2 (by simp) (by simp) h.kE, Kd.keep (Kd.bl_ty h.kB) hr.2.2 (by simp) (by simp) h.kD⟩))
    (fun w h => (growInt_none P w ((h.book.cellAt 2 (by decide)).trans cInt)).mono (fun e w' hr => ⟨hr.1, by rw [hr.2]; exact ⟨h.book, h.touch, h.kB, h.kE, h.kD⟩⟩))
    (fun w h => (growText_none P w ((h.book.cellAt 3 (by decide)).trans cText)).mono (fun e w' hr => ⟨hr.1, by rw [hr.2]; exact ⟨h.book, h.touch, h.kB, h.kE, h.kD⟩⟩))
    (fun w h => (growBlob_none P w ((h.book.cellAt 4 (by decide)).trans cBlob)).mono (fun e w' hr => ⟨hr.1, by rw [hr.2]; exact ⟨h.book, h.touch, h.kB, h.kE, h.kD⟩⟩))
    (fun w h => (growRow_none P w ((h.book.cellAt 5 (by decide)).trans cRow)).mono (fun e w' hr => ⟨hr.1, by rw [hr.2]; exact ⟨h.book, h.touch, h.kB, h.kE, h.kD⟩⟩))
    (fun w h => (growFlag_none P w ((h.book.cellAt 6 (by decide)).trans cFlag)).mono (fun e w' hr => ⟨hr.1, by rw [hr.2]; exact ⟨h.book, h.touch, h.kB, h.kE, h.kD⟩⟩))
    (fun w h => (growRange_none P w ((h.book.cellAt 7 (by decide)).trans cRange)).mono (fun e w' hr => ⟨hr.1, by rw [hr.2]; exact ⟨h.book, h.touch, h.kB, h.kE, h.kD⟩⟩))
    (fun w h => (growChange_none P w ((h.book.cellAt 8 (by decide)).trans cChange)).mono (fun e w' hr => ⟨hr.1, by rw [hr.2]; exact ⟨h.book, h.touch, h.kB, h.kE, h.kD⟩⟩))
    (fun w h => (growEntry_st P kE uE cur VE ME NE XE w h.book cEntry h.kE oE).mono (fun e w' hr => ⟨hr.1, (Kd.bl_ty h.kE).own hr.2.2 h.book (by simp), h.touch.trans hr.2.2 (fun b _ hb => .inr (.inl (hb))), Kd.keep (Kd.bl_ty h.kE) hr.2.2 (by simp) (by simp) h.kB, hr.2.1, Kd.keep (Kd.bl_ty h.kE) hr.2.2 (by simp) (by simp) h.kD⟩))
    (fun w h => (growNode_st P kD uD cur VD MD ND XD w h.book cNode h.kD oD).mono (fun e w' hr => ⟨hr.1, (Kd.bl_ty h.kD).own hr.2.2 h.book (by simp), h.touch.trans hr.2.2 (fun b _ hb => .inr (.inr (hb))), Kd.keep (Kd.bl_ty h.kD) hr.2.2 (by simp) (by simp) h.kB, Kd.keep (Kd.bl_ty h.kD) hr.2.2 (by simp) (by simp) h.kE, hr.2.1⟩))
    (fun w h => (growCall_none P w ((h.book.cellAt 11 (by decide)).trans cCall)).mono (fun e w' hr => ⟨hr.1, by rw [hr.2]; exact ⟨h.book, h.touch, h.kB, h.kE, h.kD⟩⟩))
    (fun w h => (growStep_none P w ((h.book.cellAt 12 (by decide)).trans cStep)).mono (fun e w' hr => ⟨hr.1, by rw [hr.2]; exact ⟨h.book, h.touch, h.kB, h.kE, h.kD⟩⟩))
    (fun w h => (lookByte_st P kB uB cur VB MB NB XB w h.book cByte h.kB oB).mono (fun e w' hr => ⟨hr.1, (Tys.none _).own hr.2 h.book (fun h => h), h.touch.trans hr.2 (fun b _ hb => hb.elim), Kd.keep (Tys.none _) hr.2 (fun h => h) (fun h => h) h.kB, Kd.keep (Tys.none _) hr.2 (fun h => h) (fun h => h) h.kE, Kd.keep (Tys.none _) hr.2 (fun h => h) (fun h => h) h.kD⟩))
    (fun w h => (lookInt_none P w ((h.book.cellAt 2 (by decide)).trans cInt)).mono (fun e w' hr => ⟨hr.1, by rw [hr.2]; exact ⟨h.book, h.touch, h.kB, h.kE, h.kD⟩⟩))
    (fun w h => (lookText_none P w ((h.book.cellAt 3 (by decide)).trans cText)).mono (fun e w' hr => ⟨hr.1, by rw [hr.2]; exact ⟨h.book, h.touch, h.kB, h.kE, h.kD⟩⟩))
    (fun w h => (lookBlob_none P w ((h.book.cellAt 4 (by decide)).trans cBlob)).mono (fun e w' hr => ⟨hr.1, by rw [hr.2]; exact ⟨h.book, h.touch, h.kB, h.kE, h.kD⟩⟩))
    (fun w h => (lookRow_none P w ((h.book.cellAt 5 (by decide)).trans cRow)).mono (fun e w' hr => ⟨hr.1, by rw [hr.2]; exact ⟨h.book, h.touch, h.kB, h.kE, h.kD⟩⟩))
    (fun w h => (lookFlag_none P w ((h.book.cellAt 6 (by decide)).trans cFlag)).mono (fun e w' hr => ⟨hr.1, by rw [hr.2]; exact ⟨h.book, h.touch, h.kB, h.kE, h.kD⟩⟩))
    (fun w h => (lookRange_none P w ((h.book.cellAt 7 (by decide)).trans cRange)).mono (fun e w' hr => ⟨hr.1, by rw [hr.2]; exact ⟨h.book, h.touch, h.kB, h.kE, h.kD⟩⟩))
    (fun w h => (lookChange_none P w ((h.book.cellAt 8 (by decide)).trans cChange)).mono (fun e w' hr => ⟨hr.1, by rw [hr.2]; exact ⟨h.book, h.touch, h.kB, h.kE, h.kD⟩⟩))
    (fun w h => (lookEntry_st P kE uE cur VE ME NE XE w h.book cEntry h.kE oE).mono (fun e w' hr => ⟨hr.1, (Tys.none _).own hr.2 h.book (fun h => h), h.touch.trans hr.2 (fun b _ hb => hb.elim), Kd.keep (Tys.none _) hr.2 (fun h => h) (fun h => h) h.kB, Kd.keep (Tys.none _) hr.2 (fun h => h) (fun h => h) h.kE, Kd.keep (Tys.none _) hr.2 (fun h => h) (fun h => h) h.kD⟩))
    (fun w h => (lookNode_st P kD uD cur VD MD ND XD w h.book cNode h.kD oD).mono (fun e w' hr => ⟨hr.1, (Tys.none _).own hr.2 h.book (fun h => h), h.touch.trans hr.2 (fun b _ hb => hb.elim), Kd.keep (Tys.none _) hr.2 (fun h => h) (fun h => h) h.kB, Kd.keep (Tys.none _) hr.2 (fun h => h) (fun h => h) h.kE, Kd.keep (Tys.none _) hr.2 (fun h => h) (fun h => h) h.kD⟩))
    (fun w h => (lookCall_none P w ((h.book.cellAt 11 (by decide)).trans cCall)).mono (fun e w' hr => ⟨hr.1, by rw [hr.2]; exact ⟨h.book, h.touch, h.kB, h.kE, h.kD⟩⟩))
    (fun w h => (lookStep_none P w ((h.book.cellAt 12 (by decide)).trans cStep)).mono (fun e w' hr => ⟨hr.1, by rw [hr.2]; exact ⟨h.book, h.touch, h.kB, h.kE, h.kD⟩⟩))).mono ?_
  rintro e w' ⟨rfl, h⟩
  exact ⟨rfl, h.touch⟩
end Go.Proofs.YtcpellddjlmegaaGreatDoor.Bk
