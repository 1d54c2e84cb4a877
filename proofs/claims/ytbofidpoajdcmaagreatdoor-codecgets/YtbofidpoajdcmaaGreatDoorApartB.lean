/- Apart of a Book that holds lists of these kinds alone: Byte. -/
import Derived.Test.YtbofidpoajdcmaaGreatDoorBookKdB
import Derived.Test.YtbofidpoajdcmaaGreatDoorBookNone
import Derived.Test.YtbofidpoajdcmaaGreatDoorApart
namespace Go.Proofs.YtbofidpoajdcmaaGreatDoor.Bk
open Go.RowKit

/-- what holds ahead of call number c of Apart -/
structure Aps (P : Nat) (cur : List Value) (dB : Kd) (w0 : World) (c : Nat) (w : World) : Prop where
  book : Own w P cur
  touch : Touch (fun b => dB.bl b) w0 w
  kB : dB.st (if c ≤ 0 then 0 else if c ≤ 12 then 1 else 2) w

set_option maxHeartbeats 1000000 in
theorem apart_ok (P : Nat) (cur : List Value) (uB : Value) (kB : Nat) (VB : Nat → Value) (MB NB : Nat → Nat) (XB : Nat → List Value) (w0 : World) (hB : Own w0 P cur)
    (cInt : cur[2]? = some (.slice none 0 0))
    (cText : cur[3]? = some (.slice none 0 0))
    (cBlob : cur[4]? = some (.slice none 0 0))
    (cRow : cur[5]? = some (.slice none 0 0))
    (cFlag : cur[6]? = some (.slice none 0 0))
    (cRange : cur[7]? = some (.slice none 0 0))
    (cChange : cur[8]? = some (.slice none 0 0))
    (cEntry : cur[9]? = some (.slice none 0 0))
    (cNode : cur[10]? = some (.slice none 0 0))
    (cCall : cur[11]? = some (.slice none 0 0))
    (cStep : cur[12]? = some (.slice none 0 0))
    (cByte : cur[1]? = some uB) (oB : (kdB uB kB VB MB NB XB).ok) (sB : (kdB uB kB VB MB NB XB).st 0 w0)
    : Calls Tryz.prog 15 #[.pointer (some ⟨P, 0, none⟩)] w0 fun e w' => e = .returned (.bool true) ∧ Touch (fun b => (kdB uB kB VB MB NB XB).bl b) w0 w' := by
  refine (apart_any P (fun c w => Aps P cur (kdB uB kB VB MB NB XB) w0 c w) w0 ⟨hB, Touch.refl _ _, sB⟩
    (fun w h => (fillByte_st P kB uB cur VB MB NB XB w h.book cByte h.kB oB).mono (fun e w' hr => ⟨hr.1, (Kd.bl_ty h.kB).own hr.2.2 h.book (by simp), h.touch.trans hr.2.2 (fun b _ hb => hb), hr.2.1⟩))
    (fun w h => (fillInt_none P w ((h.book.cellAt 2 (by decide)).trans cInt)).mono (fun e w' hr => ⟨hr.1, by rw [hr.2]; exact ⟨h.book, h.touch, h.kB⟩⟩))
    (fun w h => (fillText_none P w ((h.book.cellAt 3 (by decide)).trans cText)).mono (fun e w' hr => ⟨hr.1, by rw [hr.2]; exact ⟨h.book, h.touch, h.kB⟩⟩))
    (fun w h => (fillBlob_none P w ((h.book.cellAt 4 (by decide)).trans cBlob)).mono (fun e w' hr => ⟨hr.1, by rw [hr.2]; exact ⟨h.book, h.touch, h.kB⟩⟩))
    (fun w h => (fillRow_none P w ((h.book.cellAt 5 (by decide)).trans cRow)).mono (fun e w' hr => ⟨hr.1, by rw [hr.2]; exact ⟨h.book, h.touch, h.kB⟩⟩))
    (fun w h => (fillFlag_none P w ((h.book.cellAt 6 (by decide)).trans cFlag)).mono (fun e w' hr => ⟨hr.1, by rw [hr.2]; exact ⟨h.book, h.touch, h.kB⟩⟩))
    (fun w h => (fillRange_none P w ((h.book.cellAt 7 (by decide)).trans cRange)).mono (fun e w' hr => ⟨hr.1, by rw [hr.2]; exact ⟨h.book, h.touch, h.kB⟩⟩))
    (fun w h => (fillChange_none P w ((h.book.cellAt 8 (by decide)).trans cChange)).mono (fun e w' hr => ⟨hr.1, by rw [hr.2]; exact ⟨h.book, h.touch, h.kB⟩⟩))
    (fun w h => (fillEntry_none P w ((h.book.cellAt 9 (by decide)).trans cEntry)).mono (fun e w' hr => ⟨hr.1, by rw [hr.2]; exact ⟨h.book, h.touch, h.kB⟩⟩))
    (fun w h => (fillNode_none P w ((h.book.cellAt 10 (by decide)).trans cNode)).mono (fun e w' hr => ⟨hr.1, by rw [hr.2]; exact ⟨h.book, h.touch, h.kB⟩⟩))
    (fun w h => (fillCall_none P w ((h.book.cellAt 11 (by decide)).trans cCall)).mono (fun e w' hr => ⟨hr.1, by rw [hr.2]; exact ⟨h.book, h.touch, h.kB⟩⟩))
    (fun w h => (fillStep_none P w ((h.book.cellAt 12 (by decide)).trans cStep)).mono (fun e w' hr => ⟨hr.1, by rw [hr.2]; exact ⟨h.book, h.touch, h.kB⟩⟩))
    (fun w h => (growByte_st P kB uB cur VB MB NB XB w h.book cByte h.kB oB).mono (fun e w' hr => ⟨hr.1, (Kd.bl_ty h.kB).own hr.2.2 h.book (by simp), h.touch.trans hr.2.2 (fun b _ hb => hb), hr.2.1⟩))
    (fun w h => (growInt_none P w ((h.book.cellAt 2 (by decide)).trans cInt)).mono (fun e w' hr => ⟨hr.1, by rw [hr.2]; exact ⟨h.book, h.touch, h.kB⟩⟩))
    (fun w h => (growText_none P w ((h.book.cellAt 3 (by decide)).trans cText)).mono (fun e w' hr => ⟨hr.1, by rw [hr.2]; exact ⟨h.book, h.touch, h.kB⟩⟩))
    (fun w h => (growBlob_none P w ((h.book.cellAt 4 (by decide)).trans cBlob)).mono (fun e w' hr => ⟨hr.1, by rw [hr.2]; exact ⟨h.book, h.touch, h.kB⟩⟩))
    (fun w h => (growRow_none P w ((h.book.cellAt 5 (by decide)).trans cRow)).mono (fun e w' hr => ⟨hr.1, by rw [hr.2]; exact ⟨h.book, h.touch, h.kB⟩⟩))
    (fun w h => (growFlag_none P w ((h.book.cellAt 6 (by decide)).trans cFlag)).mono (fun e w' hr => ⟨hr.1, by rw [hr.2]; exact ⟨h.book, h.touch, h.kB⟩⟩))
    (fun w h => (growRange_none P w ((h.book.cellAt 7 (by decide)).trans cRange)).mono (fun e w' hr => ⟨hr.1, by rw [hr.2]; exact ⟨h.book, h.touch, h.kB⟩⟩))
    (fun w h => (growChange_none P w ((h.book.cellAt 8 (by decide)).trans cChange)).mono (fun e w' hr => ⟨hr.1, by rw [hr.2]; exact ⟨h.book, h.touch, h.kB⟩⟩))
    (fun w h => (growEntry_none P w ((h.book.cellAt 9 (by decide)).trans cEntry)).mono (fun e w' hr => ⟨hr.1, by rw [hr.2]; exact ⟨h.book, h.touch, h.kB⟩⟩))
    (fun w h => (growNode_none P w ((h.book.cellAt 10 (by decide)).trans cNode)).mono (fun e w' hr => ⟨hr.1, by rw [hr.2]; exact ⟨h.book, h.touch, h.kB⟩⟩))
    (fun w h => (growCall_none P w ((h.book.cellAt 11 (by decide)).trans cCall)).mono (fun e w' hr => ⟨hr.1, by rw [hr.2]; exact ⟨h.book, h.touch, h.kB⟩⟩))
    (fun w h => (growStep_none P w ((h.book.cellAt 12 (by decide)).trans cStep)).mono (fun e w' hr => ⟨hr.1, by rw [hr.2]; exact ⟨h.book, h.touch, h.kB⟩⟩))
    (fun w h => (lookByte_st P kB uB cur VB MB NB XB w h.book cByte h.kB oB).mono (fun e w' hr => ⟨hr.1, (Tys.none _).own hr.2 h.book (fun h => h), h.touch.trans hr.2 (fun b _ hb => hb.elim), Kd.keep (Tys.none _) hr.2 (fun h => h) (fun h => h) h.kB⟩))
    (fun w h => (lookInt_none P w ((h.book.cellAt 2 (by decide)).trans cInt)).mono (fun e w' hr => ⟨hr.1, by rw [hr.2]; exact ⟨h.book, h.touch, h.kB⟩⟩))
    (fun w h => (lookText_none P w ((h.book.cellAt 3 (by decide)).trans cText)).mono (fun e w' hr => ⟨hr.1, by rw [hr.2]; exact ⟨h.book, h.touch, h.kB⟩⟩))
    (fun w h => (lookBlob_none P w ((h.book.cellAt 4 (by decide)).trans cBlob)).mono (fun e w' hr => ⟨hr.1, by rw [hr.2]; exact ⟨h.book, h.touch, h.kB⟩⟩))
    (fun w h => (lookRow_none P w ((h.book.cellAt 5 (by decide)).trans cRow)).mono (fun e w' hr => ⟨hr.1, by rw [hr.2]; exact ⟨h.book, h.touch, h.kB⟩⟩))
    (fun w h => (lookFlag_none P w ((h.book.cellAt 6 (by decide)).trans cFlag)).mono (fun e w' hr => ⟨hr.1, by rw [hr.2]; exact ⟨h.book, h.touch, h.kB⟩⟩))
    (fun w h => (lookRange_none P w ((h.book.cellAt 7 (by decide)).trans cRange)).mono (fun e w' hr => ⟨hr.1, by rw [hr.2]; exact ⟨h.book, h.touch, h.kB⟩⟩))
    (fun w h => (lookChange_none P w ((h.book.cellAt 8 (by decide)).trans cChange)).mono (fun e w' hr => ⟨hr.1, by rw [hr.2]; exact ⟨h.book, h.touch, h.kB⟩⟩))
    (fun w h => (lookEntry_none P w ((h.book.cellAt 9 (by decide)).trans cEntry)).mono (fun e w' hr => ⟨hr.1, by rw [hr.2]; exact ⟨h.book, h.touch, h.kB⟩⟩))
    (fun w h => (lookNode_none P w ((h.book.cellAt 10 (by decide)).trans cNode)).mono (fun e w' hr => ⟨hr.1, by rw [hr.2]; exact ⟨h.book, h.touch, h.kB⟩⟩))
    (fun w h => (lookCall_none P w ((h.book.cellAt 11 (by decide)).trans cCall)).mono (fun e w' hr => ⟨hr.1, by rw [hr.2]; exact ⟨h.book, h.touch, h.kB⟩⟩))
    (fun w h => (lookStep_none P w ((h.book.cellAt 12 (by decide)).trans cStep)).mono (fun e w' hr => ⟨hr.1, by rw [hr.2]; exact ⟨h.book, h.touch, h.kB⟩⟩))).mono ?_
  rintro e w' ⟨rfl, h⟩
  exact ⟨rfl, h.touch⟩
end Go.Proofs.YtbofidpoajdcmaaGreatDoor.Bk
