/- Apart of a Book that holds lists of these kinds alone: Range. -/
import Derived.Test.YtijoemamnkhhnaaGreatDoorBookKdG
import Derived.Test.YtijoemamnkhhnaaGreatDoorBookNone
import Derived.Test.YtijoemamnkhhnaaGreatDoorApart
namespace Go.Proofs.YtijoemamnkhhnaaGreatDoor.Bk
open Go.RowKit

/-- what holds ahead of call number c of Apart -/
structure Aps (P : Nat) (cur : List Value) (dG : Kd) (w0 : World) (c : Nat) (w : World) : Prop where
  book : Own w P cur
  touch : Touch (fun b => dG.bl b) w0 w
  kG : dG.st (if c ≤ 6 then 0 else if c ≤ 18 then 1 else 2) w

set_option maxHeartbeats 1000000 in
theorem apart_ok (P : Nat) (cur : List Value) (uG : Value) (kG : Nat) (VG : Nat → Value) (MG NG : Nat → Nat) (XG : Nat → List Value) (w0 : World) (hB : Own w0 P cur)
    (cByte : cur[1]? = some (.slice none 0 0))
    (cInt : cur[2]? = some (.slice none 0 0))
    (cText : cur[3]? = some (.slice none 0 0))
    (cBlob : cur[4]? = some (.slice none 0 0))
    (cRow : cur[5]? = some (.slice none 0 0))
    (cFlag : cur[6]? = some (.slice none 0 0))
    (cChange : cur[8]? = some (.slice none 0 0))
    (cEntry : cur[9]? = some (.slice none 0 0))
    (cNode : cur[10]? = some (.slice none 0 0))
    (cCall : cur[11]? = some (.slice none 0 0))
    (cStep : cur[12]? = some (.slice none 0 0))
    (cRange : cur[7]? = some uG) (oG : (kdG uG kG VG MG NG XG).ok) (sG : (kdG uG kG VG MG NG XG).st 0 w0)
    : Calls Tryz.prog 9 #[.pointer (some ⟨P, 0, none⟩)] w0 fun e w' => e = .returned (.bool true) ∧ Touch (fun b => (kdG uG kG VG MG NG XG).bl b) w0 w' := by
  refine (apart_any P (fun c w => Aps P cur (kdG uG kG VG MG NG XG) w0 c w) w0 ⟨hB, Touch.refl _ _, sG⟩
    (fun w h => (fillByte_none P w ((h.book.cellAt 1 (by decide)).trans cByte)).mono (fun e w' hr => ⟨hr.1, by rw [hr.2]; exact ⟨h.book, h.touch, h.kG⟩⟩))
    (fun w h => (fillInt_none P w ((h.book.cellAt 2 (by decide)).trans cInt)).mono (fun e w' hr => ⟨hr.1, by rw [hr.2]; exact ⟨h.book, h.touch, h.kG⟩⟩))
    (fun w h => (fillText_none P w ((h.book.cellAt 3 (by decide)).trans cText)).mono (fun e w' hr => ⟨hr.1, by rw [hr.2]; exact ⟨h.book, h.touch, h.kG⟩⟩))
    (fun w h => (fillBlob_none P w ((h.book.cellAt 4 (by decide)).trans cBlob)).mono (fun e w' hr => ⟨hr.1, by rw [hr.2]; exact ⟨h.book, h.touch, h.kG⟩⟩))
    (fun w h => (fillRow_none P w ((h.book.cellAt 5 (by decide)).trans cRow)).mono (fun e w' hr => ⟨hr.1, by rw [hr.2]; exact ⟨h.book, h.touch, h.kG⟩⟩))
    (fun w h => (fillFlag_none P w ((h.book.cellAt 6 (by decide)).trans cFlag)).mono (fun e w' hr => ⟨hr.1, by rw [hr.2]; exact ⟨h.book, h.touch, h.kG⟩⟩))
    (fun w h => (fillRange_st P kG uG cur VG MG NG XG w h.book cRange h.kG oG).mono (fun e w' hr => ⟨hr.1, (Kd.bl_ty h.kG).own hr.2.2 h.book (by simp), h.touch.trans hr.2.2 (fun b _ hb => hb), hr.2.1⟩))
    (fun w h => (fillChange_none P w ((h.book.cellAt 8 (by decide)).trans cChange)).mono (fun e w' hr => ⟨hr.1, by rw [hr.2]; exact ⟨h.book, h.touch, h.kG⟩⟩))
    (fun w h => (fillEntry_none P w ((h.book.cellAt 9 (by decide)).trans cEntry)).mono (fun e w' hr => ⟨hr.1, by rw [hr.2]; exact ⟨h.book, h.touch, h.kG⟩⟩))
    (fun w h => (fillNode_none P w ((h.book.cellAt 10 (by decide)).trans cNode)).mono (fun e w' hr => ⟨hr.1, by rw [hr.2]; exact ⟨h.book, h.touch, h.kG⟩⟩))
    (fun w h => (fillCall_none P w ((h.book.cellAt 11 (by decide)).trans cCall)).mono (fun e w' hr => ⟨hr.1, by rw [hr.2]; exact ⟨h.book, h.touch, h.kG⟩⟩))
    (fun w h => (fillStep_none P w ((h.book.cellAt 12 (by decide)).trans cStep)).mono (fun e w' hr => ⟨hr.1, by rw [hr.2]; exact ⟨h.book, h.touch, h.kG⟩⟩))
    (fun w h => (growByte_none P w ((h.book.cellAt 1 (by decide)).trans cByte)).mono (fun e w' hr => ⟨hr.1, by rw [hr.2]; exact ⟨h.book, h.touch, h.kG⟩⟩))
    (fun w h => (growInt_none P w ((h.book.cellAt 2 (by decide)).trans cInt)).mono (fun e w' hr => ⟨hr.1, by rw [hr.2]; exact ⟨h.book, h.touch, h.kG⟩⟩))
    (fun w h => (growText_none P w ((h.book.cellAt 3 (by decide)).trans cText)).mono (fun e w' hr => ⟨hr.1, by rw [hr.2]; exact ⟨h.book, h.touch, h.kG⟩⟩))
    (fun w h => (growBlob_none P w ((h.book.cellAt 4 (by decide)).trans cBlob)).mono (fun e w' hr => ⟨hr.1, by rw [hr.2]; exact ⟨h.book, h.touch, h.kG⟩⟩))
    (fun w h => (growRow_none P w ((h.book.cellAt 5 (by decide)).trans cRow)).mono (fun e w' hr => ⟨hr.1, by rw [hr.2]; exact ⟨h.book, h.touch, h.kG⟩⟩))
    (fun w h => (growFlag_none P w ((h.book.cellAt 6 (by decide)).trans cFlag)).mono (fun e w' hr => ⟨hr.1, by rw [hr.2]; exact ⟨h.book, h.touch, h.kG⟩⟩))
    (fun w h => (growRange_st P kG uG cur VG MG NG XG w h.book cRange h.kG oG).mono (fun e w' hr => ⟨hr.1, (Kd.bl_ty h.kG).own hr.2.2 h.book (by simp), h.touch.trans hr.2.2 (fun b _ hb => hb), hr.2.1⟩))
    (fun w h => (growChange_none P w ((h.book.cellAt 8 (by decide)).trans cChange)).mono (fun e w' hr => ⟨hr.1, by rw [hr.2]; exact ⟨h.book, h.touch, h.kG⟩⟩))
    (fun w h => (growEntry_none P w ((h.book.cellAt 9 (by decide)).trans cEntry)).mono (fun e w' hr => ⟨hr.1, by rw [hr.2]; exact ⟨h.book, h.touch, h.kG⟩⟩))
    (fun w h => (growNode_none P w ((h.book.cellAt 10 (by decide)).trans cNode)).mono (fun e w' hr => ⟨hr.1, by rw [hr.2]; exact ⟨h.book, h.touch, h.kG⟩⟩))
    (fun w h => (growCall_none P w ((h.book.cellAt 11 (by decide)).trans cCall)).mono (fun e w' hr => ⟨hr.1, by rw [hr.2]; exact ⟨h.book, h.touch, h.kG⟩⟩))
    (fun w h => (growStep_none P w ((h.book.cellAt 12 (by decide)).trans cStep)).mono (fun e w' hr => ⟨hr.1, by rw [hr.2]; exact ⟨h.book, h.touch, h.kG⟩⟩))
    (fun w h => (lookByte_none P w ((h.book.cellAt 1 (by decide)).trans cByte)).mono (fun e w' hr => ⟨hr.1, by rw [hr.2]; exact ⟨h.book, h.touch, h.kG⟩⟩))
    (fun w h => (lookInt_none P w ((h.book.cellAt 2 (by decide)).trans cInt)).mono (fun e w' hr => ⟨hr.1, by rw [hr.2]; exact ⟨h.book, h.touch, h.kG⟩⟩))
    (fun w h => (lookText_none P w ((h.book.cellAt 3 (by decide)).trans cText)).mono (fun e w' hr => ⟨hr.1, by rw [hr.2]; exact ⟨h.book, h.touch, h.kG⟩⟩))
    (fun w h => (lookBlob_none P w ((h.book.cellAt 4 (by decide)).trans cBlob)).mono (fun e w' hr => ⟨hr.1, by rw [hr.2]; exact ⟨h.book, h.touch, h.kG⟩⟩))
    (fun w h => (lookRow_none P w ((h.book.cellAt 5 (by decide)).trans cRow)).mono (fun e w' hr => ⟨hr.1, by rw [hr.2]; exact ⟨h.book, h.touch, h.kG⟩⟩))
    (fun w h => (lookFlag_none P w ((h.book.cellAt 6 (by decide)).trans cFlag)).mono (fun e w' hr => ⟨hr.1, by rw [hr.2]; exact ⟨h.book, h.touch, h.kG⟩⟩))
    (fun w h => (lookRange_st P kG uG cur VG MG NG XG w h.book cRange h.kG oG).mono (fun e w' hr => ⟨hr.1, (Tys.none _).own hr.2 h.book (fun h => h), h.touch.trans hr.2 (fun b _ hb => hb.elim), Kd.keep (Tys.none _) hr.2 (fun h => h) (fun h => h) h.kG⟩))
    (fun w h => (lookChange_none P w ((h.book.cellAt 8 (by decide)).trans cChange)).mono (fun e w' hr => ⟨hr.1, by rw [hr.2]; exact ⟨h.book, h.touch, h.kG⟩⟩))
    (fun w h => (lookEntry_none P w ((h.book.cellAt 9 (by decide)).trans cEntry)).mono (fun e w' hr => ⟨hr.1, by rw [hr.2]; exact ⟨h.book, h.touch, h.kG⟩⟩))
    (fun w h => (lookNode_none P w ((h.book.cellAt 10 (by decide)).trans cNode)).mono (fun e w' hr => ⟨hr.1, by rw [hr.2]; exact ⟨h.book, h.touch, h.kG⟩⟩))
    (fun w h => (lookCall_none P w ((h.book.cellAt 11 (by decide)).trans cCall)).mono (fun e w' hr => ⟨hr.1, by rw [hr.2]; exact ⟨h.book, h.touch, h.kG⟩⟩))
    (fun w h => (lookStep_none P w ((h.book.cellAt 12 (by decide)).trans cStep)).mono (fun e w' hr => ⟨hr.1, by rw [hr.2]; exact ⟨h.book, h.touch, h.kG⟩⟩))).mono ?_
  rintro e w' ⟨rfl, h⟩
  exact ⟨rfl, h.touch⟩
end Go.Proofs.YtijoemamnkhhnaaGreatDoor.Bk
