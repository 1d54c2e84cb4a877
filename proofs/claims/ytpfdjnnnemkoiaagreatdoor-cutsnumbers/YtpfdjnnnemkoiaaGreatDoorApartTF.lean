/- Apart of a Book that holds lists of these kinds alone: Text Flag. -/
import Derived.Test.YtpfdjnnnemkoiaaGreatDoorBookKdT
import Derived.Test.YtpfdjnnnemkoiaaGreatDoorBookKdF
import Derived.Test.YtpfdjnnnemkoiaaGreatDoorBookNone
import Derived.Test.YtpfdjnnnemkoiaaGreatDoorApart
namespace Go.Proofs.YtpfdjnnnemkoiaaGreatDoor.Bk
open Go.RowKit

/-- what holds ahead of call number c of Apart -/
structure Aps (P : Nat) (cur : List Value) (dT dF : Kd) (w0 : World) (c : Nat) (w : World) : Prop where
  book : Own w P cur
  touch : Touch (fun b => dT.bl b ∨ dF.bl b) w0 w
  kT : dT.st (if c ≤ 2 then 0 else if c ≤ 14 then 1 else 2) w
  kF : dF.st (if c ≤ 5 then 0 else if c ≤ 17 then 1 else 2) w

set_option maxHeartbeats 1000000 in
theorem apart_ok (P : Nat) (cur : List Value) (uT : Value) (kT : Nat) (VT : Nat → Value) (MT NT : Nat → Nat) (XT : Nat → List Value) (uF : Value) (kF : Nat) (VF : Nat → Value) (MF NF : Nat → Nat) (XF : Nat → List Value) (w0 : World) (hB : Own w0 P cur)
    (cByte : cur[1]? = some (.slice none 0 0))
    (cInt : cur[2]? = some (.slice none 0 0))
    (cBlob : cur[4]? = some (.slice none 0 0))
    (cRow : cur[5]? = some (.slice none 0 0))
    (cRange : cur[7]? = some (.slice none 0 0))
    (cChange : cur[8]? = some (.slice none 0 0))
    (cEntry : cur[9]? = some (.slice none 0 0))
    (cNode : cur[10]? = some (.slice none 0 0))
    (cCall : cur[11]? = some (.slice none 0 0))
    (cStep : cur[12]? = some (.slice none 0 0))
    (cText : cur[3]? = some uT) (oT : (kdT uT kT VT MT NT XT).ok) (sT : (kdT uT kT VT MT NT XT).st 0 w0)
    (cFlag : cur[6]? = some uF) (oF : (kdF uF kF VF MF NF XF).ok) (sF : (kdF uF kF VF MF NF XF).st 0 w0)
    : Calls Tryz.prog 12 #[.pointer (some ⟨P, 0, none⟩)] w0 fun e w' => e = .returned (.bool true) ∧ Touch (fun b => (kdT uT kT VT MT NT XT).bl b ∨ (kdF uF kF VF MF NF XF).bl b) w0 w' := by
  refine (apart_any P (fun c w => Aps P cur (kdT uT kT VT MT NT XT) (kdF uF kF VF MF NF XF) w0 c w) w0 ⟨hB, Touch.refl _ _, sT, sF⟩
    (fun w h => (fillByte_none P w ((h.book.cellAt 1 (by decide)).trans cByte)).mono (fun e w' hr => ⟨hr.1, by rw [hr.2]; exact ⟨h.book, h.touch, h.kT, h.kF⟩⟩))
    (fun w h => (fillInt_none P w ((h.book.cellAt 2 (by decide)).trans cInt)).mono (fun e w' hr => ⟨hr.1, by rw [hr.2]; exact ⟨h.book, h.touch, h.kT, h.kF⟩⟩))
    (fun w h => (fillText_st P kT uT cur VT MT NT XT w h.book cText h.kT oT).mono (fun e w' hr => ⟨hr.1, (Kd.bl_ty h.kT).own hr.2.2 h.book (by simp), h.touch.trans hr.2.2 (fun b _ hb => .inl (hb)), hr.2.1, Kd.keep (Kd.bl_ty h.kT) hr.2.2 (by simp) (by simp) h.kF⟩))
    (fun w h => (fillBlob_none P w ((h.book.cellAt 4 (by decide)).trans cBlob)).mono (fun e w' hr => ⟨hr.1, by rw [hr.2]; exact ⟨h.book, h.touch, h.kT, h.kF⟩⟩))
    (fun w h => (fillRow_none P w ((h.book.cellAt 5 (by decide)).trans cRow)).mono (fun e w' hr => ⟨hr.1, by rw [hr.2]; exact ⟨h.book, h.touch, h.kT, h.kF⟩⟩))
    (fun w h => (fillFlag_st P kF uF cur VF MF NF XF w h.book cFlag h.kF oF).mono (fun e w' hr => ⟨hr.1, (Kd.bl_ty h.kF).own hr.2.2 h.book (by simp), h.touch.trans hr.2.2 (fun b _ hb => .inr (hb)), Kd.keep (Kd.bl_ty h.kF) hr.2.2 (by simp) (by simp) h.kT, hr.2.1⟩))
    (fun w h => (fillRange_none P w ((h.book.cellAt 7 (by decide)).trans cRange)).mono (fun e w' hr => ⟨hr.1, by rw [hr.2]; exact ⟨h.book, h.touch, h.kT, h.kF⟩⟩))
    (fun w h => (fillChange_none P w ((h.book.cellAt 8 (by decide)).trans cChange)).mono (fun e w' hr => ⟨hr.1, by rw [hr.2]; exact ⟨h.book, h.touch, h.kT, h.kF⟩⟩))
    (fun w h => (fillEntry_none P w ((h.book.cellAt 9 (by decide)).trans cEntry)).mono (fun e w' hr => ⟨hr.1, by rw [hr.2]; exact ⟨h.book, h.touch, h.kT, h.kF⟩⟩))
    (fun w h => (fillNode_none P w ((h.book.cellAt 10 (by decide)).trans cNode)).mono (fun e w' hr => ⟨hr.1, by rw [hr.2]; exact ⟨h.book, h.touch, h.kT, h.kF⟩⟩))
    (fun w h => (fillCall_none P w ((h.book.cellAt 11 (by decide)).trans cCall)).mono (fun e w' hr => ⟨hr.1, by rw [hr.2]; exact ⟨h.book, h.touch, h.kT, h.kF⟩⟩))
    (fun w h => (fillStep_none P w ((h.book.cellAt 12 (by decide)).trans cStep)).mono (fun e w' hr => ⟨hr.1, by rw [hr.2]; exact ⟨h.book, h.touch, h.kT, h.kF⟩⟩))
    (fun w h => (growByte_none P w ((h.book.cellAt 1 (by decide)).trans cByte)).mono (fun e w' hr => ⟨hr.1, by rw [hr.2]; exact ⟨h.book, h.touch, h.kT, h.kF⟩⟩))
    (fun w h => (growInt_none P w ((h.book.cellAt 2 (by decide)).trans cInt)).mono (fun e w' hr => ⟨hr.1, by rw [hr.2]; exact ⟨h.book, h.touch, h.kT, h.kF⟩⟩))
    (fun w h => (growText_st P kT uT cur VT MT NT XT w h.book cText h.kT oT).mono (fun e w' hr => ⟨hr.1, (Kd.bl_ty h.kT).own hr.2.2 h.book (by simp), h.touch.trans hr.2.2 (fun b _ hb => .inl (hb)), hr.2.1, Kd.keep (Kd.bl_ty h.kT) hr.2.2 (by simp) (by simp) h.kF⟩))
    (fun w h => (growBlob_none P w ((h.book.cellAt 4 (by decide)).trans cBlob)).mono (fun e w' hr => ⟨hr.1, by rw [hr.2]; exact ⟨h.book, h.touch, h.kT, h.kF⟩⟩))
    (fun w h => (growRow_none P w ((h.book.cellAt 5 (by decide)).trans cRow)).mono (fun e w' hr => ⟨hr.1, by rw [hr.2]; exact ⟨h.book, h.touch, h.kT, h.kF⟩⟩))
    (fun w h => (growFlag_st P kF uF cur VF MF NF XF w h.book cFlag h.kF oF).mono (fun e w' hr => ⟨hr.1, (Kd.bl_ty h.kF).own hr.2.2 h.book (by simp), h.touch.trans hr.2.2 (fun b _ hb => .inr (hb)), Kd.keep (Kd.bl_ty h.kF) hr.2.2 (by simp) (by simp) h.kT, hr.2.1⟩))
    (fun w h => (growRange_none P w ((h.book.cellAt 7 (by decide)).trans cRange)).mono (fun e w' hr => ⟨hr.1, by rw [hr.2]; exact ⟨h.book, h.touch, h.kT, h.kF⟩⟩))
    (fun w h => (growChange_none P w ((h.book.cellAt 8 (by decide)).trans cChange)).mono (fun e w' hr => ⟨hr.1, by rw [hr.2]; exact ⟨h.book, h.touch, h.kT, h.kF⟩⟩))
    (fun w h => (growEntry_none P w ((h.book.cellAt 9 (by decide)).trans cEntry)).mono (fun e w' hr => ⟨hr.1, by rw [hr.2]; exact ⟨h.book, h.touch, h.kT, h.kF⟩⟩))
    (fun w h => (growNode_none P w ((h.book.cellAt 10 (by decide)).trans cNode)).mono (fun e w' hr => ⟨hr.1, by rw [hr.2]; exact ⟨h.book, h.touch, h.kT, h.kF⟩⟩))
    (fun w h => (growCall_none P w ((h.book.cellAt 11 (by decide)).trans cCall)).mono (fun e w' hr => ⟨hr.1, by rw [hr.2]; exact ⟨h.book, h.touch, h.kT, h.kF⟩⟩))
    (fun w h => (growStep_none P w ((h.book.cellAt 12 (by decide)).trans cStep)).mono (fun e w' hr => ⟨hr.1, by rw [hr.2]; exact ⟨h.book, h.touch, h.kT, h.kF⟩⟩))
    (fun w h => (lookByte_none P w ((h.book.cellAt 1 (by decide)).trans cByte)).mono (fun e w' hr => ⟨hr.1, by rw [hr.2]; exact ⟨h.book, h.touch, h.kT, h.kF⟩⟩))
    (fun w h => (lookInt_none P w ((h.book.cellAt 2 (by decide)).trans cInt)).mono (fun e w' hr => ⟨hr.1, by rw [hr.2]; exact ⟨h.book, h.touch, h.kT, h.kF⟩⟩))
    (fun w h => (lookText_st P kT uT cur VT MT NT XT w h.book cText h.kT oT).mono (fun e w' hr => ⟨hr.1, (Tys.none _).own hr.2 h.book (fun h => h), h.touch.trans hr.2 (fun b _ hb => hb.elim), Kd.keep (Tys.none _) hr.2 (fun h => h) (fun h => h) h.kT, Kd.keep (Tys.none _) hr.2 (fun h => h) (fun h => h) h.kF⟩))
    (fun w h => (lookBlob_none P w ((h.book.cellAt 4 (by decide)).trans cBlob)).mono (fun e w' hr => ⟨hr.1, by rw [hr.2]; exact ⟨h.book, h.touch, h.kT, h.kF⟩⟩))
    (fun w h => (lookRow_none P w ((h.book.cellAt 5 (by decide)).trans cRow)).mono (fun e w' hr => ⟨hr.1, by rw [hr.2]; exact ⟨h.book, h.touch, h.kT, h.kF⟩⟩))
    (fun w h => (lookFlag_st P kF uF cur VF MF NF XF w h.book cFlag h.kF oF).mono (fun e w' hr => ⟨hr.1, (Tys.none _).own hr.2 h.book (fun h => h), h.touch.trans hr.2 (fun b _ hb => hb.elim), Kd.keep (Tys.none _) hr.2 (fun h => h) (fun h => h) h.kT, Kd.keep (Tys.none _) hr.2 (fun h => h) (fun h => h) h.kF⟩))
    (fun w h => (lookRange_none P w ((h.book.cellAt 7 (by decide)).trans cRange)).mono (fun e w' hr => ⟨hr.1, by rw [hr.2]; exact ⟨h.book, h.touch, h.kT, h.kF⟩⟩))
    (fun w h => (lookChange_none P w ((h.book.cellAt 8 (by decide)).trans cChange)).mono (fun e w' hr => ⟨hr.1, by rw [hr.2]; exact ⟨h.book, h.touch, h.kT, h.kF⟩⟩))
    (fun w h => (lookEntry_none P w ((h.book.cellAt 9 (by decide)).trans cEntry)).mono (fun e w' hr => ⟨hr.1, by rw [hr.2]; exact ⟨h.book, h.touch, h.kT, h.kF⟩⟩))
    (fun w h => (lookNode_none P w ((h.book.cellAt 10 (by decide)).trans cNode)).mono (fun e w' hr => ⟨hr.1, by rw [hr.2]; exact ⟨h.book, h.touch, h.kT, h.kF⟩⟩))
    (fun w h => (lookCall_none P w ((h.book.cellAt 11 (by decide)).trans cCall)).mono (fun e w' hr => ⟨hr.1, by rw [hr.2]; exact ⟨h.book, h.touch, h.kT, h.kF⟩⟩))
    (fun w h => (lookStep_none P w ((h.book.cellAt 12 (by decide)).trans cStep)).mono (fun e w' hr => ⟨hr.1, by rw [hr.2]; exact ⟨h.book, h.touch, h.kT, h.kF⟩⟩))).mono ?_
  rintro e w' ⟨rfl, h⟩
  exact ⟨rfl, h.touch⟩
end Go.Proofs.YtpfdjnnnemkoiaaGreatDoor.Bk
