/- Lists of texts of one's own. -/
import Derived.Test.YtpfdjnnnemkoiaaGreatDoorCuBase
import Derived.RangeFuncBox
namespace Go.Proofs.YtpfdjnnnemkoiaaGreatDoor.Ls
open Go.RowKit
theorem own_below {w w' : World} {base : Nat} {e : TypeId} {size : Nat} {v : Value} {n : Nat} {xs : List Value} (h : w.ownsRow base e size v n xs) (hb : Below w.heap.size w w') : w'.ownsRow base e size v n xs :=
  h.kept (row := none) ⟨hb.os, hb.tape, hb.output, hb.size, fun k hk _ => hb.block k hk⟩ (by cases v.ownBlock <;> simp)
end Go.Proofs.YtpfdjnnnemkoiaaGreatDoor.Ls
namespace Go.Proofs.YtpfdjnnnemkoiaaGreatDoor.Cu
open Go.RowKit
def bt (l : Bs) : ByteArray := ⟨l.toArray⟩
theorem Tryz.infoStr : (Tryz.prog.info? 9).map (fun i => (i.zero, i.size, i.bytes)) = some (some (.string ByteArray.empty), 1, 16) := by kernel_rfl
def cellsS (pre : List Bs) : List Value := pre.map fun q => .string (bt q)
theorem cellsS_snoc (pre : List Bs) (x : Bs) : cellsS (pre ++ [x]) = cellsS pre ++ [.string (bt x)] := by simp [cellsS]
abbrev RowS (B : Nat) (v : Value) (xs : List Bs) (w : World) : Prop := w.ownsRow B 9 1 v xs.length (cellsS xs)
end Go.Proofs.YtpfdjnnnemkoiaaGreatDoor.Cu
