/- slices.Insert at texts: its contracts, laid over this translation. -/
import Derived.Test.YtjkajhnnoecjbaaDoorRows
import Derived.Shelf.Spec.SlicesInsertGrow
namespace Go.Proofs
open Go.Shelf
def Tryd.iren : Go.Shelf.Ren := ⟨fun | 22 => 108 | 29 => 124 | 17 => 150 | 30 => 125 | 36 => 135 | n => n, fun | 24 => 25 | 9 => 9 | 3 => 3 | 4 => 4 | 0 => 0 | n => n, fun | n => n⟩
theorem Tryd.ilays : Go.Proofs.Lays2.n22 Tryd.prog Tryd.iren := {
  mixed := by kernel_rfl
  f17 := Tryd.func150.trans (congrArg some (by kernel_rfl))
  f22 := Tryd.func108.trans (congrArg some (by kernel_rfl))
  f29 := Tryd.func124.trans (congrArg some (by kernel_rfl))
  f30 := Tryd.func125.trans (congrArg some (by kernel_rfl))
  f36 := Tryd.func135.trans (congrArg some (by kernel_rfl))
  t0 := Tryd.underlying0
  a0 := Tryd.isAgg0
  z0 := Tryd.sizeOf0
  v0 := Tryd.zeroValue0
  t3 := Tryd.underlying3
  a3 := Tryd.isAgg3
  z3 := Tryd.sizeOf3
  v3 := Tryd.zeroValue3
  t4 := Tryd.underlying4
  a4 := Tryd.isAgg4
  z4 := Tryd.sizeOf4
  v4 := Tryd.zeroValue4
  t9 := Tryd.underlying9
  a9 := Tryd.isAgg9
  z9 := Tryd.sizeOf9
  v9 := Tryd.zeroValue9
  t24 := Tryd.underlying25
  a24 := Tryd.isAgg25
  z24 := Tryd.sizeOf25
  v24 := Tryd.zeroValue25
  i9 := by kernel_rfl }
end Go.Proofs
