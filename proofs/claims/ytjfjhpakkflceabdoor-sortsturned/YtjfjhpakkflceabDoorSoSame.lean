/- SortsSame returns true, if Sort, Check and alive answer as they should. -/
import Derived.Test.YtjfjhpakkflceabDoorSoFacts
import Derived.Test.YtjfjhpakkflceabDoorSoFew
import Derived.Test.YtjfjhpakkflceabDoorSoCount
import Derived.Test.YtjfjhpakkflceabDoorSoSays
import Derived.Test.YtjfjhpakkflceabDoorKyHeld
import Derived.Deep.RegionHeld3
namespace Go.Proofs.YtjfjhpakkflceabDoor.So
open Go.RowKit Go.Shelf Ky
open Pa (Tx tot)

attribute [local go_sem] Oper.semAt_some

theorem tot_mem : ∀ {A : Ls} {s : ByteArray}, s ∈ A → s.size ≤ tot A
  | x :: l, s, h => by
    rcases List.mem_cons.1 h with rfl | h
    · simp [tot]
    · have := tot_mem h; simp [tot]; omega

end Go.Proofs.YtjfjhpakkflceabDoor.So
