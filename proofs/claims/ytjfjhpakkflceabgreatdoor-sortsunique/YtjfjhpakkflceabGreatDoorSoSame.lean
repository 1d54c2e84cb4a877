/- SortsSame returns true, if Sort, Check and alive answer as they should. -/
import Derived.Test.YtjfjhpakkflceabGreatDoorSoFacts
import Derived.Test.YtjfjhpakkflceabGreatDoorSoFew
import Derived.Test.YtjfjhpakkflceabGreatDoorSoCount
import Derived.Test.YtjfjhpakkflceabGreatDoorSoSays
import Derived.Test.YtjfjhpakkflceabGreatDoorKyHeld
import Derived.Deep.RegionHeld3
namespace Go.Proofs.YtjfjhpakkflceabGreatDoor.So
open Go.RowKit Go.Shelf Ky
open Pa (Tx tot)

attribute [local go_sem] Oper.semAt_some

theorem tot_mem : ∀ {A : Ls} {s : ByteArray}, s ∈ A → s.size ≤ tot A
  | x :: l, s, h => by
    rcases List.mem_cons.1 h with rfl | h
    · simp [tot]
    · have := tot_mem h; simp [tot]; omega

end Go.Proofs.YtjfjhpakkflceabGreatDoor.So
