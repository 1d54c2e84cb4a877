/- What Sort, Check and alive of the program answer: as the walks of the outright statements ask. -/
import Derived.Test.YtjfjhpakkflceabDoorSoAl
import Derived.Test.YtjfjhpakkflceabDoorSoSays
namespace Go.Proofs.YtjfjhpakkflceabDoor.So
open Go.RowKit Ky

theorem alive_says : AliveSays := alive_anyS
theorem sort_says : SortSays := fun o u A a la ca w hT hl _ hs => sort_any o u A a la ca w hT hl hs
theorem check_says : CheckSays := fun o u A a la ca w hT hl hs => check_anyS o u A a la ca w hT hl hs
end Go.Proofs.YtjfjhpakkflceabDoor.So
