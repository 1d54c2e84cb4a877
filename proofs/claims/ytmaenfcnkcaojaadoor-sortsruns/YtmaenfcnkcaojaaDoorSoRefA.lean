/- What the document's ahead and before answer. -/
import Derived.Test.YtmaenfcnkcaojaaDoorSoLines
import Derived.Test.YtmaenfcnkcaojaaDoorKyRefComp
namespace Go.Proofs.YtmaenfcnkcaojaaDoor.So
open Go.RowKit Go.Shelf Ky

attribute [local go_sem] Oper.semAt_some

end Go.Proofs.YtmaenfcnkcaojaaDoor.So
