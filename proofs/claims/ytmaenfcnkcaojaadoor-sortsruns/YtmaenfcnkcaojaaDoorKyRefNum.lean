/- What the document's run, Of, bytes and Number answer. -/
import Derived.Test.YtmaenfcnkcaojaaDoorKyNum2
import Derived.Test.YtmaenfcnkcaojaaDoorKyRefParts
import Derived.Deep.DeepCutAuto
import Derived.Deep.CutBlock
namespace Go.Proofs.YtmaenfcnkcaojaaDoor.Ky
open Go.RowKit Go.Shelf

attribute [local go_sem] Oper.semAt_some

end Go.Proofs.YtmaenfcnkcaojaaDoor.Ky
