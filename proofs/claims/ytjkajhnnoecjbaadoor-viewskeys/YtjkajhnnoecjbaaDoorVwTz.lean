/- The table by which the lowest bit is found, out of what the row lists. -/
import Derived.Test.YtjkajhnnoecjbaaDoorVwOct
import Derived.ProofKit
import Derived.OpenShut
import Derived.SizedLaws
import Derived.MakeChecks
import Derived.Lib.LaidTab
namespace Go.Proofs.YtjkajhnnoecjbaaDoor.Vw
open Go.ChangeShapes Go.WideShapes Go.ChangeAt Go.RowKit

theorem laid_mem {P : Program} {w : World} {n : String} {d : DataW Unit} : ∀ {l : List (String × DataW Unit)} {ps : List MemPlace}, DataW.LaidVars P w l ps → (n, d) ∈ l →
    ∃ g t cs fuel p, P.globalNamed n = some g ∧ (P.globals[g]?).map (·.type) = some t ∧ w.var? P n = some cs ∧ DataW.trod (fun _ => ()) P w 0 (fun _ => true) false fuel t cs.toList = some (d, p)
  | [], _, _, h => by simp at h
  | (n', d') :: r, ps, h, hm => by
    obtain ⟨g, t, cs, fuel, p, q, h1, h2, h3, h4, h5, _⟩ := h
    rcases List.mem_cons.1 hm with e | hm
    · cases e
      exact ⟨g, t, cs, fuel, p, h1, h2, h3, h4⟩
    · exact laid_mem h5 hm
theorem Tryd.tzType : ((Tryd.prog.globalNamed "math/bits.deBruijn64tab").bind fun g => (Tryd.prog.globals[g]?).map (·.type)) = some 213 := by kernel_rfl
theorem tz_of_laid {W : World} {l : List (String × DataW Unit)} (h : laidMetH Tryd.prog l W) (hp : (l.all fun x => x.2.handleName?.isNone) = true) (hm : ("math/bits.deBruijn64tab", Lib.tabData .u8 dbt) ∈ l) : Tz W := by
  rw [Go.MakeChecks.laidMetH_plain _ _ _ hp] at h
  obtain ⟨ps, h, _⟩ := h
  obtain ⟨g, t, cs, fuel, p, h1, h2, h3, h4⟩ := laid_mem h hm
  have ht := Tryd.tzType
  rw [h1, Option.bind_some, h2] at ht
  obtain rfl := Option.some.inj ht
  unfold Tz Lib.TabIs
  rw [h3, ← Lib.cells_of_tab Tryd.underlying213 Tryd.underlying5 (by kernel_rfl) (by kernel_rfl) h4]
end Go.Proofs.YtjkajhnnoecjbaaDoor.Vw
