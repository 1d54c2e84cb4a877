/- The law ViewsSums's walk. -/
import Derived.Test.YtoignkaldlohmaaDoorVwSum
import Derived.Test.YtoignkaldlohmaaDoorVwRefDump
import Derived.Test.YtoignkaldlohmaaDoorBeyond
set_option linter.unusedVariables false
namespace Go.Proofs.YtoignkaldlohmaaDoor.Vw
open Go.RowKit Go.Shelf Cu

set_option maxRecDepth 100000 in
set_option maxHeartbeats 1000000 in
theorem viewsSums_any (s : ByteArray) (w : World) (hs : s.size ≤ 4611686018427387904) (hT : Tz w) :
    Calls Tryd.prog 4 #[.string s] w fun e w' => e = .returned (.bool true) ∧ Below w.heap.size w w' := by
  go_enter Tryd.func4, Tryd.ntmps4
  go_wp2_with fail
  refine (Beyond.beyond_one (s.size : Int) w.heap.size _ (by simp) (by omega) (by omega)).mono ?_
  rintro e w' ⟨rfl, rfl⟩
  have B0 : Hid (Below w.heap.size w (w.alloc (.cells #[.int .i64 s.size] 3))) := (Below.refl _ _).alloc (Nat.le_refl _) _
  generalize w.alloc (.cells #[.int .i64 s.size] 3) = w0 at *
  by_cases hb : 1048576 < (s.size : Int)
  · go_wp2_with fail
    go_ret
    exact ⟨rfl, unhide B0⟩
  · have H1 := hide (fun W => sum_any s W (by omega))
    have H2 := hide (fun W => rsum_any s W (by omega))
    have H3 : Hid (∀ W, Below w.heap.size w W → Calls Tryd.prog 19 #[.string s] W fun e w' => e = .returned (.string (bt (dumpP (bs s)))) ∧ Below W.heap.size W w') := fun W hW => dump_any s W (by omega) (hT.below hW)
    have H4 := hide (fun W => rdump_any s W (by omega))
    unfold uv at H1 H2
    generalize sumP (bs s) = x at *
    generalize bt (dumpP (bs s)) = y at *
    go_wp2_with fail
    refine (unhide H1 _).mono ?_
    rintro e w1 ⟨rfl, b1⟩
    have B1 := hide ((unhide B0).trans (b1.mono (unhide B0).size))
    clear b1 B0
    go_wp2_with fail
    refine (unhide H2 _).mono ?_
    rintro e w1 ⟨rfl, rfl⟩
    go_wp2_with fail
    refine (unhide H3 _ (unhide B1)).mono ?_
    rintro e w2 ⟨rfl, b2⟩
    have B2 := hide ((unhide B1).trans (b2.mono (unhide B1).size))
    clear b2 B1
    go_wp2_with fail
    refine (unhide H4 _).mono ?_
    rintro e w3 ⟨rfl, b3⟩
    have B3 := hide ((unhide B2).trans (b3.mono (unhide B2).size))
    clear b3 B2
    go_wp2_with fail
    go_ret
    exact ⟨rfl, unhide B3⟩
end Go.Proofs.YtoignkaldlohmaaDoor.Vw
