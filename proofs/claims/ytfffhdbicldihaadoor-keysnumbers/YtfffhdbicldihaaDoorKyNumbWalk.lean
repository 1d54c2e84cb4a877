/- KeysNumbers returns true, whatever the two texts. -/
import Derived.Test.YtfffhdbicldihaaDoorKyRefNumb
import Derived.Test.YtfffhdbicldihaaDoorBeyond2
namespace Go.Proofs.YtfffhdbicldihaaDoor.Ky
open Go.RowKit Go.Shelf

attribute [local go_sem] Oper.semAt_some

set_option maxRecDepth 100000 in
set_option maxHeartbeats 400000 in
theorem keysNumbers_any (a b : ByteArray) (w : World) (ha : a.size ≤ 140737488351232) (hb : b.size ≤ 140737488351232) :
    Calls Tryd.prog 4 #[.string a, .string b] w fun e w' => e = .returned (.bool true) ∧ Below w.heap.size w w' := by
  have hB0 : Hid (Below w.heap.size w (w.alloc (.cells #[.int .i64 (a.size : Int), .int .i64 (b.size : Int)] 3))) := (Below.refl _ _).alloc (Nat.le_refl _) _
  go_enter Tryd.func4, Tryd.ntmps4
  go_wp2_with fail
  refine (Pa.beyond_two (a.size : Int) (b.size : Int) w.heap.size _ (by simp) (by simp) (by omega) (by omega) (by omega) (by omega)).mono ?_
  rintro e w1 ⟨rfl, hw1⟩
  rw [hw1]
  clear hw1
  by_cases hbig : (1048576 : Int) < (a.size : Int) + (b.size : Int)
  · go_wp2_with fail
    go_ret
    exact ⟨rfl, unhide hB0⟩
  · have za : a.size ≤ 1073741824 := by omega
    have zb : b.size ≤ 1073741824 := by omega
    have C1 := hide (fun W => number_any a b W za zb)
    have C2 := hide (fun W => rnumber_any a b W za zb)
    generalize number a.data.toList b.data.toList = x at *
    go_wp2_with fail
    refine (unhide C1 _).mono ?_
    rintro e w2 ⟨rfl, b2⟩
    have B2 := hide ((unhide hB0).trans (b2.mono (unhide hB0).size))
    clear b2 C1 hB0
    go_wp2_with fail
    refine (unhide C2 _).mono ?_
    rintro e w3 ⟨rfl, b3⟩
    have B3 := hide ((unhide B2).trans (b3.mono (unhide B2).size))
    clear b3 C2 B2
    go_wp2_with fail
    go_ret
    exact ⟨by first | rfl | simp, unhide B3⟩
end Go.Proofs.YtfffhdbicldihaaDoor.Ky
