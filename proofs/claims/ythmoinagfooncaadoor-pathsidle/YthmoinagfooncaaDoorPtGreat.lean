/- Whether a tree and a path are more than is gone through. -/
import Derived.Test.YthmoinagfooncaaDoorTrGreat
namespace Go.Proofs.YthmoinagfooncaaDoor.Pt
open Go.RowKit Go.Proofs.YthmoinagfooncaaDoor.Cu Go.Proofs.YthmoinagfooncaaDoor.Tr

set_option maxRecDepth 100000 in
set_option maxHeartbeats 1000000 in
theorem pgreat_any (a : Option Addr) (n cap : Nat) (ns : List Nd) (now : Int) (s : ByteArray) (w : World) (h : Ng w a n cap ns) (hn : n ≤ 281474976710656) (hr : ∀ i, i < n → Rb (nd ns i)) :
    Calls Tryd.prog 14 #[.agg #[.slice a n cap, .int .i64 now], .string s] w fun e w' => (∃ q : Bool, e = .returned (.bool q) ∧ (q = false → nodesTo ns ns.length ≤ 200000 ∧ s.size ≤ 20000)) ∧ Below w.heap.size w w' := by
  have HT : ∀ W, Below w.heap.size w W → Calls Tryd.prog 26 #[.agg #[.slice a n cap, .int .i64 now]] W fun e w' => (∃ r : Nat, e = .returned (.int .i64 ((r : Int) + 1)) ∧ r ≤ 4503599627370496 ∧ (r ≤ 1048576 → r = nodesTo ns ns.length)) ∧ Below W.heap.size W w' := by
    intro W hW
    have HN : Hid (∀ V, Below w.heap.size w V → Calls Tryd.prog 44 #[.slice a n cap] V fun e w' => (∃ r : Nat, e = .returned (.int .i64 r) ∧ r ≤ 4503599627370496 ∧ (r ≤ 1048576 → r = nodesTo ns ns.length)) ∧ Below V.heap.size V w') := fun V hV => nodesSize_any a n cap ns V (h.below hV) hn hr
    have hb0 : Hid (Below W.heap.size W (W.alloc (.cells #[.slice a n cap, .int .i64 now] 28))) := (Below.refl _ _).alloc (Nat.le_refl _) _
    have hb1 : Hid (Below w.heap.size w (W.alloc (.cells #[.slice a n cap, .int .i64 now] 28))) := hW.trans ((unhide hb0).mono hW.size)
    clear h hr hW
    go_enter Tryd.func26, Tryd.ntmps26
    go_wp2_with fail
    refine (unhide HN _ (unhide hb1)).mono ?_
    rintro e w1 ⟨⟨r, rfl, hr1, hr2⟩, b1⟩
    have hB1 := hide ((unhide hb0).trans (b1.mono (unhide hb0).size))
    have HR2 := hide hr2
    clear b1 HN hr2
    go_wp2
    go_ret
    exact ⟨⟨r, by go_num, hr1, unhide HR2⟩, unhide hB1⟩
  have HT := hide HT
  have hb0 : Hid (Below w.heap.size w (w.alloc (.cells #[.slice a n cap, .int .i64 now] 28))) := (Below.refl _ _).alloc (Nat.le_refl _) _
  clear h hr
  go_enter Tryd.func14, Tryd.ntmps14
  go_wp2_with fail
  refine (unhide HT _ (unhide hb0)).mono ?_
  rintro e w1 ⟨⟨r, rfl, hr1, hr2⟩, b1⟩
  have hB1 := hide ((unhide hb0).trans (b1.mono (unhide hb0).size))
  have HR2 := hide hr2
  clear b1 HT hr2
  by_cases hq : r + 1 ≤ 100000
  · have hq' : ¬ (100000 : Int) < (r : Int) + 1 := by omega
    have hq2 : decide ((100000 : Int) < (r : Int) + 1) = false := decide_eq_false hq'
    go_wp2
    go_ret
    exact ⟨⟨_, rfl, fun h => ⟨by rw [← unhide HR2 (by omega)]; omega, by simp at h; omega⟩⟩, unhide hB1⟩
  · have hq' : (100000 : Int) < (r : Int) + 1 := by omega
    have hq2 : decide ((100000 : Int) < (r : Int) + 1) = true := decide_eq_true hq'
    go_wp2
    go_ret
    refine ⟨⟨_, rfl, fun h => ?_⟩, unhide hB1⟩
    simp at h
end Go.Proofs.YthmoinagfooncaaDoor.Pt
