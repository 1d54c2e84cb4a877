/- Whether a tree and a path are more than is gone through. -/
import Derived.Test.YtbajjbgeohbdjaaTrGreat
import Derived.Test.YtbajjbgeohbdjaaPmMay
namespace Go.Proofs.Ytbajjbgeohbdjaa.Wk
open Go.RowKit Go.Proofs.Ytbajjbgeohbdjaa.Cu Go.Proofs.Ytbajjbgeohbdjaa.Tr Go.Proofs.Ytbajjbgeohbdjaa.Pm

abbrev wa (a : Option Addr) (n cap : Nat) (now : Int) (e : Ev) (s : ByteArray) (deep : Int) : Array Value := #[.slice a n cap, .int .i64 now, .int .i64 e.user, .int .i64 e.group, .int .i64 e.mask, .int .i64 e.dir, .string s, .int .i64 deep]

set_option maxRecDepth 100000 in
set_option maxHeartbeats 1000000 in
theorem wgreat_any (a : Option Addr) (n cap : Nat) (ns : List Nd) (now : Int) (e : Ev) (s : ByteArray) (deep : Int) (w : World) (h : Ng w a n cap ns) (hn : n ≤ 281474976710656) (hr : ∀ i, i < n → Rb (nd ns i)) :
    Calls Try.prog 5 #[.agg (wa a n cap now e s deep)] w fun e w' => (∃ q : Bool, e = .returned (.bool q) ∧ (q = false → nodesTo ns ns.length ≤ 200000 ∧ s.size ≤ 3000)) ∧ Below w.heap.size w w' := by
  have HT : ∀ W, Below w.heap.size w W → Calls Try.prog 11 #[.agg #[.slice a n cap, .int .i64 now]] W fun e w' => (∃ r : Nat, e = .returned (.int .i64 ((r : Int) + 1)) ∧ r ≤ 4503599627370496 ∧ (r ≤ 1048576 → r = nodesTo ns ns.length)) ∧ Below W.heap.size W w' := by
    intro W hW
    have HN : Hid (∀ V, Below w.heap.size w V → Calls Try.prog 24 #[.slice a n cap] V fun e w' => (∃ r : Nat, e = .returned (.int .i64 r) ∧ r ≤ 4503599627370496 ∧ (r ≤ 1048576 → r = nodesTo ns ns.length)) ∧ Below V.heap.size V w') := fun V hV => nodesSize_any a n cap ns V (h.below hV) hn hr
    have hb0 : Hid (Below W.heap.size W (W.alloc (.cells #[.slice a n cap, .int .i64 now] 24))) := (Below.refl _ _).alloc (Nat.le_refl _) _
    have hb1 : Hid (Below w.heap.size w (W.alloc (.cells #[.slice a n cap, .int .i64 now] 24))) := hW.trans ((unhide hb0).mono hW.size)
    clear h hr hW
    go_enter Try.func11, Try.ntmps11
    go_wp2_with fail
    refine (unhide HN _ (unhide hb1)).mono ?_
    rintro e w1 ⟨⟨r, rfl, hr1, hr2⟩, b1⟩
    have hB1 := hide ((unhide hb0).trans (b1.mono (unhide hb0).size))
    have HR2 := hide hr2
    clear b1 HN hr2
    go_wp2
    go_ret
    exact ⟨⟨r, by go_num, hr1, unhide HR2⟩, unhide hB1⟩
  have HT := hide HT
  obtain ⟨u, g, mk, dr⟩ := e
  obtain ⟨W1, hW1⟩ : ∃ W1, W1 = w.alloc (.cells (wa a n cap now ⟨u, g, mk, dr⟩ s deep) 28) := ⟨_, rfl⟩
  have hb1 : Below w.heap.size w W1 := by rw [hW1]; exact (Below.refl _ _).alloc (Nat.le_refl _) _
  have h1 : W1.heap[w.heap.size]? = some (.cells (wa a n cap now ⟨u, g, mk, dr⟩ s deep) 28) := by rw [hW1]; exact heap_alloc_new _ _
  have hb0 := hide hb1
  have H1 := hide h1
  clear h hr hb1 h1
  go_enter Try.func5, Try.ntmps5
  go_wp2_with fail
  rw [← hW1]
  refine (unhide HT _ (unhide hb0)).mono ?_
  rintro e w1 ⟨⟨r, rfl, hr1, hr2⟩, b1⟩
  have hB1 := hide ((unhide hb0).trans (b1.mono (unhide hb0).size))
  have HR2 := hide hr2
  have g1 := (b1.block _ (Array.getElem?_eq_some_iff.1 (unhide H1)).1).trans (unhide H1)
  have c6 : w1.cell? ⟨w.heap.size, 6, none⟩ = some (.string s) := by rw [cell_of_row _ _ _ _ _ _ g1]; rfl
  clear b1 HT hr2 hW1 H1 g1 hb0
  by_cases hq : r + 1 ≤ 60000
  · have hq' : ¬ (60000 : Int) < (r : Int) + 1 := by omega
    have hq2 : decide ((60000 : Int) < (r : Int) + 1) = false := decide_eq_false hq'
    go_wp2
    go_ret
    exact ⟨⟨_, rfl, fun h => ⟨by rw [← unhide HR2 (by omega)]; omega, by simp at h; omega⟩⟩, unhide hB1⟩
  · have hq' : (60000 : Int) < (r : Int) + 1 := by omega
    have hq2 : decide ((60000 : Int) < (r : Int) + 1) = true := decide_eq_true hq'
    go_wp2
    go_ret
    refine ⟨⟨_, rfl, fun h => ?_⟩, unhide hB1⟩
    simp at h
end Go.Proofs.Ytbajjbgeohbdjaa.Wk
