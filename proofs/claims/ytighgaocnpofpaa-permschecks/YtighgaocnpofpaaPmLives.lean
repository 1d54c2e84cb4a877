/- The chapter's node: lives walked. -/
import Derived.Test.YtighgaocnpofpaaPmMay
namespace Go.Proofs.Ytighgaocnpofpaa.Pm
open Go.RowKit Go.Proofs.Ytighgaocnpofpaa.Cu Go.Proofs.Ytighgaocnpofpaa.Tr

abbrev nL : Array Value := #[.int .u8 1, .int .i64 420, .int .i64 5, .int .i64 7, .int .i64 0, .int .i64 0, .slice none 0 0, .string ⟨#[]⟩, .slice none 0 0, .int .i64 0]
theorem box10 {W : World} {N : Nat} {t : TypeId} {a0 a1 a2 a3 a4 a5 a6 a7 a8 a9 : Value} (h : W.heap[N]? = some (.cells #[a0, a1, a2, a3, a4, a5, a6, a7, a8, a9] t)) : W.cell? ⟨N, 0, none⟩ = some a0 ∧ W.cell? ⟨N, 1, none⟩ = some a1 ∧ W.cell? ⟨N, 2, none⟩ = some a2 ∧ W.cell? ⟨N, 3, none⟩ = some a3 ∧ W.cell? ⟨N, 4, none⟩ = some a4 ∧ W.cell? ⟨N, 5, none⟩ = some a5 ∧ W.cell? ⟨N, 6, none⟩ = some a6 ∧ W.cell? ⟨N, 7, none⟩ = some a7 ∧ W.cell? ⟨N, 8, none⟩ = some a8 ∧ W.cell? ⟨N, 9, none⟩ = some a9 :=
  ⟨by rw [cell_of_row _ _ _ _ _ _ h]; rfl, by rw [cell_of_row _ _ _ _ _ _ h]; rfl, by rw [cell_of_row _ _ _ _ _ _ h]; rfl, by rw [cell_of_row _ _ _ _ _ _ h]; rfl, by rw [cell_of_row _ _ _ _ _ _ h]; rfl, by rw [cell_of_row _ _ _ _ _ _ h]; rfl, by rw [cell_of_row _ _ _ _ _ _ h]; rfl, by rw [cell_of_row _ _ _ _ _ _ h]; rfl, by rw [cell_of_row _ _ _ _ _ _ h]; rfl, by rw [cell_of_row _ _ _ _ _ _ h]; rfl⟩
theorem live0 (W : World) : Calls Try.prog 51 #[.agg nL, .agg #[.int .i64 5, .int .i64 0, .int .i64 0, .int .i64 0], .int .i64 6] W fun e w' => e = .returned (.bool true) ∧ Below W.heap.size W w' :=
  (may_any ⟨1, 420, 5, 7, 0, 0, [], ⟨#[]⟩, [], 0⟩ (.slice none 0 0) (.slice none 0 0) ⟨5, 0, 0, 0⟩ 6 W).mono fun e w' h => ⟨h.1.trans (by rw [show mayP ⟨1, 420, 5, 7, 0, 0, [], ⟨#[]⟩, [], 0⟩ ⟨5, 0, 0, 0⟩ 6 = true by decide +kernel]), h.2⟩
theorem live1 (W : World) : Calls Try.prog 51 #[.agg nL, .agg #[.int .i64 6, .int .i64 7, .int .i64 0, .int .i64 0], .int .i64 4] W fun e w' => e = .returned (.bool true) ∧ Below W.heap.size W w' :=
  (may_any ⟨1, 420, 5, 7, 0, 0, [], ⟨#[]⟩, [], 0⟩ (.slice none 0 0) (.slice none 0 0) ⟨6, 7, 0, 0⟩ 4 W).mono fun e w' h => ⟨h.1.trans (by rw [show mayP ⟨1, 420, 5, 7, 0, 0, [], ⟨#[]⟩, [], 0⟩ ⟨6, 7, 0, 0⟩ 4 = true by decide +kernel]), h.2⟩
theorem live2 (W : World) : Calls Try.prog 51 #[.agg nL, .agg #[.int .i64 6, .int .i64 7, .int .i64 0, .int .i64 0], .int .i64 2] W fun e w' => e = .returned (.bool false) ∧ Below W.heap.size W w' :=
  (may_any ⟨1, 420, 5, 7, 0, 0, [], ⟨#[]⟩, [], 0⟩ (.slice none 0 0) (.slice none 0 0) ⟨6, 7, 0, 0⟩ 2 W).mono fun e w' h => ⟨h.1.trans (by rw [show mayP ⟨1, 420, 5, 7, 0, 0, [], ⟨#[]⟩, [], 0⟩ ⟨6, 7, 0, 0⟩ 2 = false by decide +kernel]), h.2⟩
theorem live3 (W : World) : Calls Try.prog 51 #[.agg nL, .agg #[.int .i64 0, .int .i64 0, .int .i64 0, .int .i64 0], .int .i64 6] W fun e w' => e = .returned (.bool true) ∧ Below W.heap.size W w' :=
  (may_any ⟨1, 420, 5, 7, 0, 0, [], ⟨#[]⟩, [], 0⟩ (.slice none 0 0) (.slice none 0 0) ⟨0, 0, 0, 0⟩ 6 W).mono fun e w' h => ⟨h.1.trans (by rw [show mayP ⟨1, 420, 5, 7, 0, 0, [], ⟨#[]⟩, [], 0⟩ ⟨0, 0, 0, 0⟩ 6 = true by decide +kernel]), h.2⟩
theorem live4 (W : World) : Calls Try.prog 51 #[.agg nL, .agg #[.int .i64 0, .int .i64 0, .int .i64 0, .int .i64 0], .int .i64 1] W fun e w' => e = .returned (.bool false) ∧ Below W.heap.size W w' :=
  (may_any ⟨1, 420, 5, 7, 0, 0, [], ⟨#[]⟩, [], 0⟩ (.slice none 0 0) (.slice none 0 0) ⟨0, 0, 0, 0⟩ 1 W).mono fun e w' h => ⟨h.1.trans (by rw [show mayP ⟨1, 420, 5, 7, 0, 0, [], ⟨#[]⟩, [], 0⟩ ⟨0, 0, 0, 0⟩ 1 = false by decide +kernel]), h.2⟩
theorem live5 (W : World) : Calls Try.prog 51 #[.agg nL, .agg #[.int .i64 5, .int .i64 0, .int .i64 0, .int .i64 0], .int .i64 0] W fun e w' => e = .returned (.bool false) ∧ Below W.heap.size W w' :=
  (may_any ⟨1, 420, 5, 7, 0, 0, [], ⟨#[]⟩, [], 0⟩ (.slice none 0 0) (.slice none 0 0) ⟨5, 0, 0, 0⟩ 0 W).mono fun e w' h => ⟨h.1.trans (by rw [show mayP ⟨1, 420, 5, 7, 0, 0, [], ⟨#[]⟩, [], 0⟩ ⟨5, 0, 0, 0⟩ 0 = false by decide +kernel]), h.2⟩
theorem live6 (W : World) : Calls Try.prog 52 #[.agg nL, .agg #[.int .i64 5, .int .i64 0, .int .i64 0, .int .i64 0]] W fun e w' => e = .returned (.bool true) ∧ Below W.heap.size W w' :=
  (owns_any ⟨1, 420, 5, 7, 0, 0, [], ⟨#[]⟩, [], 0⟩ (.slice none 0 0) (.slice none 0 0) ⟨5, 0, 0, 0⟩ W).mono fun e w' h => ⟨h.1.trans (by rw [show ownsP ⟨1, 420, 5, 7, 0, 0, [], ⟨#[]⟩, [], 0⟩ ⟨5, 0, 0, 0⟩ = true by decide +kernel]), h.2⟩
theorem live7 (W : World) : Calls Try.prog 52 #[.agg nL, .agg #[.int .i64 6, .int .i64 0, .int .i64 0, .int .i64 0]] W fun e w' => e = .returned (.bool false) ∧ Below W.heap.size W w' :=
  (owns_any ⟨1, 420, 5, 7, 0, 0, [], ⟨#[]⟩, [], 0⟩ (.slice none 0 0) (.slice none 0 0) ⟨6, 0, 0, 0⟩ W).mono fun e w' h => ⟨h.1.trans (by rw [show ownsP ⟨1, 420, 5, 7, 0, 0, [], ⟨#[]⟩, [], 0⟩ ⟨6, 0, 0, 0⟩ = false by decide +kernel]), h.2⟩
theorem live8 (W : World) : Calls Try.prog 52 #[.agg nL, .agg #[.int .i64 0, .int .i64 0, .int .i64 0, .int .i64 0]] W fun e w' => e = .returned (.bool true) ∧ Below W.heap.size W w' :=
  (owns_any ⟨1, 420, 5, 7, 0, 0, [], ⟨#[]⟩, [], 0⟩ (.slice none 0 0) (.slice none 0 0) ⟨0, 0, 0, 0⟩ W).mono fun e w' h => ⟨h.1.trans (by rw [show ownsP ⟨1, 420, 5, 7, 0, 0, [], ⟨#[]⟩, [], 0⟩ ⟨0, 0, 0, 0⟩ = true by decide +kernel]), h.2⟩
set_option maxRecDepth 100000 in
set_option maxHeartbeats 2000000 in
theorem lives_any (w : World) : Calls Try.prog 23 #[] w fun e w' => e = .returned (.bool true) ∧ Below w.heap.size w w' := by
  have C0 := hide live0
  have C1 := hide live1
  have C2 := hide live2
  have C3 := hide live3
  have C4 := hide live4
  have C5 := hide live5
  have C6 := hide live6
  have C7 := hide live7
  have C8 := hide live8
  have G0 := hide (heap_alloc_new w (.cells nL 54))
  have B0 := hide (b1 w (.cells nL 54))
  go_enter Try.func23, Try.ntmps23
  go_wp2_with fail
  refine (unhide C0 _).mono ?_
  rintro e w1 ⟨rfl, hb⟩
  have G1 := hide ((hb.block _ (Array.getElem?_eq_some_iff.1 (unhide G0)).1).trans (unhide G0))
  have B1 := hide ((unhide B0).trans (hb.mono (unhide B0).size))
  clear hb G0 B0 C0
  obtain ⟨c0, c1, c2, c3, c4, c5, c6, c7, c8, c9⟩ := box10 (unhide G1)
  go_wp2_with fail
  refine (unhide C1 _).mono ?_
  rintro e w2 ⟨rfl, hb⟩
  have G2 := hide ((hb.block _ (Array.getElem?_eq_some_iff.1 (unhide G1)).1).trans (unhide G1))
  have B2 := hide ((unhide B1).trans (hb.mono (unhide B1).size))
  clear hb G1 B1 C1 c0 c1 c2 c3 c4 c5 c6 c7 c8 c9
  obtain ⟨c0, c1, c2, c3, c4, c5, c6, c7, c8, c9⟩ := box10 (unhide G2)
  go_wp2_with fail
  refine (unhide C2 _).mono ?_
  rintro e w3 ⟨rfl, hb⟩
  have G3 := hide ((hb.block _ (Array.getElem?_eq_some_iff.1 (unhide G2)).1).trans (unhide G2))
  have B3 := hide ((unhide B2).trans (hb.mono (unhide B2).size))
  clear hb G2 B2 C2 c0 c1 c2 c3 c4 c5 c6 c7 c8 c9
  obtain ⟨c0, c1, c2, c3, c4, c5, c6, c7, c8, c9⟩ := box10 (unhide G3)
  go_wp2_with fail
  refine (unhide C3 _).mono ?_
  rintro e w4 ⟨rfl, hb⟩
  have G4 := hide ((hb.block _ (Array.getElem?_eq_some_iff.1 (unhide G3)).1).trans (unhide G3))
  have B4 := hide ((unhide B3).trans (hb.mono (unhide B3).size))
  clear hb G3 B3 C3 c0 c1 c2 c3 c4 c5 c6 c7 c8 c9
  obtain ⟨c0, c1, c2, c3, c4, c5, c6, c7, c8, c9⟩ := box10 (unhide G4)
  go_wp2_with fail
  refine (unhide C4 _).mono ?_
  rintro e w5 ⟨rfl, hb⟩
  have G5 := hide ((hb.block _ (Array.getElem?_eq_some_iff.1 (unhide G4)).1).trans (unhide G4))
  have B5 := hide ((unhide B4).trans (hb.mono (unhide B4).size))
  clear hb G4 B4 C4 c0 c1 c2 c3 c4 c5 c6 c7 c8 c9
  obtain ⟨c0, c1, c2, c3, c4, c5, c6, c7, c8, c9⟩ := box10 (unhide G5)
  go_wp2_with fail
  refine (unhide C5 _).mono ?_
  rintro e w6 ⟨rfl, hb⟩
  have G6 := hide ((hb.block _ (Array.getElem?_eq_some_iff.1 (unhide G5)).1).trans (unhide G5))
  have B6 := hide ((unhide B5).trans (hb.mono (unhide B5).size))
  clear hb G5 B5 C5 c0 c1 c2 c3 c4 c5 c6 c7 c8 c9
  obtain ⟨c0, c1, c2, c3, c4, c5, c6, c7, c8, c9⟩ := box10 (unhide G6)
  go_wp2_with fail
  refine (unhide C6 _).mono ?_
  rintro e w7 ⟨rfl, hb⟩
  have G7 := hide ((hb.block _ (Array.getElem?_eq_some_iff.1 (unhide G6)).1).trans (unhide G6))
  have B7 := hide ((unhide B6).trans (hb.mono (unhide B6).size))
  clear hb G6 B6 C6 c0 c1 c2 c3 c4 c5 c6 c7 c8 c9
  obtain ⟨c0, c1, c2, c3, c4, c5, c6, c7, c8, c9⟩ := box10 (unhide G7)
  go_wp2_with fail
  refine (unhide C7 _).mono ?_
  rintro e w8 ⟨rfl, hb⟩
  have G8 := hide ((hb.block _ (Array.getElem?_eq_some_iff.1 (unhide G7)).1).trans (unhide G7))
  have B8 := hide ((unhide B7).trans (hb.mono (unhide B7).size))
  clear hb G7 B7 C7 c0 c1 c2 c3 c4 c5 c6 c7 c8 c9
  obtain ⟨c0, c1, c2, c3, c4, c5, c6, c7, c8, c9⟩ := box10 (unhide G8)
  go_wp2_with fail
  refine (unhide C8 _).mono ?_
  rintro e w9 ⟨rfl, hb⟩
  have G9 := hide ((hb.block _ (Array.getElem?_eq_some_iff.1 (unhide G8)).1).trans (unhide G8))
  have B9 := hide ((unhide B8).trans (hb.mono (unhide B8).size))
  clear hb G8 B8 C8 c0 c1 c2 c3 c4 c5 c6 c7 c8 c9
  go_wp2_with fail
  go_ret
  exact ⟨rfl, unhide B9⟩
end Go.Proofs.Ytighgaocnpofpaa.Pm
