/- What alive answers. -/
import Derived.Test.YtebnmjelelkcmabBkRun
import Derived.Test.YtebnmjelelkcmabBkSize
set_option linter.unusedVariables false
namespace Go.Proofs.Ytebnmjelelkcmab.Bk
open Go.RowKit Go.Shelf Cu

theorem alive1 (w : World) : Calls Try.prog 7 #[.agg #[.int .i64 2, .int .i64 2, .int .i64 0, .int .i64 1, .int .i64 1, .bool true, .bool false, .bool false, .bool false, .bool false], .string ⟨#[97, 98, 99, 100]⟩, .string ⟨#[49, 50, 51, 52, 53]⟩] w fun e w' =>
    e = .returned (.tuple #[.string ⟨#[49, 50, 97, 98, 53]⟩, .agg #[.int .i64 1, .int .i64 0, .int .i64 1, .int .i64 0], .int .i64 0]) ∧ Below w.heap.size w w' := by
  have e : ansV (runP ⟨2, 2, 0, 1, 1, true, false, false, false, false⟩ (bs ⟨#[97, 98, 99, 100]⟩) (bs ⟨#[49, 50, 51, 52, 53]⟩)) = .tuple #[.string ⟨#[49, 50, 97, 98, 53]⟩, .agg #[.int .i64 1, .int .i64 0, .int .i64 1, .int .i64 0], .int .i64 0] := by kernel_rfl
  rw [← e]
  exact run_any ⟨2, 2, 0, 1, 1, true, false, false, false, false⟩ _ _ w
theorem alive2 (w : World) : Calls Try.prog 7 #[.agg #[.int .i64 4, .int .i64 4, .int .i64 0, .int .i64 (-1), .int .i64 0, .bool false, .bool false, .bool true, .bool false, .bool true], .string ⟨#[97, 98, 99, 100, 101]⟩, .string ⟨#[]⟩] w fun e w' =>
    e = .returned (.tuple #[.string ⟨#[65, 66, 67, 68, 69, 0, 0, 0]⟩, .agg #[.int .i64 1, .int .i64 1, .int .i64 2, .int .i64 0], .int .i64 0]) ∧ Below w.heap.size w w' := by
  have e : ansV (runP ⟨4, 4, 0, -1, 0, false, false, true, false, true⟩ (bs ⟨#[97, 98, 99, 100, 101]⟩) (bs ⟨#[]⟩)) = .tuple #[.string ⟨#[65, 66, 67, 68, 69, 0, 0, 0]⟩, .agg #[.int .i64 1, .int .i64 1, .int .i64 2, .int .i64 0], .int .i64 0] := by kernel_rfl
  rw [← e]
  exact run_any ⟨4, 4, 0, -1, 0, false, false, true, false, true⟩ _ _ w
theorem alive3 (w : World) : Calls Try.prog 7 #[.agg #[.int .i64 4, .int .i64 4, .int .i64 0, .int .i64 (-1), .int .i64 0, .bool false, .bool true, .bool false, .bool false, .bool false], .string ⟨#[97, 98, 99, 100, 101]⟩, .string ⟨#[120]⟩] w fun e w' =>
    e = .returned (.tuple #[.string ⟨#[98, 97, 100, 99, 101]⟩, .agg #[.int .i64 1, .int .i64 1, .int .i64 1, .int .i64 1], .int .i64 0]) ∧ Below w.heap.size w w' := by
  have e : ansV (runP ⟨4, 4, 0, -1, 0, false, true, false, false, false⟩ (bs ⟨#[97, 98, 99, 100, 101]⟩) (bs ⟨#[120]⟩)) = .tuple #[.string ⟨#[98, 97, 100, 99, 101]⟩, .agg #[.int .i64 1, .int .i64 1, .int .i64 1, .int .i64 1], .int .i64 0] := by kernel_rfl
  rw [← e]
  exact run_any ⟨4, 4, 0, -1, 0, false, true, false, false, false⟩ _ _ w
theorem alive4 (w : World) : Calls Try.prog 7 #[.agg #[.int .i64 0, .int .i64 1, .int .i64 0, .int .i64 0, .int .i64 0, .bool false, .bool false, .bool false, .bool false, .bool false], .string ⟨#[]⟩, .string ⟨#[]⟩] w fun e w' =>
    e = .returned (.tuple #[.string ⟨#[]⟩, .agg #[.int .i64 0, .int .i64 0, .int .i64 0, .int .i64 0], .int .i64 1]) ∧ Below w.heap.size w w' := by
  have e : ansV (runP ⟨0, 1, 0, 0, 0, false, false, false, false, false⟩ (bs ⟨#[]⟩) (bs ⟨#[]⟩)) = .tuple #[.string ⟨#[]⟩, .agg #[.int .i64 0, .int .i64 0, .int .i64 0, .int .i64 0], .int .i64 1] := by kernel_rfl
  rw [← e]
  exact run_any ⟨0, 1, 0, 0, 0, false, false, false, false, false⟩ _ _ w
theorem alive5 (w : World) : Calls Try.prog 9 #[.string ⟨#[50, 107]⟩] w fun e w' => e = .returned (.tuple #[.int .i64 2048, .bool true]) ∧ w' = w := by
  have e : szA (bs ⟨#[50, 107]⟩) = .tuple #[.int .i64 2048, .bool true] := by kernel_rfl
  rw [← e]
  exact size_any ⟨#[50, 107]⟩ w (by decide)

/-- four numbers in a block of their own stay -/
theorem four_keep {w w' : World} {v0 v1 v2 v3 : Value} {k : Nat} {t : TypeId} (h : w.heap[k]? = some (.cells #[v0, v1, v2, v3] t (0, 0))) (hb : Below w.heap.size w w') : w'.heap[k]? = some (.cells #[v0, v1, v2, v3] t (0, 0)) := (hb.block k (heap_lt h)).trans h

theorem eq_a (W : World) : (binOp .eql 26 (.agg #[.int .i64 1, .int .i64 0, .int .i64 1, .int .i64 0]) (.agg #[.int .i64 1, .int .i64 0, .int .i64 1, .int .i64 0])).run Try.prog W = .ok (.bool true) W := by kernel_rfl
theorem eq_b (W : World) : (binOp .eql 26 (.agg #[.int .i64 1, .int .i64 1, .int .i64 2, .int .i64 0]) (.agg #[.int .i64 1, .int .i64 1, .int .i64 2, .int .i64 0])).run Try.prog W = .ok (.bool true) W := by kernel_rfl
set_option maxRecDepth 100000 in
set_option maxHeartbeats 1000000 in
theorem alive_any (w : World) : Calls Try.prog 5 #[] w fun e w' => e = .returned (.bool true) ∧ Below w.heap.size w w' := by
  have A1 := hide alive1
  have A2 := hide alive2
  have A3 := hide alive3
  have A4 := hide alive4
  have A5 := hide alive5
  go_enter Try.func5, Try.ntmps5
  go_wp2_with fail
  refine (unhide A1 _).mono ?_
  rintro e w1 ⟨rfl, hb1⟩
  clear A1
  go_wp2_with fail
  have HB1 : Hid (Below w.heap.size w (w1.alloc (.cells #[.int .i64 1, .int .i64 0, .int .i64 1, .int .i64 0] 26))) := hb1.alloc hb1.size _
  have hn1 := heap_alloc_new w1 (.cells #[.int .i64 1, .int .i64 0, .int .i64 1, .int .i64 0] 26)
  generalize w1.alloc (.cells #[.int .i64 1, .int .i64 0, .int .i64 1, .int .i64 0] 26) = v1 at *
  have HN1 := hide hn1
  have hl1 : w1.heap.size < v1.heap.size := heap_lt hn1
  clear hn1
  refine (unhide A2 _).mono ?_
  rintro e w2 ⟨rfl, hb2⟩
  clear A2
  go_wp2_with fail
  have HB2 : Hid (Below w.heap.size w (w2.alloc (.cells #[.int .i64 1, .int .i64 1, .int .i64 2, .int .i64 0] 26))) := ((unhide HB1).trans (hb2.mono (unhide HB1).size)).alloc (Nat.le_trans (unhide HB1).size hb2.size) _
  have hn2 := heap_alloc_new w2 (.cells #[.int .i64 1, .int .i64 1, .int .i64 2, .int .i64 0] 26)
  have HN1' : Hid ((w2.alloc (.cells #[.int .i64 1, .int .i64 1, .int .i64 2, .int .i64 0] 26)).heap[w1.heap.size]? = some (.cells #[.int .i64 1, .int .i64 0, .int .i64 1, .int .i64 0] 26 (0, 0))) := (Below.heap_alloc _ _ _ (by have := hb2.size; omega)).trans (four_keep (unhide HN1) hb2)
  generalize w2.alloc (.cells #[.int .i64 1, .int .i64 1, .int .i64 2, .int .i64 0] 26) = v2 at *
  have HN2 := hide hn2
  clear hn2 HN1 hb2
  refine (unhide A3 _).mono ?_
  rintro e w3 ⟨rfl, hb3⟩
  clear A3
  have HN13 : Hid (w3.heap[w1.heap.size]? = _) := four_keep (unhide HN1') hb3
  have HN23 : Hid (w3.heap[w2.heap.size]? = _) := four_keep (unhide HN2) hb3
  have HB3 : Hid (Below w.heap.size w w3) := (unhide HB2).trans (hb3.mono (unhide HB2).size)
  clear HN1' HN2 hb3 HB2
  go_wp2_with fail
  obtain ⟨v3, HV3⟩ : ∃ v3, Hid (v3 = w3.alloc (.cells #[.int .i64 1, .int .i64 1, .int .i64 1, .int .i64 1] 26)) := ⟨_, rfl⟩
  have HN14 : Hid (v3.heap[w1.heap.size]? = some (.cells #[.int .i64 1, .int .i64 0, .int .i64 1, .int .i64 0] 26 (0, 0))) := by rw [unhide HV3]; exact (Below.heap_alloc _ _ _ (heap_lt (unhide HN13))).trans (unhide HN13)
  have HN24 : Hid (v3.heap[w2.heap.size]? = some (.cells #[.int .i64 1, .int .i64 1, .int .i64 2, .int .i64 0] 26 (0, 0))) := by rw [unhide HV3]; exact (Below.heap_alloc _ _ _ (heap_lt (unhide HN23))).trans (unhide HN23)
  have HB4 : Hid (Below w.heap.size w v3) := by rw [unhide HV3]; exact (unhide HB3).alloc (unhide HB3).size _
  rw [← unhide HV3]
  clear HV3 HN13 HN23 HB3
  refine (unhide A4 _).mono ?_
  rintro e w4 ⟨rfl, hb4⟩
  clear A4
  have HN15 : Hid (w4.heap[w1.heap.size]? = _) := four_keep (unhide HN14) hb4
  have HN25 : Hid (w4.heap[w2.heap.size]? = _) := four_keep (unhide HN24) hb4
  have HB5 : Hid (Below w.heap.size w w4) := (unhide HB4).trans (hb4.mono (unhide HB4).size)
  clear HN14 HN24 hb4 HB4
  have l1 := heap_lt (unhide HN15)
  have l2 := heap_lt (unhide HN25)
  obtain ⟨m0, m1, m2, m3, mf⟩ := four_cells (unhide HN15)
  obtain ⟨k0, k1, k2, k3, kf⟩ := four_cells (unhide HN25)
  have HB6 : Hid (Below w.heap.size w (w4.alloc (.cells #[.int .i64 0, .int .i64 0, .int .i64 0, .int .i64 0] 26))) := (unhide HB5).alloc (unhide HB5).size _
  clear HN15 HN25
  have ea := eq_a
  have eb := eq_b
  go_wp2_with (go_at_call 9; refine (unhide A5 _).mono ?_; rintro e w' ⟨rfl, rfl⟩)
  go_ret
  exact ⟨rfl, unhide HB6⟩
end Go.Proofs.Ytebnmjelelkcmab.Bk
