/- Some answers that the document fixes. -/
import Derived.Test.YtfffhdbicldihabDoorKyComp
namespace Go.Proofs.YtfffhdbicldihabDoor.Ky
open Go.RowKit Go.Shelf

attribute [local go_sem] Oper.semAt_some

theorem al1 : key ⟨2, 2, 58, false, false, false, false⟩ [97, 58, 98, 58, 99] = [98] := by decide +kernel
theorem ac1 (W : World) : Calls Tryd.prog 11 #[.agg #[.bool false, .bool false, .bool false, .bool false, .int .i64 2, .int .i64 2, .int .u8 58], .string { data := #[97, 58, 98, 58, 99] }] W fun e w' => e = .returned (.string { data := #[98] }) ∧ Below W.heap.size W w' := by
  refine (key_any ⟨2, 2, 58, false, false, false, false⟩ { data := #[97, 58, 98, 58, 99] } W (by decide)).mono fun e w' h => ⟨?_, h.2⟩
  rw [h.1]
  show Ending.returned (.string (Ln.bt (key ⟨2, 2, 58, false, false, false, false⟩ [97, 58, 98, 58, 99]))) = _
  rw [al1]; rfl
theorem al2 : key ⟨2, 2, 0, false, false, false, false⟩ [97, 32, 32, 98, 32, 99] = [32, 32, 98] := by decide +kernel
theorem ac2 (W : World) : Calls Tryd.prog 11 #[.agg #[.bool false, .bool false, .bool false, .bool false, .int .i64 2, .int .i64 2, .int .u8 0], .string { data := #[97, 32, 32, 98, 32, 99] }] W fun e w' => e = .returned (.string { data := #[32, 32, 98] }) ∧ Below W.heap.size W w' := by
  refine (key_any ⟨2, 2, 0, false, false, false, false⟩ { data := #[97, 32, 32, 98, 32, 99] } W (by decide)).mono fun e w' h => ⟨?_, h.2⟩
  rw [h.1]
  show Ending.returned (.string (Ln.bt (key ⟨2, 2, 0, false, false, false, false⟩ [97, 32, 32, 98, 32, 99]))) = _
  rw [al2]; rfl
theorem al3 : number [45, 49, 46, 53] [45, 49, 46, 50, 53] = -1 := by decide +kernel
theorem ac3 (W : World) : Calls Tryd.prog 8 #[.string { data := #[45, 49, 46, 53] }, .string { data := #[45, 49, 46, 50, 53] }] W fun e w' => e = .returned (.int .i64 (-1)) ∧ Below W.heap.size W w' := by
  refine (number_any { data := #[45, 49, 46, 53] } { data := #[45, 49, 46, 50, 53] } W (by decide) (by decide)).mono fun e w' h => ⟨?_, h.2⟩
  rw [h.1]
  show Ending.returned (.int .i64 (number [45, 49, 46, 53] [45, 49, 46, 50, 53])) = _
  rw [al3]
theorem al4 : number [49, 46, 53, 48] [49, 46, 53, 120] = 0 := by decide +kernel
theorem ac4 (W : World) : Calls Tryd.prog 8 #[.string { data := #[49, 46, 53, 48] }, .string { data := #[49, 46, 53, 120] }] W fun e w' => e = .returned (.int .i64 (0)) ∧ Below W.heap.size W w' := by
  refine (number_any { data := #[49, 46, 53, 48] } { data := #[49, 46, 53, 120] } W (by decide) (by decide)).mono fun e w' h => ⟨?_, h.2⟩
  rw [h.1]
  show Ending.returned (.int .i64 (number [49, 46, 53, 48] [49, 46, 53, 120])) = _
  rw [al4]
theorem al5 : compare ⟨0, 0, 0, false, false, true, false⟩ [97, 98] [65, 66] = 0 := by decide +kernel
theorem ac5 (W : World) : Calls Tryd.prog 9 #[.agg #[.bool false, .bool true, .bool false, .bool false, .int .i64 0, .int .i64 0, .int .u8 0], .string { data := #[97, 98] }, .string { data := #[65, 66] }] W fun e w' => e = .returned (.int .i64 (0)) ∧ Below W.heap.size W w' := by
  refine (comp_any ⟨0, 0, 0, false, false, true, false⟩ { data := #[97, 98] } { data := #[65, 66] } W (by decide) (by decide)).mono fun e w' h => ⟨?_, h.2⟩
  rw [h.1]
  show Ending.returned (.int .i64 (compare ⟨0, 0, 0, false, false, true, false⟩ [97, 98] [65, 66])) = _
  rw [al5]
theorem al6 : compare ⟨0, 0, 0, false, false, false, true⟩ [97] [98] = 1 := by decide +kernel
theorem ac6 (W : World) : Calls Tryd.prog 9 #[.agg #[.bool false, .bool false, .bool false, .bool true, .int .i64 0, .int .i64 0, .int .u8 0], .string { data := #[97] }, .string { data := #[98] }] W fun e w' => e = .returned (.int .i64 (1)) ∧ Below W.heap.size W w' := by
  refine (comp_any ⟨0, 0, 0, false, false, false, true⟩ { data := #[97] } { data := #[98] } W (by decide) (by decide)).mono fun e w' h => ⟨?_, h.2⟩
  rw [h.1]
  show Ending.returned (.int .i64 (compare ⟨0, 0, 0, false, false, false, true⟩ [97] [98])) = _
  rw [al6]
theorem al7 : compare ⟨0, 0, 0, true, false, false, false⟩ [49, 48] [57] = 1 := by decide +kernel
theorem ac7 (W : World) : Calls Tryd.prog 9 #[.agg #[.bool true, .bool false, .bool false, .bool false, .int .i64 0, .int .i64 0, .int .u8 0], .string { data := #[49, 48] }, .string { data := #[57] }] W fun e w' => e = .returned (.int .i64 (1)) ∧ Below W.heap.size W w' := by
  refine (comp_any ⟨0, 0, 0, true, false, false, false⟩ { data := #[49, 48] } { data := #[57] } W (by decide) (by decide)).mono fun e w' h => ⟨?_, h.2⟩
  rw [h.1]
  show Ending.returned (.int .i64 (compare ⟨0, 0, 0, true, false, false, false⟩ [49, 48] [57])) = _
  rw [al7]
theorem al8 : okO ⟨0, 1, 0, false, false, false, false⟩ = false := by decide +kernel
theorem ac8 (W : World) : Calls Tryd.prog 12 #[.agg #[.bool false, .bool false, .bool false, .bool false, .int .i64 0, .int .i64 1, .int .u8 0]] W fun e w' => e = .returned (.bool false) ∧ Below W.heap.size W w' := by
  refine (check_any ⟨0, 1, 0, false, false, false, false⟩ W).mono fun e w' h => ⟨?_, h.2⟩
  rw [h.1, al8]

set_option maxRecDepth 100000 in
set_option maxHeartbeats 1000000 in
theorem alive_any (w : World) : Calls Tryd.prog 7 #[] w fun e w' => e = .returned (.bool true) ∧ Below w.heap.size w w' := by
  have B0 : Hid (∀ o : Obj, Below w.heap.size w (w.alloc o)) := fun o => (Below.refl _ _).alloc (Nat.le_refl _) _
  go_enter Tryd.func7, Tryd.ntmps7
  go_wp2_with fail
  refine (ac1 _).mono ?_
  rintro e w1 ⟨rfl, b1⟩
  have B1 := hide ((unhide B0 _).trans (b1.mono (unhide B0 _).size))
  clear b1 B0
  go_wp2_with fail
  refine (ac2 _).mono ?_
  rintro e w2 ⟨rfl, b2⟩
  have B2 := hide ((unhide B1).trans (b2.mono (unhide B1).size))
  clear b2 B1
  go_wp2_with fail
  refine (ac3 _).mono ?_
  rintro e w3 ⟨rfl, b3⟩
  have B3 := hide ((unhide B2).trans (b3.mono (unhide B2).size))
  clear b3 B2
  go_wp2_with fail
  refine (ac4 _).mono ?_
  rintro e w4 ⟨rfl, b4⟩
  have B4 := hide ((unhide B3).trans (b4.mono (unhide B3).size))
  clear b4 B3
  go_wp2_with fail
  refine (ac5 _).mono ?_
  rintro e w5 ⟨rfl, b5⟩
  have B5 := hide ((unhide B4).trans (b5.mono (unhide B4).size))
  clear b5 B4
  go_wp2_with fail
  refine (ac6 _).mono ?_
  rintro e w6 ⟨rfl, b6⟩
  have B6 := hide ((unhide B5).trans (b6.mono (unhide B5).size))
  clear b6 B5
  go_wp2_with fail
  refine (ac7 _).mono ?_
  rintro e w7 ⟨rfl, b7⟩
  have B7 := hide ((unhide B6).trans (b7.mono (unhide B6).size))
  clear b7 B6
  go_wp2_with fail
  refine (ac8 _).mono ?_
  rintro e w8 ⟨rfl, b8⟩
  have B8 := hide ((unhide B7).trans (b8.mono (unhide B7).size))
  clear b8 B7
  go_wp2_with fail
  go_ret
  exact ⟨rfl, unhide B8⟩
end Go.Proofs.YtfffhdbicldihabDoor.Ky
