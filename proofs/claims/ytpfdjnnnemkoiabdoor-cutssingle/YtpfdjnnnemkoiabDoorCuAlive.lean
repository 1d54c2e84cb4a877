/- What alive answers: true. -/
import Derived.Test.YtpfdjnnnemkoiabDoorCuNum
import Derived.Test.YtpfdjnnnemkoiabDoorCuFields
namespace Go.Proofs.YtpfdjnnnemkoiabDoor.Cu
open Go.RowKit Go.Shelf
open Ls (R Rg has)
open Pa (Tx)

theorem fa1 : faAns { data := #[97, 58, 98, 58, 99] } [(3, 3), (1, 1)] 58 false = .tuple #[.string { data := #[97, 58, 99] }, .bool true] := by kernel_rfl
theorem fa2 : faAns { data := #[97, 98, 99] } [(3, 3), (1, 1)] 58 true = .tuple #[.string { data := #[] }, .bool false] := by kernel_rfl
theorem fo1 : foldL 4 true [97, 98, 32, 99, 100, 32, 101, 102] = [[97, 98, 32], [99, 100, 32], [101, 102]] := by kernel_rfl
theorem ex1 : exAns 4 [97, 9, 98] = .tuple #[.string { data := #[97, 32, 32, 32, 98] }, .int .i64 0] := by kernel_rfl
theorem ex2 : exAns 0 [97] = .tuple #[.string { data := #[] }, .int .i64 1] := by kernel_rfl
theorem by1 : bt (pick (inL [(2, 3), (5, 0)]) 0 [97, 98, 99, 100, 101, 102]) = { data := #[98, 99, 101, 102] } := by kernel_rfl
theorem dd9 : Lib.decDigits 9 = [57] := by rw [Lib.decDigits]; simp
theorem dd10 : Lib.decDigits 10 = [49, 48] := by rw [Lib.decDigits]; simp [Lib.decDigits]
theorem nu1 : numL 3 9 [[97], [98]] = [[32, 32, 57, 9, 97], [32, 49, 48, 9, 98]] := by
  simp [numL, numX, pad, dd9, dd10]
theorem in1 : inside 9 2147483647 = 9 := rfl
theorem in2 : inside 3 32 = 3 := rfl

theorem tx_of_rowS {w : World} {B : Nat} {v : Value} {xs : List Bs} (h : RowS B v xs w) : ∃ a cap, v = .slice a xs.length cap ∧ Tx w a xs.length cap (xs.map bt) := by
  have h' : w.ownsRow B 9 1 v (xs.map bt).length ((xs.map bt).map Value.string) := by
    rw [List.length_map, List.map_map]; exact h
  obtain ⟨a, cap, h1, h2⟩ := Pa.tx_of_owns h'
  rw [List.length_map] at h1 h2
  exact ⟨a, cap, h1, h2⟩

set_option maxHeartbeats 2000000 in
set_option maxRecDepth 100000 in
theorem alive_any (w : World) (ht : Tab w) : Calls Tryd.prog 8 #[] w fun e w' => e = .returned (.bool true) ∧ Below w.heap.size w w' := by
  have HT := hide ht
  clear ht
  go_enter Tryd.func8, Tryd.ntmps8
  go_wp2_with fail
  obtain ⟨w1, hw1⟩ : ∃ w1, w1 = w.alloc (.cells #[.int .i64 3, .int .i64 3, .int .i64 1, .int .i64 1] 33) := ⟨_, rfl⟩
  rw [← hw1]
  have hB1 : Below w.heap.size w w1 := by rw [hw1]; exact (Below.refl _ w).alloc (Nat.le_refl _) _
  have hR1 : Hid (Rg w1 (some ⟨w.heap.size, 0, none⟩) 2 2 [(3, 3), (1, 1)]) := by rw [hw1]; exact Ls.rg_lit w [(3, 3), (1, 1)] 33
  clear hw1
  have F1 := fields_any { data := #[97, 58, 98, 58, 99] } (some ⟨w.heap.size, 0, none⟩) 2 2 2 [(3, 3), (1, 1)] 58 false w1 (unhide hR1) (by omega) (by decide)
  rw [fa1] at F1
  refine F1.mono ?_
  rintro e w2 ⟨rfl, hB2⟩
  clear F1
  have hR2 : Hid (Rg w2 (some ⟨w.heap.size, 0, none⟩) 2 2 [(3, 3), (1, 1)]) := (unhide hR1).below hB2
  have hB2' : Below w.heap.size w w2 := hB1.trans (hB2.mono hB1.size)
  clear hR1 hB1 hB2
  have F2 := hide (fields_any { data := #[97, 98, 99] } (some ⟨w.heap.size, 0, none⟩) 2 2 2 [(3, 3), (1, 1)] 58 true w2 (unhide hR2) (by omega) (by decide))
  rw [fa2] at F2
  go_wp2_with fail
  refine (unhide F2).mono ?_
  rintro e w3 ⟨rfl, hB3⟩
  clear F2 hR2
  have hB3' : Below w.heap.size w w3 := hB2'.trans (hB3.mono hB2'.size)
  clear hB3 hB2'
  have F3 := hide (fold_any { data := #[97, 98, 32, 99, 100, 32, 101, 102] } 4 true w3 (by omega) (by omega) (by decide))
  rw [show bs { data := #[97, 98, 32, 99, 100, 32, 101, 102] } = [97, 98, 32, 99, 100, 32, 101, 102] from rfl, fo1] at F3
  go_wp2_with fail
  refine (unhide F3).mono ?_
  rintro e w4 ⟨v4, rfl, hO4, hB4⟩
  clear F3
  have hB4' : Below w.heap.size w w4 := hB3'.trans (hB4.mono hB3'.size)
  clear hB4 hB3'
  obtain ⟨a4, c4, hv4, hT4⟩ := tx_of_rowS hO4
  subst hv4
  have HT4 := hide hT4
  clear hO4 hT4
  have F4 := hide (expand_any { data := #[97, 9, 98] } 4 w4 (by decide))
  rw [show bs { data := #[97, 9, 98] } = [97, 9, 98] from rfl, ex1] at F4
  go_wp2_with fail
  refine (unhide F4).mono ?_
  rintro e w5 ⟨rfl, hB5⟩
  clear F4
  have hB5' : Below w.heap.size w w5 := hB4'.trans (hB5.mono hB4'.size)
  have HT5 : Hid (Tx w5 a4 3 c4 [{ data := #[97, 98, 32] }, { data := #[99, 100, 32] }, { data := #[101, 102] }]) := (unhide HT4).below hB5
  clear hB5 hB4' HT4
  have F5 := hide (expand_any { data := #[97] } 0 w5 (by decide))
  rw [show bs { data := #[97] } = [97] from rfl, ex2] at F5
  go_wp2_with fail
  refine (unhide F5).mono ?_
  rintro e w6 ⟨rfl, hB6⟩
  clear F5
  have hB6' : Below w.heap.size w w6 := hB5'.trans (hB6.mono hB5'.size)
  have HT6 : Hid (Tx w6 a4 3 c4 [{ data := #[97, 98, 32] }, { data := #[99, 100, 32] }, { data := #[101, 102] }]) := (unhide HT5).below hB6
  clear hB6 hB5' HT5
  have hA7 : Below w6.heap.size w6 (w6.alloc (.cells #[.string { data := #[97] }, .string { data := #[98] }] 9)) := (Below.refl _ w6).alloc (Nat.le_refl _) _
  have hB7 : Below w.heap.size w (w6.alloc (.cells #[.string { data := #[97] }, .string { data := #[98] }] 9)) := hB6'.alloc hB6'.size _
  have HL7 : Hid (Tx (w6.alloc (.cells #[.string { data := #[97] }, .string { data := #[98] }] 9)) (some ⟨w6.heap.size, 0, none⟩) 2 2 [{ data := #[97] }, { data := #[98] }]) := Pa.tx_lit w6 [{ data := #[97] }, { data := #[98] }] 9
  have HT7 : Hid (Tx (w6.alloc (.cells #[.string { data := #[97] }, .string { data := #[98] }] 9)) a4 3 c4 [{ data := #[97, 98, 32] }, { data := #[99, 100, 32] }, { data := #[101, 102] }]) := (unhide HT6).below hA7
  clear hA7 HT6 hB6'
  have F7 := hide (number_any (some ⟨w6.heap.size, 0, none⟩) 2 2 2 [{ data := #[97] }, { data := #[98] }] 9 3 (w6.alloc (.cells #[.string { data := #[97] }, .string { data := #[98] }] 9)) (unhide HL7) ((unhide HT).below hB7) (by omega) (by intro s hs; simp at hs; rcases hs with rfl | rfl <;> decide))
  rw [in1, in2, show txs [{ data := #[97] }, { data := #[98] }] = [[97], [98]] from rfl, nu1] at F7
  go_wp2_with fail
  refine (unhide F7).mono ?_
  rintro e w8 ⟨v8, rfl, hO8, hB8⟩
  clear F7 HL7
  have hB8' : Below w.heap.size w w8 := hB7.trans (hB8.mono hB7.size)
  have HT8 : Hid (Tx w8 a4 3 c4 [{ data := #[97, 98, 32] }, { data := #[99, 100, 32] }, { data := #[101, 102] }]) := (unhide HT7).below hB8
  clear hB7 HT7 hB8
  obtain ⟨a8, c8, hv8, hU8⟩ := tx_of_rowS hO8
  subst hv8
  have HU8 : Hid (Tx w8 a8 2 c8 [{ data := #[32, 32, 57, 9, 97] }, { data := #[32, 49, 48, 9, 98] }]) := hU8
  clear hO8 hU8
  go_wp2_with fail
  obtain ⟨w9, hw9⟩ : ∃ w9, w9 = w8.alloc (.cells #[.int .i64 2, .int .i64 3, .int .i64 5, .int .i64 0] 33) := ⟨_, rfl⟩
  rw [← hw9]
  have hA9 : Below w8.heap.size w8 w9 := by rw [hw9]; exact (Below.refl _ w8).alloc (Nat.le_refl _) _
  have hR9 : Hid (Rg w9 (some ⟨w8.heap.size, 0, none⟩) 2 2 [(2, 3), (5, 0)]) := by rw [hw9]; exact Ls.rg_lit w8 [(2, 3), (5, 0)] 33
  clear hw9
  have F9 := bytes_any { data := #[97, 98, 99, 100, 101, 102] } (some ⟨w8.heap.size, 0, none⟩) 2 2 2 [(2, 3), (5, 0)] w9 (unhide hR9) (by omega) (by decide)
  rw [show bs { data := #[97, 98, 99, 100, 101, 102] } = [97, 98, 99, 100, 101, 102] from rfl, by1] at F9
  refine F9.mono ?_
  rintro e w10 ⟨rfl, hB10⟩
  clear F9 hR9
  have hAB : Below w8.heap.size w8 w10 := hA9.trans (hB10.mono hA9.size)
  have hB10' : Below w.heap.size w w10 := hB8'.trans (hAB.mono hB8'.size)
  have HT10 : Hid (Tx w10 a4 3 c4 [{ data := #[97, 98, 32] }, { data := #[99, 100, 32] }, { data := #[101, 102] }]) := (unhide HT8).below hAB
  have HU10 : Hid (Tx w10 a8 2 c8 [{ data := #[32, 32, 57, 9, 97] }, { data := #[32, 49, 48, 9, 98] }]) := (unhide HU8).below hAB
  clear HT8 HU8 hB8' hA9 hAB hB10
  have hA11 : Below w10.heap.size w10 (w10.alloc (.cells #[.string { data := #[97, 98, 32] }, .string { data := #[99, 100, 32] }, .string { data := #[101, 102] }] 9)) := (Below.refl _ w10).alloc (Nat.le_refl _) _
  have F11 := hide (Pa.sameTexts_any a4 (some ⟨w10.heap.size, 0, none⟩) 3 c4 3 c4 3 [{ data := #[97, 98, 32] }, { data := #[99, 100, 32] }, { data := #[101, 102] }] (w10.alloc (.cells #[.string { data := #[97, 98, 32] }, .string { data := #[99, 100, 32] }, .string { data := #[101, 102] }] 9)) (by omega) ((unhide HT10).below hA11) (Pa.tx_lit w10 [{ data := #[97, 98, 32] }, { data := #[99, 100, 32] }, { data := #[101, 102] }] 9))
  go_wp2_with fail
  refine (unhide F11).mono ?_
  rintro e w12 ⟨rfl, hB12⟩
  clear F11
  have hAB : Below w10.heap.size w10 w12 := hA11.trans (hB12.mono hA11.size)
  have hB12' : Below w.heap.size w w12 := hB10'.trans (hAB.mono hB10'.size)
  have HU12 : Hid (Tx w12 a8 2 c8 [{ data := #[32, 32, 57, 9, 97] }, { data := #[32, 49, 48, 9, 98] }]) := (unhide HU10).below hAB
  clear HT10 HU10 hB10' hA11 hAB hB12
  have hA13 : Below w12.heap.size w12 (w12.alloc (.cells #[.string { data := #[32, 32, 57, 9, 97] }, .string { data := #[32, 49, 48, 9, 98] }] 9)) := (Below.refl _ w12).alloc (Nat.le_refl _) _
  have F13 := hide (Pa.sameTexts_any a8 (some ⟨w12.heap.size, 0, none⟩) 2 c8 2 c8 2 [{ data := #[32, 32, 57, 9, 97] }, { data := #[32, 49, 48, 9, 98] }] (w12.alloc (.cells #[.string { data := #[32, 32, 57, 9, 97] }, .string { data := #[32, 49, 48, 9, 98] }] 9)) (by omega) ((unhide HU12).below hA13) (Pa.tx_lit w12 [{ data := #[32, 32, 57, 9, 97] }, { data := #[32, 49, 48, 9, 98] }] 9))
  go_wp2_with fail
  refine (unhide F13).mono ?_
  rintro e w14 ⟨rfl, hB14⟩
  clear F13
  have hAB : Below w12.heap.size w12 w14 := hA13.trans (hB14.mono hA13.size)
  have hB14' : Below w.heap.size w w14 := hB12'.trans (hAB.mono hB12'.size)
  clear HU12 hB12' hA13 hAB hB14
  go_wp2_with fail
  go_ret
  exact ⟨rfl, hB14'⟩
end Go.Proofs.YtpfdjnnnemkoiabDoor.Cu
