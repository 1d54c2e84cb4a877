/- alive answers true. -/
import Derived.Test.YtjgboecifonjdabSeList
import Derived.Test.YtjgboecifonjdabSeParse2
import Derived.Test.YtjgboecifonjdabSeSwap
import Derived.Lib.SlBytesConst
namespace Go.Proofs.Ytjgboecifonjdab.Se
open Go.RowKit

theorem parse_by {s : ByteArray} {l : Bs} {n : Int} (w : World) (hs : s.size ≤ 4611686018427387900) (h : parse (bs s) = (l, n)) :
    Calls Try.prog 11 #[.string s] w fun e w' => ∃ a cap, e = .returned (.tuple #[.slice a l.length cap, .int .i64 n]) ∧ By w' a l.length cap l ∧ Row w.heap.size (.slice a l.length cap) l w' ∧ Below w.heap.size w w' := by
  refine (parse_any s w hs).mono ?_
  rintro e w' ⟨v, rfl, hO, hB⟩
  rw [h] at hO ⊢
  obtain ⟨a, cap, rfl, hR⟩ := by_row hO
  exact ⟨a, cap, rfl, hR, hO, hB⟩
theorem al1 : parse (bs { data := #[97, 45, 99, 45, 101] }) = ([97, 98, 99, 45, 101], 0) := by decide +kernel
theorem al2 : parse (bs { data := #[92, 49, 48, 49, 56, 92, 110] }) = ([65, 56, 10], 0) := by decide +kernel
theorem al3 : parse (bs { data := #[101, 45, 97] }) = ([], 5) := by decide +kernel
theorem al4 : (⟨((bs { data := #[104, 101, 108, 108, 111] }).map (becomes [101, 108] [105, 112])).toArray⟩ : ByteArray) = { data := #[104, 105, 112, 112, 111] } := by decide +kernel
theorem al5 : (⟨(drop (bs { data := #[104, 101, 108, 108, 111] }) [108]).toArray⟩ : ByteArray) = { data := #[104, 101, 111] } := by decide +kernel
theorem al6 : (⟨(squeeze (bs { data := #[97, 97, 98, 98, 99, 99, 97] }) [97, 99]).toArray⟩ : ByteArray) = { data := #[97, 98, 98, 99, 97] } := by decide +kernel
theorem two_lits (w : World) (e : TypeId) (fr : Nat × Nat) (a b c d : UInt8) : By ((w.alloc (.cells #[.int .u8 a.toNat, .int .u8 b.toNat] e fr)).alloc (.cells #[.int .u8 c.toNat, .int .u8 d.toNat] e fr)) (some ⟨w.heap.size, 0, none⟩) 2 2 [a, b]
    ∧ By ((w.alloc (.cells #[.int .u8 a.toNat, .int .u8 b.toNat] e fr)).alloc (.cells #[.int .u8 c.toNat, .int .u8 d.toNat] e fr)) (some ⟨w.heap.size + 1, 0, none⟩) 2 2 [c, d] := by
  constructor
  · exact (by_lit w [a, b] e fr).below ((Below.refl _ _).alloc (Nat.le_refl _) _)
  · have := by_lit (w.alloc (.cells #[.int .u8 a.toNat, .int .u8 b.toNat] e fr)) [c, d] e fr
    rw [World.size_alloc] at this
    exact this

set_option maxRecDepth 100000 in
set_option maxHeartbeats 1000000 in
theorem alive_any (w : World) : Calls Try.prog 6 #[] w fun e w' => e = .returned (.bool true) ∧ Below w.heap.size w w' := by
  have kc := fun (w : World) (C : Array Value) (n c : Nat) => Lib.run_convert_bytes_const (P := Try.prog) w 22 5 C n c Try.underlying22 Try.underlying5
  have kc2 : ∀ (w : World) (o : Obj) (C : Array Value) (n c : Nat), (convert 22 22 (.slice (some ⟨w.heap.size + 1, 0, none⟩) n c)).run Try.prog ((w.alloc o).alloc (.cells C 5)) = .ok (.slice (some ⟨w.heap.size + 1, 0, none⟩) n c) ((w.alloc o).alloc (.cells C 5 (C.size, C.size + 1))) := fun w o C n c => by
    have := kc (w.alloc o) C n c
    rwa [World.size_alloc] at this
  go_enter Try.func6, Try.ntmps6
  go_wp2_with fail
  refine (parse_by w (by decide) al1).mono ?_
  rintro e w1 ⟨a1, c1, rfl, hY1, hR1, hB1⟩
  have R1 := hide hR1
  have B1 := hide hB1
  clear hY1 hR1 hB1
  go_wp2_with fail
  refine (parse_by w1 (by decide) al2).mono ?_
  rintro e w2 ⟨a2, c2, rfl, hY2, hR2, hB2⟩
  have R1' := hide (row_below (unhide R1) hB2)
  have Y2 := hide hY2
  have B2 := hide ((unhide B1).trans (hB2.mono (unhide B1).size))
  clear hY2 hR2 hB2 R1 B1
  go_wp2_with fail
  refine (parse_by w2 (by decide) al3).mono ?_
  rintro e w3 ⟨a3, c3, rfl, _, _, hB3⟩
  have R1 := hide (row_below (unhide R1') hB3)
  have Y3 := hide ((unhide Y2).below hB3)
  have B3 := hide ((unhide B2).trans (hB3.mono (unhide B2).size))
  clear hB3 R1' B2 Y2
  go_wp2_with fail
  have C4 := swap_any { data := #[104, 101, 108, 108, 111] } (some ⟨w3.heap.size, 0, none⟩) (some ⟨w3.heap.size + 1, 0, none⟩) 2 2 2 2 2 2 [101, 108] [105, 112] ((w3.alloc (.cells #[.int .u8 101, .int .u8 108] 5 (2, 3))).alloc (.cells #[.int .u8 105, .int .u8 112] 5 (2, 3))) (two_lits w3 5 (2, 3) 101 108 105 112).1 (two_lits w3 5 (2, 3) 101 108 105 112).2 (by omega) (by omega) (by omega) (by decide)
  rw [al4] at C4
  have bl4 : Hid (Below w3.heap.size w3 ((w3.alloc (.cells #[.int .u8 101, .int .u8 108] 5 (2, 3))).alloc (.cells #[.int .u8 105, .int .u8 112] 5 (2, 3)))) := ((Below.refl _ _).alloc (Nat.le_refl _) _).alloc (by simp) _
  refine C4.mono ?_
  rintro e w4 ⟨rfl, hB4⟩
  have hb4 : Below w3.heap.size w3 w4 := (unhide bl4).trans (hB4.mono (unhide bl4).size)
  have R1' := hide (row_below (unhide R1) hb4)
  have Y4 := hide ((unhide Y3).below hb4)
  have B4 := hide ((unhide B3).trans (hb4.mono (unhide B3).size))
  clear hB4 hb4 bl4 C4 R1 Y3 B3
  go_wp2_with fail
  refine (swap_none _ _ _ 1 1 0 _ (by omega)).mono ?_
  rintro e w5 ⟨rfl, rfl⟩
  have hb5 : Below w4.heap.size w4 (w4.alloc (.cells #[.int .u8 97] 5 (1, 2))) := (Below.refl _ _).alloc (Nat.le_refl _) _
  generalize (w4.alloc (.cells #[.int .u8 97] 5 (1, 2))) = w5 at *
  have R1 := unhide R1'
  have R5 := row_below R1 hb5
  have Y5 := hide ((unhide Y4).below hb5)
  have B5 := hide ((unhide B4).trans (hb5.mono (unhide B4).size))
  have hcv : (convert 22 9 (.slice a1 5 c1)).run Try.prog w5 = .ok (.string { data := #[97, 98, 99, 45, 101] }) w5 := cv_back _ R5
  clear R1' R1 R5 Y4 B4 hb5
  go_wp2_with fail
  have hb6 : Below w5.heap.size w5 (w5.alloc (.cells #[.int .u8 65, .int .u8 56, .int .u8 10] 5)) := (Below.refl _ _).alloc (Nat.le_refl _) _
  have C6 := same_any a2 (some ⟨w5.heap.size, 0, none⟩) 3 c2 3 c2 3 [65, 56, 10] _ (by omega) ((unhide Y5).below hb6) (by_lit w5 [65, 56, 10] 5 (0, 0))
  refine C6.mono ?_
  rintro e w6 ⟨rfl, hB6⟩
  have B6 := hide ((unhide B5).trans ((hb6.trans (hB6.mono hb6.size)).mono (unhide B5).size))
  clear C6 hb6 hB6 Y5 B5 hcv
  go_wp2_with fail
  have hb7 : Below w6.heap.size w6 (w6.alloc (.cells #[.int .u8 108] 5 (1, 2))) := (Below.refl _ _).alloc (Nat.le_refl _) _
  have C7 := drop_any { data := #[104, 101, 108, 108, 111] } (some ⟨w6.heap.size, 0, none⟩) 1 1 1 [108] _ (by_lit w6 [108] 5 (1, 2)) (by omega) (by decide)
  rw [al5] at C7
  refine C7.mono ?_
  rintro e w7 ⟨rfl, hB7⟩
  have B7 := hide ((unhide B6).trans ((hb7.trans (hB7.mono hb7.size)).mono (unhide B6).size))
  clear C7 hb7 hB7 B6
  go_wp2_with fail
  have hb8 : Below w7.heap.size w7 (w7.alloc (.cells #[.int .u8 97, .int .u8 99] 5 (2, 3))) := (Below.refl _ _).alloc (Nat.le_refl _) _
  have C8 := squeeze_any { data := #[97, 97, 98, 98, 99, 99, 97] } (some ⟨w7.heap.size, 0, none⟩) 2 2 2 [97, 99] _ (by_lit w7 [97, 99] 5 (2, 3)) (by omega) (by decide)
  rw [al6] at C8
  refine C8.mono ?_
  rintro e w8 ⟨rfl, hB8⟩
  have B8 := hide ((unhide B7).trans ((hb8.trans (hB8.mono hb8.size)).mono (unhide B7).size))
  clear C8 hb8 hB8 B7
  go_wp2_with fail
  go_ret
  exact ⟨rfl, unhide B8⟩
end Go.Proofs.Ytjgboecifonjdab.Se
