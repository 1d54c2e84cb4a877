/- Some answers that the document fixes: alive answers true. -/
import Derived.Test.YtjkajhnnoecjbaaDoorVwCmp
import Derived.Test.YtjkajhnnoecjbaaDoorVwSum
import Derived.Test.YtjkajhnnoecjbaaDoorVwDump
import Derived.Test.YtjkajhnnoecjbaaDoorVwPaste
import Derived.Test.YtjkajhnnoecjbaaDoorVwJoin
set_option linter.unusedVariables false
namespace Go.Proofs.YtjkajhnnoecjbaaDoor.Vw
open Go.RowKit Go.Shelf Cu
open Pa (Tx tot)

theorem tx_row {w : World} {B : Nat} {v : Value} {xs : List Bs} (h : RowT B v xs w) : ∃ a c, v = .slice a xs.length c ∧ Tx w a xs.length c (xs.map bt) := by
  have h1 : w.ownsRow B 9 1 v (xs.map bt).length ((xs.map bt).map Value.string) := by
    rw [List.length_map, List.map_map]; exact h
  obtain ⟨a, c, e, hT⟩ := Pa.tx_of_owns h1
  rw [List.length_map] at e hT
  exact ⟨a, c, e, hT⟩
theorem sum_none : sumP [] = 4294967295#32 := by unfold sumP; rw [show ([] : Bs).length = 0 from rfl, lenB_zero]; decide +kernel
theorem sum_nine : sumP [49, 50, 51, 52, 53, 54, 55, 56, 57] = 930766865#32 := by
  unfold sumP
  rw [show ([49, 50, 51, 52, 53, 54, 55, 56, 57] : Bs).length = 9 from rfl, lenB_pos 9 (by decide), show 9 / 256 = 0 from rfl, lenB_zero]
  decide +kernel
theorem oct_none : octP 0 7 = [48, 48, 48, 48, 48, 48, 48] := rfl
theorem oct_3 : octP 3 7 = [48, 48, 48, 48, 48, 48, 51] := by unfold octP; rw [digs_small 3 (by decide)]; decide
theorem oct_65 : octP 65 3 = [49, 48, 49] := by unfold octP; rw [digs_big 65 (by decide), digs_big (65 / 8) (by decide), digs_small (65 / 8 / 8) (by decide)]; decide
theorem oct_66 : octP 66 3 = [49, 48, 50] := by unfold octP; rw [digs_big 66 (by decide), digs_big (66 / 8) (by decide), digs_small (66 / 8 / 8) (by decide)]; decide
theorem oct_10 : octP 10 3 = [48, 49, 50] := by unfold octP; rw [digs_big 10 (by decide), digs_small (10 / 8) (by decide)]; decide
theorem dump_ab : dumpP [65, 66, 10] = [48, 48, 48, 48, 48, 48, 48, 32, 49, 48, 49, 32, 49, 48, 50, 32, 48, 49, 50, 10, 48, 48, 48, 48, 48, 48, 51, 10] := by
  show ((((((([] ++ (nl 0 ++ octP 0 7)) ++ 32 :: octP 65 3) ++ []) ++ 32 :: octP 66 3) ++ []) ++ 32 :: octP 10 3) ++ nl 3 ++ octP 3 7) ++ [10] = _
  rw [oct_none, oct_65, oct_66, oct_10, oct_3]
  decide
theorem join_one : joinP 1 1 58 (txs [{ data := #[97, 58, 49] }, { data := #[98, 58, 50] }, { data := #[98, 58, 51] }]) (txs [{ data := #[98, 58, 120] }, { data := #[99, 58, 121] }]) = ([[98, 58, 50, 58, 120], [98, 58, 51, 58, 120]], 0) := by decide +kernel
theorem join_two : joinP 1 1 58 (txs [{ data := #[98] }, { data := #[97] }]) (txs []) = ([], 1) := by decide +kernel
theorem paste_one : pasteP (txl [[{ data := #[97] }, { data := #[98] }, { data := #[99] }], [{ data := #[49] }, { data := #[50] }]]) [58] = [[97, 58, 49], [98, 58, 50], [99, 58]] := by decide +kernel
theorem ll_two (w : World) (A B : List ByteArray) : LL (((w.alloc (.cells (A.map Value.string).toArray 9)).alloc (.cells (B.map Value.string).toArray 9)).alloc (.cells #[.slice (some ⟨w.heap.size, 0, none⟩) A.length A.length, .slice (some ⟨w.heap.size + 1, 0, none⟩) B.length B.length] 25)) (some ⟨w.heap.size + 1 + 1, 0, none⟩) 2 [A, B] := by
  have h3 := heap_alloc_new ((w.alloc (.cells (A.map Value.string).toArray 9)).alloc (.cells (B.map Value.string).toArray 9)) (.cells #[.slice (some ⟨w.heap.size, 0, none⟩) A.length A.length, .slice (some ⟨w.heap.size + 1, 0, none⟩) B.length B.length] 25)
  rw [World.size_alloc, World.size_alloc] at h3
  have hA : Tx (((w.alloc (.cells (A.map Value.string).toArray 9)).alloc (.cells (B.map Value.string).toArray 9)).alloc (.cells #[.slice (some ⟨w.heap.size, 0, none⟩) A.length A.length, .slice (some ⟨w.heap.size + 1, 0, none⟩) B.length B.length] 25)) (some ⟨w.heap.size, 0, none⟩) A.length A.length A :=
    ((Pa.tx_lit w A 9).below ((Below.refl _ _).alloc (Nat.le_refl _) _)).below ((Below.refl _ _).alloc (Nat.le_refl _) _)
  have hB := (Pa.tx_lit (w.alloc (.cells (A.map Value.string).toArray 9)) B 9).below ((Below.refl _ _).alloc (Nat.le_refl _) (.cells #[.slice (some ⟨w.heap.size, 0, none⟩) A.length A.length, .slice (some ⟨w.heap.size + 1, 0, none⟩) B.length B.length] 25))
  rw [World.size_alloc] at hB
  refine ⟨rfl, .inr ⟨w.heap.size + 1 + 1, 0, rfl, by simp, fun i hi => ?_⟩⟩
  match i, hi with
  | 0, _ => exact ⟨_, _, _, by rw [Lib.cell_of_heap h3]; rfl, hA⟩
  | 1, _ => exact ⟨_, _, _, by rw [Lib.cell_of_heap h3]; rfl, hB⟩

set_option maxRecDepth 100000 in
set_option maxHeartbeats 2000000 in
theorem alive_any (w : World) (hT : Tz w) : Calls Tryd.prog 16 #[] w fun e w' => e = .returned (.bool true) ∧ Below w.heap.size w w' := by
  have C1 : Hid (∀ W, Calls Tryd.prog 64 #[.string { data := #[97, 10, 98] }, .string { data := #[97, 10, 99] }] W fun e w' => e = .returned (.tuple #[.int .i64 3, .int .i64 2, .int .i64 0]) ∧ Below W.heap.size W w') := fun W => by
    have := cmp_any { data := #[97, 10, 98] } { data := #[97, 10, 99] } W (by decide) (by decide)
    rw [show cmpP (bs { data := #[97, 10, 98] }) (bs { data := #[97, 10, 99] }) = (3, 2, 0) by decide] at this
    exact this
  have C2 : Hid (∀ W, Calls Tryd.prog 64 #[.string { data := #[97, 98] }, .string { data := #[97, 98, 99] }] W fun e w' => e = .returned (.tuple #[.int .i64 0, .int .i64 0, .int .i64 1]) ∧ Below W.heap.size W w') := fun W => by
    have := cmp_any { data := #[97, 98] } { data := #[97, 98, 99] } W (by decide) (by decide)
    rw [show cmpP (bs { data := #[97, 98] }) (bs { data := #[97, 98, 99] }) = (0, 0, 1) by decide] at this
    exact this
  go_enter Tryd.func16, Tryd.ntmps16
  go_wp2_with fail
  refine (unhide C1 _).mono ?_
  rintro e w1 ⟨rfl, b1⟩
  have B1 := hide b1
  clear b1 C1
  go_wp2_with fail
  refine (unhide C2 _).mono ?_
  rintro e w2 ⟨rfl, b2⟩
  have B2 := hide ((unhide B1).trans (b2.mono (unhide B1).size))
  clear b2 B1 C2
  go_wp2_with fail
  have P3 := paste_any (some ⟨w2.heap.size + 1 + 1, 0, none⟩) 2 2 [[{ data := #[97] }, { data := #[98] }, { data := #[99] }], [{ data := #[49] }, { data := #[50] }]] { data := #[58] } _ (ll_two w2 [{ data := #[97] }, { data := #[98] }, { data := #[99] }] [{ data := #[49] }, { data := #[50] }]) (by decide) (by decide) (by decide) (by decide)
  rw [show bs { data := #[58] } = [58] from rfl, paste_one] at P3
  refine P3.mono ?_
  clear P3
  rintro e w3 ⟨v3, rfl, hO3, b3⟩
  have B3 : Hid (Below w.heap.size w w3) := ((((unhide B2).alloc (unhide B2).size _).alloc (by simp; have := (unhide B2).size; omega) _).alloc (by simp; have := (unhide B2).size; omega) _).trans (b3.mono (by simp; have := (unhide B2).size; omega))
  obtain ⟨a3, c3, rfl, hT3⟩ := tx_row hO3
  have T3 := hide hT3
  clear hO3 b3 B2 hT3
  go_wp2_with fail
  have tA := (Pa.tx_lit w3 [{ data := #[97, 58, 49] }, { data := #[98, 58, 50] }, { data := #[98, 58, 51] }] 9).below ((Below.refl _ _).alloc (Nat.le_refl _) (.cells #[.string { data := #[98, 58, 120] }, .string { data := #[99, 58, 121] }] 9))
  have tB := Pa.tx_lit (w3.alloc (.cells #[.string { data := #[97, 58, 49] }, .string { data := #[98, 58, 50] }, .string { data := #[98, 58, 51] }] 9)) [{ data := #[98, 58, 120] }, { data := #[99, 58, 121] }] 9
  rw [World.size_alloc] at tB
  have J1 := join_any _ _ 3 2 3 2 3 2 [{ data := #[97, 58, 49] }, { data := #[98, 58, 50] }, { data := #[98, 58, 51] }] [{ data := #[98, 58, 120] }, { data := #[99, 58, 121] }] 1 1 58 _ tA tB (by decide) (by decide) (by decide) (by decide) (by decide) (by decide) (by decide) (by decide) (by decide)
  rw [join_one] at J1
  clear tA tB
  refine J1.mono ?_
  clear J1
  rintro e w4 ⟨v4, rfl, hO4, b4⟩
  have hw43 : Below w3.heap.size w3 w4 := (((Below.refl _ w3).alloc (Nat.le_refl _) _).alloc (by simp) _).trans (b4.mono (by simp; omega))
  have B4 : Hid (Below w.heap.size w w4) := (unhide B3).trans (hw43.mono (unhide B3).size)
  have T3 := hide ((unhide T3).below hw43)
  obtain ⟨a4, c4, rfl, hT4⟩ := tx_row hO4
  have T4 := hide hT4
  clear hO4 b4 B3 hT4 hw43
  go_wp2_with fail
  have J2 := join_any (some ⟨w4.heap.size, 0, none⟩) none 2 0 2 0 2 0 [{ data := #[98] }, { data := #[97] }] [] 1 1 58 _ (Pa.tx_lit w4 [{ data := #[98] }, { data := #[97] }] 9) (Pa.tx_nil _) (by decide) (by decide) (by decide) (by decide) (by decide) (by decide) (by decide) (by decide) (by decide)
  rw [join_two] at J2
  refine J2.mono ?_
  clear J2
  rintro e w5 ⟨v5, rfl, hO5, b5⟩
  have hw54 : Below w4.heap.size w4 w5 := ((Below.refl _ w4).alloc (Nat.le_refl _) _).trans (b5.mono (by simp))
  have B5 : Hid (Below w.heap.size w w5) := (unhide B4).trans (hw54.mono (unhide B4).size)
  have T3 := hide ((unhide T3).below hw54)
  have T4 := hide ((unhide T4).below hw54)
  clear hO5 b5 B4 hw54
  go_wp2_with fail
  refine (Pa.sameTexts_any a3 _ 3 c3 3 c3 3 [bt [97, 58, 49], bt [98, 58, 50], bt [99, 58]] _ (by decide) ((unhide T3).below ((Below.refl _ w5).alloc (Nat.le_refl _) _)) (by exact Pa.tx_lit w5 [bt [97, 58, 49], bt [98, 58, 50], bt [99, 58]] 9)).mono ?_
  rintro e w6 ⟨rfl, b6⟩
  have hw65 : Below w5.heap.size w5 w6 := ((Below.refl _ w5).alloc (Nat.le_refl _) _).trans (b6.mono (by simp))
  have B6 : Hid (Below w.heap.size w w6) := (unhide B5).trans (hw65.mono (unhide B5).size)
  have T4 := hide ((unhide T4).below hw65)
  clear b6 B5 hw65 T3
  go_wp2_with fail
  refine (Pa.sameTexts_any a4 _ 2 c4 2 c4 2 [bt [98, 58, 50, 58, 120], bt [98, 58, 51, 58, 120]] _ (by decide) ((unhide T4).below ((Below.refl _ w6).alloc (Nat.le_refl _) _)) (by exact Pa.tx_lit w6 [bt [98, 58, 50, 58, 120], bt [98, 58, 51, 58, 120]] 9)).mono ?_
  rintro e w7 ⟨rfl, b7⟩
  have hw76 : Below w6.heap.size w6 w7 := ((Below.refl _ w6).alloc (Nat.le_refl _) _).trans (b7.mono (by simp))
  have B7 : Hid (Below w.heap.size w w7) := (unhide B6).trans (hw76.mono (unhide B6).size)
  clear b7 B6 hw76 T4
  have S1 : Hid (∀ W, Calls Tryd.prog 65 #[.string { data := #[] }] W fun e w' => e = .returned (.int .u32 4294967295) ∧ Below W.heap.size W w') := fun W => by
    have := sum_any { data := #[] } W (by decide)
    rw [show bs { data := #[] } = [] from rfl, sum_none] at this
    exact this
  have S2 : Hid (∀ W, Calls Tryd.prog 65 #[.string { data := #[49, 50, 51, 52, 53, 54, 55, 56, 57] }] W fun e w' => e = .returned (.int .u32 930766865) ∧ Below W.heap.size W w') := fun W => by
    have := sum_any { data := #[49, 50, 51, 52, 53, 54, 55, 56, 57] } W (by decide)
    rw [show bs { data := #[49, 50, 51, 52, 53, 54, 55, 56, 57] } = [49, 50, 51, 52, 53, 54, 55, 56, 57] from rfl, sum_nine] at this
    exact this
  have D1 : Hid (∀ W, Below w.heap.size w W → Calls Tryd.prog 20 #[.string { data := #[65, 66, 10] }] W fun e w' => e = .returned (.string { data := #[48, 48, 48, 48, 48, 48, 48, 32, 49, 48, 49, 32, 49, 48, 50, 32, 48, 49, 50, 10, 48, 48, 48, 48, 48, 48, 51, 10] }) ∧ Below W.heap.size W w') := fun W hW => by
    have := dump_any { data := #[65, 66, 10] } W (by decide) (hT.below hW)
    rw [show bs { data := #[65, 66, 10] } = [65, 66, 10] from rfl, dump_ab] at this
    exact this
  go_wp2_with fail
  refine (unhide S1 _).mono ?_
  rintro e w8 ⟨rfl, b8⟩
  have B8 := hide ((unhide B7).trans (b8.mono (unhide B7).size))
  clear b8 B7 S1
  go_wp2_with fail
  refine (unhide S2 _).mono ?_
  rintro e w9 ⟨rfl, b9⟩
  have B9 := hide ((unhide B8).trans (b9.mono (unhide B8).size))
  clear b9 B8 S2
  go_wp2_with fail
  refine (unhide D1 _ (unhide B9)).mono ?_
  rintro e w10 ⟨rfl, b10⟩
  have B10 := hide ((unhide B9).trans (b10.mono (unhide B9).size))
  clear b10 B9 D1
  go_wp2_with fail
  go_ret
  exact ⟨rfl, unhide B10⟩
end Go.Proofs.YtjkajhnnoecjbaaDoor.Vw
