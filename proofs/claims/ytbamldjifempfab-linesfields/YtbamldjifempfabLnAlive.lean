/- alive answers true. -/
import Derived.Test.YtbamldjifempfabLnFields
import Derived.Test.YtbamldjifempfabLnCount
import Derived.Test.YtbamldjifempfabTexts
namespace Go.Proofs.Ytbamldjifempfab.Ln
open Go.RowKit Go.Shelf Pa

/-- the lines of a text, as texts -/
def linesB (s : ByteArray) : List ByteArray := (parts isEnd s.data.toList).map fun q => bt q.1
def fieldsB (sep : Nat) (s : ByteArray) : List ByteArray := (fieldsL sep s.data.toList).map bt
theorem linesB_len (s : ByteArray) : (linesB s).length = (parts isEnd s.data.toList).length := by simp [linesB]
theorem own_tx {w : World} {base : Nat} {v : Value} {ss : List ByteArray} {n : Nat} {xs : List Value} (h : w.ownsRow base 9 1 v n xs) (hn : n = ss.length) (hx : xs = ss.map Value.string) : ∃ a cap, v = .slice a ss.length cap ∧ Tx w a ss.length cap ss := by
  subst hn hx; exact tx_of_owns h

theorem split_tx (s : ByteArray) (w : World) (hs : s.size ≤ 1073741824) :
    Calls Try.prog 9 #[.string s] w fun e w' => ∃ a cap, e = .returned (.tuple #[.slice a (linesB s).length cap, .bool (lastB (parts isEnd s.data.toList))]) ∧ Tx w' a (linesB s).length cap (linesB s) ∧ Below w.heap.size w w' := by
  refine (split_any s w hs).mono ?_
  rintro e w' ⟨v, rfl, hO, hB⟩
  obtain ⟨a, cap, rfl, hT⟩ := own_tx (ss := linesB s) hO (linesB_len s).symm (by simp [strs, linesB])
  exact ⟨a, cap, rfl, hT, hB⟩
theorem fields_tx (s : ByteArray) (sep : Nat) (w : World) (hs : s.size ≤ 1073741824) (hsep : sep < 256) :
    Calls Try.prog 15 #[.string s, .int .u8 sep] w fun e w' => ∃ a cap, e = .returned (.slice a (fieldsB sep s).length cap) ∧ Tx w' a (fieldsB sep s).length cap (fieldsB sep s) ∧ Below w.heap.size w w' := by
  refine (fields_any s sep w hs hsep).mono ?_
  rintro e w' ⟨v, rfl, hO, hB⟩
  obtain ⟨a, cap, rfl, hT⟩ := own_tx (ss := fieldsB sep s) hO (by simp [fieldsB]) (by simp [strs1, fieldsB])
  exact ⟨a, cap, rfl, hT, hB⟩
theorem split_is {s : ByteArray} {ss : List ByteArray} {b : Bool} (h1 : linesB s = ss) (h2 : lastB (parts isEnd s.data.toList) = b) (w : World) (hs : s.size ≤ 1073741824) :
    Calls Try.prog 9 #[.string s] w fun e w' => ∃ a cap, e = .returned (.tuple #[.slice a ss.length cap, .bool b]) ∧ Tx w' a ss.length cap ss ∧ Below w.heap.size w w' := by
  subst h1 h2; exact split_tx s w hs
theorem fields_is {s : ByteArray} {sep : Nat} {ss : List ByteArray} (h1 : fieldsB sep s = ss) (w : World) (hs : s.size ≤ 1073741824) (hsep : sep < 256) :
    Calls Try.prog 15 #[.string s, .int .u8 sep] w fun e w' => ∃ a cap, e = .returned (.slice a ss.length cap) ∧ Tx w' a ss.length cap ss ∧ Below w.heap.size w w' := by
  subst h1; exact fields_tx s sep w hs hsep

theorem a1 : linesB { data := #[97, 10, 10, 98] } = [{ data := #[97] }, { data := #[] }, { data := #[98] }] := by kernel_rfl
theorem a2 : lastB (parts isEnd ({ data := #[97, 10, 10, 98] } : ByteArray).data.toList) = false := by kernel_rfl
theorem a3 : countAns { data := #[97, 98, 32, 99, 10, 100] } = .tuple #[.int .i64 1, .int .i64 3, .int .i64 6, .int .i64 4] := by kernel_rfl
theorem a4 : fieldsB 58 { data := #[97, 58, 58, 98, 58] } = [{ data := #[97] }, { data := #[] }, { data := #[98] }, { data := #[] }] := by kernel_rfl
theorem a5 : fieldsB 0 { data := #[32, 97, 32, 32, 98] } = [{ data := #[97] }, { data := #[98] }] := by kernel_rfl
theorem a6 : bt (({ data := #[97, 10, 98, 10, 99] } : ByteArray).data.toList.take (reachN ({ data := #[97, 10, 98, 10, 99] } : ByteArray).data.toList 2)) = { data := #[97, 10, 98, 10] } := by kernel_rfl
theorem a7 : bt (({ data := #[97, 10, 98, 10, 99] } : ByteArray).data.toList.drop (reachN ({ data := #[97, 10, 98, 10, 99] } : ByteArray).data.toList (((parts isEnd ({ data := #[97, 10, 98, 10, 99] } : ByteArray).data.toList).length : Int) - max 2 0))) = { data := #[98, 10, 99] } := by kernel_rfl

set_option maxRecDepth 100000 in
set_option maxHeartbeats 2000000 in
theorem alive_any (w : World) : Calls Try.prog 7 #[] w fun e w' => e = .returned (.bool true) ∧ Below w.heap.size w w' := by
  have C1 := hide (split_is a1 a2 w (by decide))
  go_enter Try.func7, Try.ntmps7
  go_wp2_with fail
  refine (unhide C1).mono ?_
  rintro e w1 ⟨p1, c1, rfl, hT, hB1⟩
  have HT1 : Hid (Tx w1 p1 3 c1 [{ data := #[97] }, { data := #[] }, { data := #[98] }]) := hT
  clear hT C1
  have C2 : Hid (Calls Try.prog 16 #[.string { data := #[97, 98, 32, 99, 10, 100] }] w1 fun e w' => e = .returned (.tuple #[.int .i64 1, .int .i64 3, .int .i64 6, .int .i64 4]) ∧ Below w1.heap.size w1 w') := a3 ▸ count_any _ w1 (by decide)
  go_wp2_with fail
  refine (unhide C2).mono ?_
  rintro e w2 ⟨rfl, hb2⟩
  have hB2 : Below w.heap.size w w2 := hB1.trans (hb2.mono hB1.size)
  have HT2 := hide ((unhide HT1).below hb2)
  clear C2 HT1 hB1 hb2
  go_wp2_with fail
  refine (sameTexts_any p1 (some ⟨w2.heap.size, 0, none⟩) 3 c1 3 c1 3 [{ data := #[97] }, { data := #[] }, { data := #[98] }] _ (by decide) ((unhide HT2).below ((Below.refl _ _).alloc (Nat.le_refl _) _)) (by exact tx_lit w2 [{ data := #[97] }, { data := #[] }, { data := #[98] }] _)).mono ?_
  rintro e w3 ⟨rfl, hb3⟩
  have hB3 : Below w.heap.size w w3 := (hB2.alloc hB2.size _).trans (hb3.mono (by have := hB2.size; simp; omega))
  clear HT2 hB2 hb3
  have C4 := hide (fields_is a4 w3 (by decide) (by decide))
  go_wp2_with fail
  refine (unhide C4).mono ?_
  rintro e w4 ⟨p4, c4, rfl, hT, hb4⟩
  have HT4 : Hid (Tx w4 p4 4 c4 [{ data := #[97] }, { data := #[] }, { data := #[98] }, { data := #[] }]) := hT
  have hB4 : Below w.heap.size w w4 := hB3.trans (hb4.mono hB3.size)
  clear hT C4 hB3 hb4
  go_wp2_with fail
  refine (sameTexts_any p4 (some ⟨w4.heap.size, 0, none⟩) 4 c4 4 c4 4 [{ data := #[97] }, { data := #[] }, { data := #[98] }, { data := #[] }] _ (by decide) ((unhide HT4).below ((Below.refl _ _).alloc (Nat.le_refl _) _)) (by exact tx_lit w4 [{ data := #[97] }, { data := #[] }, { data := #[98] }, { data := #[] }] _)).mono ?_
  rintro e w5 ⟨rfl, hb5⟩
  have hB5 : Below w.heap.size w w5 := (hB4.alloc hB4.size _).trans (hb5.mono (by have := hB4.size; simp; omega))
  clear HT4 hB4 hb5
  have C6 := hide (fields_is a5 w5 (by decide) (by decide))
  go_wp2_with fail
  refine (unhide C6).mono ?_
  rintro e w6 ⟨p6, c6, rfl, hT, hb6⟩
  have HT6 : Hid (Tx w6 p6 2 c6 [{ data := #[97] }, { data := #[98] }]) := hT
  have hB6 : Below w.heap.size w w6 := hB5.trans (hb6.mono hB5.size)
  clear hT C6 hB5 hb6
  go_wp2_with fail
  refine (sameTexts_any p6 (some ⟨w6.heap.size, 0, none⟩) 2 c6 2 c6 2 [{ data := #[97] }, { data := #[98] }] _ (by decide) ((unhide HT6).below ((Below.refl _ _).alloc (Nat.le_refl _) _)) (by exact tx_lit w6 [{ data := #[97] }, { data := #[98] }] _)).mono ?_
  rintro e w7 ⟨rfl, hb7⟩
  have hB7 : Below w.heap.size w w7 := (hB6.alloc hB6.size _).trans (hb7.mono (by have := hB6.size; simp; omega))
  clear HT6 hB6 hb7
  have C8 : Hid (Calls Try.prog 10 #[.string { data := #[97, 10, 98, 10, 99] }, .int .i64 2] w7 fun e w' => e = .returned (.string { data := #[97, 10, 98, 10] }) ∧ Below w7.heap.size w7 w') := a6 ▸ head_any _ 2 w7 (by decide) (by decide) (by decide)
  go_wp2_with fail
  refine (unhide C8).mono ?_
  rintro e w8 ⟨rfl, hb8⟩
  have hB8 : Below w.heap.size w w8 := hB7.trans (hb8.mono hB7.size)
  clear C8 hB7 hb8
  have C9 : Hid (Calls Try.prog 11 #[.string { data := #[97, 10, 98, 10, 99] }, .int .i64 2] w8 fun e w' => e = .returned (.string { data := #[98, 10, 99] }) ∧ Below w8.heap.size w8 w') := a7 ▸ tail_any _ 2 w8 (by decide) (by decide) (by decide)
  go_wp2_with fail
  refine (unhide C9).mono ?_
  rintro e w9 ⟨rfl, hb9⟩
  have hB9 : Below w.heap.size w w9 := hB8.trans (hb9.mono hB8.size)
  clear C9 hB8 hb9
  go_wp2_with fail
  go_ret
  exact ⟨rfl, hB9⟩

end Go.Proofs.Ytbamldjifempfab.Ln
