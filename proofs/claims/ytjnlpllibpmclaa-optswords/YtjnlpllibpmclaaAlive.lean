/- alive answers true. -/
import Derived.Test.YtjnlpllibpmclaaParseIs
import Derived.Test.YtjnlpllibpmclaaNumOpts
namespace Go.Proofs.Ytjnlpllibpmclaa.Pa
open Go.RowKit

theorem p1 : parse { data := #[97, 110, 58] } [{ data := #[45, 97, 110] }, { data := #[53] }, { data := #[45, 45] }, { data := #[45, 97] }] = ([(97, ByteArray.empty), (110, { data := #[53] })], [{ data := #[45, 97] }], 0) := by kernel_rfl
theorem p2 : parse { data := #[97, 110, 58] } [{ data := #[45, 97] }, { data := #[45, 110, 53] }, { data := #[120] }, { data := #[45, 97] }] = ([(97, ByteArray.empty), (110, { data := #[53] })], [{ data := #[120] }, { data := #[45, 97] }], 0) := by kernel_rfl
theorem p3 : parse { data := #[97, 110, 58] } [{ data := #[45, 98] }] = ([], [], 4) := by kernel_rfl
theorem p4 : parse { data := #[97, 97] } [] = ([], [], 1) := by kernel_rfl
theorem n1 : NumWalks.numAns { data := #[45, 48, 48, 55] } = .tuple #[.int .i64 (-7), .bool true] := by kernel_rfl

theorem tx_lit (w : World) (l : List ByteArray) (e : TypeId) : Tx (w.alloc (.cells (l.map Value.string).toArray e)) (some ⟨w.heap.size, 0, none⟩) l.length l.length l := by
  refine ⟨rfl, Nat.le_refl _, by simp, .inr ⟨w.heap.size, 0, rfl, by simp, fun i hi => ?_⟩⟩
  rw [Nat.zero_add, cell_of_row _ _ _ _ _ _ (heap_alloc_new w _)]
  simp [List.getD, List.getElem?_eq_getElem hi]
theorem tx_nil (w : World) : Tx w none 0 0 [] := ⟨rfl, Nat.le_refl _, fun _ => ⟨rfl, rfl⟩, .inl rfl⟩
theorem fx_lit (w : World) (fl : Fl) (e : TypeId) : Fx (w.alloc (.cells (fcl fl).toArray e)) (some ⟨w.heap.size, 0, none⟩) fl.length fl := by
  refine ⟨rfl, .inr ⟨w.heap.size, 0, rfl, by simp, fun i hi => ?_⟩⟩
  obtain ⟨h1, h2⟩ := fcl_get fl i hi
  rw [Nat.zero_add, cell_of_row _ _ _ _ _ _ (heap_alloc_new w _), cell_of_row _ _ _ _ _ _ (heap_alloc_new w _)]
  exact ⟨by simpa using h1, by simpa using h2⟩
theorem small_mem (l : List ByteArray) (h : tot l ≤ 4194304) : ∀ s ∈ l, s.size ≤ maxLen := by
  induction l with
  | nil => intro s hs; simp at hs
  | cons x l ih =>
    simp only [tot] at h
    intro s hs
    rcases List.mem_cons.1 hs with rfl | hs
    · unfold maxLen; omega
    · exact ih (by omega) s hs

set_option maxHeartbeats 1000000 in
set_option maxRecDepth 100000 in
theorem alive_any (w : World) : Calls Try.prog 9 #[] w fun e w' => e = .returned (.bool true) ∧ Below w.heap.size w w' := by
  go_enter Try.func9, Try.ntmps9
  go_wp2_with fail
  refine (parse_is p1 _ _ _ _ (by exact tx_lit _ [{ data := #[45, 97, 110] }, { data := #[53] }, { data := #[45, 45] }, { data := #[45, 97] }] _) (by decide) (by decide) (small_mem _ (by decide)) (fun _ => by decide)).mono ?_
  rintro e w1 ⟨⟨af1, cf1, at1, ct1, rfl, hF, hT⟩, hb⟩
  have hB1 : Below w.heap.size w w1 := ((Below.refl _ _).alloc (Nat.le_refl _) _).trans (hb.mono (by simp))
  clear hb
  have HF1 : Hid (Fx w1 af1 2 [(97, ByteArray.empty), (110, { data := #[53] })]) := hF
  have HT1 : Hid (Tx w1 at1 1 ct1 [{ data := #[45, 97] }]) := hT
  clear hF hT
  go_wp2_with fail
  refine (parse_is p2 _ _ _ _ (by exact tx_lit _ [{ data := #[45, 97] }, { data := #[45, 110, 53] }, { data := #[120] }, { data := #[45, 97] }] _) (by decide) (by decide) (small_mem _ (by decide)) (fun _ => by decide)).mono ?_
  rintro e w2 ⟨⟨af2, cf2, at2, ct2, rfl, hF, hT⟩, hb⟩
  have hb' : Below w1.heap.size w1 w2 := ((Below.refl _ _).alloc (Nat.le_refl _) _).trans (hb.mono (by simp))
  have hB2 : Below w.heap.size w w2 := hB1.trans (hb'.mono hB1.size)
  have HF1' : Hid (Fx w2 af1 2 [(97, ByteArray.empty), (110, { data := #[53] })]) := (unhide HF1).below hb'
  have HT1' : Hid (Tx w2 at1 1 ct1 [{ data := #[45, 97] }]) := (unhide HT1).below hb'
  have HF2 : Hid (Fx w2 af2 2 [(97, ByteArray.empty), (110, { data := #[53] })]) := hF
  have HT2 : Hid (Tx w2 at2 2 ct2 [{ data := #[120] }, { data := #[45, 97] }]) := hT
  clear hb hb' hF hT HF1 HT1 hB1
  go_wp2_with fail
  refine (parse_is p3 _ _ _ _ (by exact tx_lit _ [{ data := #[45, 98] }] _) (by decide) (by decide) (small_mem _ (by decide)) (fun _ => by decide)).mono ?_
  rintro e w3 ⟨⟨af3, cf3, at3, ct3, rfl, hF, hT⟩, hb⟩
  have hb' : Below w2.heap.size w2 w3 := ((Below.refl _ _).alloc (Nat.le_refl _) _).trans (hb.mono (by simp))
  have hB3 : Below w.heap.size w w3 := hB2.trans (hb'.mono hB2.size)
  clear hb hF hT
  go_wp2_with fail
  refine (parse_is p4 _ _ _ _ (tx_nil _) (by decide) (by decide) (small_mem _ (by decide)) (fun _ => by decide)).mono ?_
  rintro e w4 ⟨⟨af4, cf4, at4, ct4, rfl, hF, hT⟩, hb⟩
  have hb'' : Below w2.heap.size w2 w4 := hb'.trans (hb.mono hb'.size)
  have hB4 : Below w.heap.size w w4 := hB2.trans (hb''.mono hB2.size)
  have HF1 : Hid (Fx w4 af1 2 [(97, ByteArray.empty), (110, { data := #[53] })]) := (unhide HF1').below hb''
  have HT1 : Hid (Tx w4 at1 1 ct1 [{ data := #[45, 97] }]) := (unhide HT1').below hb''
  have HF2' : Hid (Fx w4 af2 2 [(97, ByteArray.empty), (110, { data := #[53] })]) := (unhide HF2).below hb''
  have HT2' : Hid (Tx w4 at2 2 ct2 [{ data := #[120] }, { data := #[45, 97] }]) := (unhide HT2).below hb''
  clear hb hb' hb'' hF hT HF1' HT1' HF2 HT2 hB2 hB3
  go_wp2_with fail
  refine (NumWalks.number_any _ _ (by decide)).mono ?_
  rintro e w5 ⟨rfl, rfl⟩
  rw [n1]
  go_wp2_with fail
  have hal : ∀ o, Below w5.heap.size w5 (w5.alloc o) := fun o => (Below.refl _ _).alloc (Nat.le_refl _) o
  refine (sameFlags_any _ _ 2 _ _ [(97, ByteArray.empty), (110, { data := #[53] })] _ (by decide) ((unhide HF1).below (hal _)) (by exact fx_lit _ [(97, ByteArray.empty), (110, { data := #[53] })] _)).mono ?_
  rintro e w6 ⟨rfl, hb⟩
  have hb6 : Below w5.heap.size w5 w6 := (hal _).trans (hb.mono (by simp))
  have hB6 : Below w.heap.size w w6 := hB4.trans (hb6.mono hB4.size)
  have HF1' : Hid (Fx w6 af1 2 [(97, ByteArray.empty), (110, { data := #[53] })]) := (unhide HF1).below hb6
  have HT1' : Hid (Tx w6 at1 1 ct1 [{ data := #[45, 97] }]) := (unhide HT1).below hb6
  have HF2 : Hid (Fx w6 af2 2 [(97, ByteArray.empty), (110, { data := #[53] })]) := (unhide HF2').below hb6
  have HT2 : Hid (Tx w6 at2 2 ct2 [{ data := #[120] }, { data := #[45, 97] }]) := (unhide HT2').below hb6
  clear hb hb6 hal HF1 HT1 HF2' HT2' hB4
  go_wp2_with fail
  refine (sameFlags_any _ _ 2 _ _ [(97, ByteArray.empty), (110, { data := #[53] })] _ (by decide) (unhide HF2) (unhide HF1')).mono ?_
  rintro e w7 ⟨rfl, hb7⟩
  have hB7 : Below w.heap.size w w7 := hB6.trans (hb7.mono hB6.size)
  have HT1 : Hid (Tx w7 at1 1 ct1 [{ data := #[45, 97] }]) := (unhide HT1').below hb7
  have HT2' : Hid (Tx w7 at2 2 ct2 [{ data := #[120] }, { data := #[45, 97] }]) := (unhide HT2).below hb7
  clear hb7 HF1' HT1' HF2 HT2 hB6
  have hal : ∀ o, Below w7.heap.size w7 (w7.alloc o) := fun o => (Below.refl _ _).alloc (Nat.le_refl _) o
  go_wp2_with fail
  refine (sameTexts_any _ _ 1 _ _ ct1 1 [{ data := #[45, 97] }] _ (by decide) ((unhide HT1).below (hal _)) (by exact tx_lit _ [{ data := #[45, 97] }] _)).mono ?_
  rintro e w8 ⟨rfl, hb⟩
  have hb8 : Below w7.heap.size w7 w8 := (hal _).trans (hb.mono (by simp))
  have hB8 : Below w.heap.size w w8 := hB7.trans (hb8.mono hB7.size)
  have HT2 : Hid (Tx w8 at2 2 ct2 [{ data := #[120] }, { data := #[45, 97] }]) := (unhide HT2').below hb8
  clear hb hb8 hal HT1 HT2' hB7
  have hal : ∀ o, Below w8.heap.size w8 (w8.alloc o) := fun o => (Below.refl _ _).alloc (Nat.le_refl _) o
  go_wp2_with fail
  refine (sameTexts_any _ _ 2 _ _ ct2 2 [{ data := #[120] }, { data := #[45, 97] }] _ (by decide) ((unhide HT2).below (hal _)) (by exact tx_lit _ [{ data := #[120] }, { data := #[45, 97] }] _)).mono ?_
  rintro e w9 ⟨rfl, hb⟩
  have hB9 : Below w.heap.size w w9 := hB8.trans (((hal _).trans (hb.mono (by simp))).mono hB8.size)
  clear hb hal HT2 hB8
  go_wp2_with fail
  go_ret
  exact ⟨rfl, hB9⟩
end Go.Proofs.Ytjnlpllibpmclaa.Pa
