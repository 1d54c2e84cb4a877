/- Numbers in octal: what FormatInt at base 8 answers; octal. -/
import Derived.Test.YtjkajhnnoecjbaaDoorVwOctP
import Derived.Test.YtjkajhnnoecjbaaDoorVwArr
import Derived.Test.YtjkajhnnoecjbaaDoorVwShelf
import Derived.Lib.LaidTab
import Derived.Lib.MinMax
import Derived.OwnWalk
import Derived.Laws.IdiomStrings
set_option linter.unusedVariables false
namespace Go.Proofs.YtjkajhnnoecjbaaDoor.Vw
open Go.RowKit Go.Shelf Cu

/-- the table by which the lowest bit is found -/
def dbt : List Int := [0, 1, 56, 2, 57, 49, 28, 3, 61, 58, 42, 50, 38, 29, 17, 4, 62, 47, 59, 36, 45, 43, 51, 22, 53, 39, 33, 30, 24, 18, 12, 5, 63, 55, 48, 27, 60, 41, 37, 16, 46, 35, 44, 21, 52, 32, 23, 11, 54, 26, 40, 15, 34, 20, 31, 10, 25, 14, 19, 9, 13, 8, 7, 6]
abbrev Tz (w : World) : Prop := Lib.TabIs Tryd.prog w "math/bits.deBruijn64tab" .u8 dbt
theorem Tryd.tzAt : Tryd.prog.globalNamed "math/bits.deBruijn64tab" = some 3 := by kernel_rfl
theorem Tz.cells {w : World} (h : Tz w) : w.cell? ⟨3, 7, none⟩ = some (.int .u8 3) ∧ 3 < w.heap.size := by
  unfold Tz Lib.TabIs World.var? at h
  rw [Tryd.tzAt] at h
  simp only [Option.bind_some] at h
  cases hg : w.heap[3]? with
  | none => rw [hg] at h; cases h
  | some o =>
    rw [hg] at h
    cases o with
    | cells cs t fr =>
      simp only [Option.some.injEq] at h
      refine ⟨?_, (Array.getElem?_eq_some_iff.1 hg).1⟩
      rw [Lib.cell_of_heap hg, h]
      rfl
    | _ => cases h
theorem Tz.below {w w' : World} (h : Tz w) (hb : Below w.heap.size w w') : Tz w' := by
  have hlt := h.cells.2
  unfold Tz Lib.TabIs World.var? at h ⊢
  rw [Tryd.tzAt] at h ⊢
  simp only [Option.bind_some] at h ⊢
  rw [hb.block _ hlt]
  exact h

set_option maxHeartbeats 400000 in
theorem pow8_any (w : World) : Calls Tryd.prog 154 #[.int .i64 8] w fun e w' => e = .returned (.bool true) ∧ w' = w := by
  have hb : bits .and .i64 8 7 = 0 := by decide
  go_enter Tryd.func154, Tryd.ntmps154
  go_wp2
  go_ret
  exact ⟨rfl, rfl⟩
set_option maxHeartbeats 400000 in
theorem tz64_any (w : World) (h : w.cell? ⟨3, 7, none⟩ = some (.int .u8 3)) : Calls Tryd.prog 160 #[.int .u64 8] w fun e w' => e = .returned (.int .i64 3) ∧ w' = w := by
  have hb : bits .and .u64 8 (IntKind.u64.wrap (-8)) = 8 := by decide
  have hw : IntKind.u64.wrap 2286961704410830920 = 2286961704410830920 := by decide
  go_enter Tryd.func160, Tryd.ntmps160
  go_wp2
  go_ret
  exact ⟨rfl, rfl⟩
set_option maxHeartbeats 400000 in
theorem tz_any (w : World) (h : w.cell? ⟨3, 7, none⟩ = some (.int .u8 3)) : Calls Tryd.prog 155 #[.int .u64 8] w fun e w' => e = .returned (.int .i64 3) ∧ w' = w := by
  have H := hide (tz64_any w h)
  go_enter Tryd.func155, Tryd.ntmps155
  go_wp2_with fail
  refine (unhide H).mono ?_
  rintro e w' ⟨rfl, rfl⟩
  go_wp2_with fail
  go_ret
  exact ⟨rfl, rfl⟩

theorem addr_add (b off j : Nat) : (⟨b, off, none⟩ : Addr).add j = ⟨b, off + j, none⟩ := by unfold Addr.add; split <;> simp_all
theorem slice_buf (g i : Nat) (hi : i < 65) (W : World) : (Instr.sliceAt 207 (.pointer (some ⟨g, 0, none⟩)) (some (.int .i64 (i : Int))) none none).run Tryd.prog W = .ok (.slice (some ⟨g, i, none⟩) (65 - i) (65 - i)) W := by
  have hlen : Tryd.prog.arrayLen 207 = 65 := by kernel_rfl
  have hel : Tryd.prog.elem 207 = 5 := by kernel_rfl
  rw [run_sliceAt_array_l W _ _ (by kernel_rfl) .i64 (i : Int) (by omega) (by rw [hlen]; omega), hel]
  simp [go_sem, slicedAt, Result.andThen, addr_add, show ¬ 65 = i by omega]
theorem digs_big (n : Nat) (h : 8 ≤ n) : digs n = digs (n / 8) ++ [dg n] := by
  rw [digs_pos n (by omega), digs_pos (n / 8) (by omega), d0_pos n (by omega)]
theorem digs_small (n : Nat) (h : n < 8) : digs n = [dg n] := by
  by_cases hn : n = 0
  · subst hn; rfl
  · rw [digs_pos n (by omega), d0_pos n (by omega), show n / 8 = 0 by omega, d0_zero]; rfl
/-- the buffer: what is told stands at its end -/
def bufC (l : Bs) : List Value := List.replicate (65 - l.length) (.int .u8 0) ++ Lib.byteCells l
def Buf (w : World) (g : Nat) (l : Bs) : Prop := w.heap[g]? = some (.cells (bufC l).toArray 207 (0, 0))
theorem Tryd.infoBuf : (Tryd.prog.info? 207).map (fun i => (i.zero, i.size)) = some (some (.agg (bufC []).toArray), 65) := by kernel_rfl
theorem bufC_len (l : Bs) (h : l.length ≤ 65) : (bufC l).length = 65 := by
  unfold bufC
  rw [List.length_append, List.length_replicate]
  simp [Lib.byteCells]; omega
theorem bufC_at (l : Bs) (j : Nat) (hl : l.length ≤ 65) (h : j < l.length) : (bufC l)[65 - l.length + j]? = some (.int .u8 (l[j].toNat : Int)) := by
  unfold bufC
  rw [List.getElem?_append_right (by simp), List.length_replicate, Nat.add_sub_cancel_left]
  simp [Lib.byteCells, List.getElem?_eq_getElem h]
theorem bufC_put (l : Bs) (c : UInt8) (h : l.length < 65) : (bufC l).set (65 - l.length - 1) (.int .u8 (c.toNat : Int)) = bufC (c :: l) := by
  unfold bufC
  rw [List.set_append_left _ _ (by simp; omega), List.length_cons, show 65 - l.length = (65 - (l.length + 1)) + 1 by omega, Nat.add_sub_cancel, List.replicate_succ']
  rw [List.set_append_right _ _ (by simp)]
  simp [Lib.byteCells]
theorem Buf.lt {w : World} {g : Nat} {l : Bs} (h : Buf w g l) : g < w.heap.size := (Array.getElem?_eq_some_iff.1 h).1
theorem Buf.cell {w : World} {g : Nat} {l : Bs} (h : Buf w g l) (hl : l.length < 65) : w.cell? ⟨g, 65 - l.length - 1, none⟩ = some (.int .u8 0) := by
  rw [Lib.cell_of_heap h, List.getElem?_toArray]
  unfold bufC
  rw [List.getElem?_append_left (by simp; omega), List.getElem?_replicate, if_pos (by omega)]
theorem Buf.frozen {w : World} {g : Nat} {l : Bs} (h : Buf w g l) (i : Nat) : w.frozen? ⟨g, i, none⟩ = false := by
  unfold Buf at h
  simp [World.frozen?, h]
theorem Buf.put {w : World} {g : Nat} {l : Bs} (h : Buf w g l) (hl : l.length < 65) (c : UInt8) : Buf (w.setCell ⟨g, 65 - l.length - 1, none⟩ (.int .u8 (c.toNat : Int))) g (c :: l) := by
  unfold Buf
  rw [heap_setCell_same _ _ _ _ _ _ h]
  congr 2
  apply Array.ext'
  rw [Array.toList_setIfInBounds]
  exact bufC_put l c hl
theorem and7 (n : Nat) : bits .and .u64 (n : Int) 7 = ((n % 8 : Nat) : Int) := by
  show IntKind.u64.wrap ((BitVec.ofInt 64 (n : Int) &&& BitVec.ofInt 64 7).toNat : Int) = _
  have h : (BitVec.ofInt 64 (n : Int) &&& BitVec.ofInt 64 7).toNat = n % 8 := by
    rw [BitVec.ofInt_natCast, BitVec.toNat_and, BitVec.toNat_ofNat, show (BitVec.ofInt 64 7).toNat = 2 ^ 3 - 1 by decide, Nat.and_two_pow_sub_one_eq_mod]
    omega
  rw [h]
  simp only [IntKind.wrap, IntKind.signed, IntKind.bits, Bool.false_eq_true, if_false, Bool.false_and]
  omega
set_option maxRecDepth 100000 in
set_option maxHeartbeats 1000000 in
theorem formatBits_any (N : Nat) (w : World) (hN : N < 2 ^ 63) (hT : Tz w) :
    Calls Tryd.prog 140 #[.slice none 0 0, .int .u64 N, .int .i64 8, .bool false, .bool false] w fun e w' => e = .returned (.tuple #[.slice none 0 0, .string (bt (digs N))]) ∧ Below w.heap.size w w' := by
  obtain ⟨hzero, hinf⟩ := zero_of_info Tryd.infoBuf
  obtain ⟨z, hz⟩ : ∃ z, z = (bufC []).toArray := ⟨_, rfl⟩
  rw [← hz] at hzero
  have HZ := hide hz
  clear hz hinf
  have hT1 := hide hT.cells.1
  have hT2 := hT.cells.2
  have P8 := hide (fun W => pow8_any W)
  have TZ := hide (fun W h => tz_any W h)
  have hN' : (N : Int) < 9223372036854775808 := by omega
  go_enter Tryd.func140, Tryd.ntmps140
  go_wp2_with fail
  refine (unhide P8 _).mono ?_
  rintro e w' ⟨rfl, rfl⟩
  have hB0 : Hid (Below w.heap.size w (w.alloc (.cells z 207))) := (Below.refl _ _).alloc (Nat.le_refl _) _
  have hG0 : Hid (Buf (w.alloc (.cells z 207)) w.heap.size []) := by
    rw [unhide HZ]
    exact heap_alloc_new w _
  have hc0 := hide (((unhide hB0).cell (p := ⟨3, 7, none⟩) hT2).trans (unhide hT1))
  generalize w.alloc (.cells z 207) = w1 at *
  go_wp2_with fail
  refine (unhide TZ _ (unhide hc0)).mono ?_
  rintro e w' ⟨rfl, rfl⟩
  go_wp2_with fail
  go_loopw [1, 13] (fun v1 v13 wr => ∃ (n : Nat) (l : Bs), v1 = .int .u64 n ∧ v13 = .int .i64 ((65 - l.length : Nat) : Int) ∧ n ≤ N ∧ l.length ≤ 20 ∧ Hid (digs N = digs n ++ l) ∧ Hid (Buf wr w.heap.size l) ∧ Hid (Below w.heap.size w wr)) (fun v1 _ _ => (intOf v1).toNat)
  case atStart => exact ⟨N, [], rfl, rfl, Nat.le_refl _, by simp, by show _ = _; simp, hG0, hB0⟩
  case round =>
    clear hG0 hB0 hc0 TZ P8 hT1 hT2 hzero
    obtain ⟨n, l, rfl, rfl, hn, hl, hd, hG, hB⟩ := hrel
    have hn' : (n : Int) < 9223372036854775808 := by omega
    obtain ⟨m, hm⟩ : ∃ m, m = n % 8 := ⟨_, rfl⟩
    have hm8 : m < 8 := by omega
    have hv := (unhide hG).cell (by omega)
    have hfz := (unhide hG).frozen (65 - l.length - 1)
    have hdg : ((dg n).toNat : Int) = 48 + (m : Int) := by unfold dg; rw [UInt8.toNat_ofNat']; omega
    have hP := (unhide hG).put (by omega) (dg n)
    rw [hdg] at hP
    have hB2 := hide ((unhide hB).setCell (p := ⟨w.heap.size, 65 - l.length - 1, none⟩) (Nat.le_refl _) (.int .u8 (48 + (m : Int))))
    have hP := hide hP
    have hi : (65 - l.length : Nat) = (65 - l.length - 1) + 1 := by omega
    have hi2 : 65 - l.length - 1 < 65 := by omega
    have hn8 : Hid (n = n / 8 * 8 + m) := by show _ = _; omega
    rw [hi]
    generalize hie : 65 - l.length - 1 = i at *
    have hiq : Hid (i + (l.length + 1) = 65) := by show _ = _; omega
    clear hi hie
    by_cases h8 : 8 ≤ n
    · have h8' : (8 : Int) ≤ (n : Int) := by omega
      have hand : bits .and .u64 (n : Int) 7 = (m : Int) := by rw [and7, hm]
      have hd2 : Hid (digs N = digs (n / 8) ++ dg n :: l) := by show _ = _; rw [unhide hd, digs_big n h8]; simp
      have hl2 : (dg n :: l).length ≤ 20 := by
        have h1 := congrArg List.length (unhide hd2)
        have h2 := digs_len N hN
        have h3 := digs_len (n / 8) (by omega)
        rw [List.length_append] at h1
        omega
      clear hm hdg hd
      rcases (show m = 0 ∨ m = 1 ∨ m = 2 ∨ m = 3 ∨ m = 4 ∨ m = 5 ∨ m = 6 ∨ m = 7 by omega) with rfl | rfl | rfl | rfl | rfl | rfl | rfl | rfl
      all_goals (
        go_wp2_with fail
        go_roundw
        case rel => exact ⟨n / 8, dg n :: l, by go_num, by (have := unhide hiq); rw [List.length_cons, show 65 - (l.length + 1) = i by omega], by omega, hl2, hd2, hP, hB2⟩
        case measure => simp [intOf]; omega)
    · obtain rfl : m = n := by omega
      have hd2 : Hid (digs N = dg m :: l) := by show _ = _; rw [unhide hd, digs_small m (by omega)]; rfl
      have hl1 : (dg m :: l).length = 65 - i := by have := unhide hiq; rw [List.length_cons]; omega
      have hcv : Hid (∀ W, Buf W w.heap.size (dg m :: l) → (convert 49 9 (.slice (some ⟨w.heap.size, i, none⟩) (65 - i) (65 - i))).run Tryd.prog W = .ok (.string (bt (digs N))) W) := by
        intro W hW
        rw [unhide hd2, ← hl1]
        refine run_convert_bytes_back W 49 9 5 ⟨w.heap.size, i, none⟩ _ (dg m :: l) Tryd.underlying49 Tryd.underlying5 Tryd.underlying9 ?_
        intro j hj
        have := bufC_at (dg m :: l) j (by omega) hj
        rw [show 65 - (dg m :: l).length + j = i + j by omega] at this
        rw [addr_add, Lib.cell_of_heap hW, List.getElem?_toArray, this]
      have hcv := hide (unhide hcv _ (unhide hP))
      clear hm hdg hd hd2 hl1
      rcases (show m = 0 ∨ m = 1 ∨ m = 2 ∨ m = 3 ∨ m = 4 ∨ m = 5 ∨ m = 6 ∨ m = 7 by omega) with rfl | rfl | rfl | rfl | rfl | rfl | rfl | rfl
      · have hcv : (convert 49 9 (.slice (some ⟨w.heap.size, i, none⟩) (65 - i) (65 - i))).run Tryd.prog (wr.setCell ⟨w.heap.size, i, none⟩ (.int .u8 48)) = .ok (.string (bt (digs N))) (wr.setCell ⟨w.heap.size, i, none⟩ (.int .u8 48)) := unhide hcv
        have hk : (({ data := #[48, 49, 50, 51, 52, 53, 54, 55, 56, 57, 97, 98, 99, 100, 101, 102, 103, 104, 105, 106, 107, 108, 109, 110, 111, 112, 113, 114, 115, 116, 117, 118, 119, 120, 121, 122] } : ByteArray)[0]'(by decide)).toNat = 48 := rfl
        have hsl := slice_buf w.heap.size i hi2
        go_wp2_with fail
        go_ret2
        exact ⟨rfl, unhide hB2⟩
      · have hcv : (convert 49 9 (.slice (some ⟨w.heap.size, i, none⟩) (65 - i) (65 - i))).run Tryd.prog (wr.setCell ⟨w.heap.size, i, none⟩ (.int .u8 49)) = .ok (.string (bt (digs N))) (wr.setCell ⟨w.heap.size, i, none⟩ (.int .u8 49)) := unhide hcv
        have hk : (({ data := #[48, 49, 50, 51, 52, 53, 54, 55, 56, 57, 97, 98, 99, 100, 101, 102, 103, 104, 105, 106, 107, 108, 109, 110, 111, 112, 113, 114, 115, 116, 117, 118, 119, 120, 121, 122] } : ByteArray)[1]'(by decide)).toNat = 49 := rfl
        have hsl := slice_buf w.heap.size i hi2
        go_wp2_with fail
        go_ret2
        exact ⟨rfl, unhide hB2⟩
      · have hcv : (convert 49 9 (.slice (some ⟨w.heap.size, i, none⟩) (65 - i) (65 - i))).run Tryd.prog (wr.setCell ⟨w.heap.size, i, none⟩ (.int .u8 50)) = .ok (.string (bt (digs N))) (wr.setCell ⟨w.heap.size, i, none⟩ (.int .u8 50)) := unhide hcv
        have hk : (({ data := #[48, 49, 50, 51, 52, 53, 54, 55, 56, 57, 97, 98, 99, 100, 101, 102, 103, 104, 105, 106, 107, 108, 109, 110, 111, 112, 113, 114, 115, 116, 117, 118, 119, 120, 121, 122] } : ByteArray)[2]'(by decide)).toNat = 50 := rfl
        have hsl := slice_buf w.heap.size i hi2
        go_wp2_with fail
        go_ret2
        exact ⟨rfl, unhide hB2⟩
      · have hcv : (convert 49 9 (.slice (some ⟨w.heap.size, i, none⟩) (65 - i) (65 - i))).run Tryd.prog (wr.setCell ⟨w.heap.size, i, none⟩ (.int .u8 51)) = .ok (.string (bt (digs N))) (wr.setCell ⟨w.heap.size, i, none⟩ (.int .u8 51)) := unhide hcv
        have hk : (({ data := #[48, 49, 50, 51, 52, 53, 54, 55, 56, 57, 97, 98, 99, 100, 101, 102, 103, 104, 105, 106, 107, 108, 109, 110, 111, 112, 113, 114, 115, 116, 117, 118, 119, 120, 121, 122] } : ByteArray)[3]'(by decide)).toNat = 51 := rfl
        have hsl := slice_buf w.heap.size i hi2
        go_wp2_with fail
        go_ret2
        exact ⟨rfl, unhide hB2⟩
      · have hcv : (convert 49 9 (.slice (some ⟨w.heap.size, i, none⟩) (65 - i) (65 - i))).run Tryd.prog (wr.setCell ⟨w.heap.size, i, none⟩ (.int .u8 52)) = .ok (.string (bt (digs N))) (wr.setCell ⟨w.heap.size, i, none⟩ (.int .u8 52)) := unhide hcv
        have hk : (({ data := #[48, 49, 50, 51, 52, 53, 54, 55, 56, 57, 97, 98, 99, 100, 101, 102, 103, 104, 105, 106, 107, 108, 109, 110, 111, 112, 113, 114, 115, 116, 117, 118, 119, 120, 121, 122] } : ByteArray)[4]'(by decide)).toNat = 52 := rfl
        have hsl := slice_buf w.heap.size i hi2
        go_wp2_with fail
        go_ret2
        exact ⟨rfl, unhide hB2⟩
      · have hcv : (convert 49 9 (.slice (some ⟨w.heap.size, i, none⟩) (65 - i) (65 - i))).run Tryd.prog (wr.setCell ⟨w.heap.size, i, none⟩ (.int .u8 53)) = .ok (.string (bt (digs N))) (wr.setCell ⟨w.heap.size, i, none⟩ (.int .u8 53)) := unhide hcv
        have hk : (({ data := #[48, 49, 50, 51, 52, 53, 54, 55, 56, 57, 97, 98, 99, 100, 101, 102, 103, 104, 105, 106, 107, 108, 109, 110, 111, 112, 113, 114, 115, 116, 117, 118, 119, 120, 121, 122] } : ByteArray)[5]'(by decide)).toNat = 53 := rfl
        have hsl := slice_buf w.heap.size i hi2
        go_wp2_with fail
        go_ret2
        exact ⟨rfl, unhide hB2⟩
      · have hcv : (convert 49 9 (.slice (some ⟨w.heap.size, i, none⟩) (65 - i) (65 - i))).run Tryd.prog (wr.setCell ⟨w.heap.size, i, none⟩ (.int .u8 54)) = .ok (.string (bt (digs N))) (wr.setCell ⟨w.heap.size, i, none⟩ (.int .u8 54)) := unhide hcv
        have hk : (({ data := #[48, 49, 50, 51, 52, 53, 54, 55, 56, 57, 97, 98, 99, 100, 101, 102, 103, 104, 105, 106, 107, 108, 109, 110, 111, 112, 113, 114, 115, 116, 117, 118, 119, 120, 121, 122] } : ByteArray)[6]'(by decide)).toNat = 54 := rfl
        have hsl := slice_buf w.heap.size i hi2
        go_wp2_with fail
        go_ret2
        exact ⟨rfl, unhide hB2⟩
      · have hcv : (convert 49 9 (.slice (some ⟨w.heap.size, i, none⟩) (65 - i) (65 - i))).run Tryd.prog (wr.setCell ⟨w.heap.size, i, none⟩ (.int .u8 55)) = .ok (.string (bt (digs N))) (wr.setCell ⟨w.heap.size, i, none⟩ (.int .u8 55)) := unhide hcv
        have hk : (({ data := #[48, 49, 50, 51, 52, 53, 54, 55, 56, 57, 97, 98, 99, 100, 101, 102, 103, 104, 105, 106, 107, 108, 109, 110, 111, 112, 113, 114, 115, 116, 117, 118, 119, 120, 121, 122] } : ByteArray)[7]'(by decide)).toNat = 55 := rfl
        have hsl := slice_buf w.heap.size i hi2
        go_wp2_with fail
        go_ret2
        exact ⟨rfl, unhide hB2⟩

set_option maxHeartbeats 400000 in
theorem iformat_any (N : Nat) (w : World) (hN : N < 2 ^ 63) (hT : Tz w) :
    Calls Tryd.prog 128 #[.int .i64 N, .int .i64 8] w fun e w' => e = .returned (.string (bt (digs N))) ∧ Below w.heap.size w w' := by
  have H := hide (formatBits_any N w hN hT)
  have hN' : (N : Int) < 9223372036854775808 := by omega
  generalize bt (digs N) = x at *
  go_enter Tryd.func128, Tryd.ntmps128
  go_wp2_with fail
  refine (unhide H).mono ?_
  rintro e w1 ⟨rfl, hB⟩
  clear H
  go_wp2_with fail
  go_ret
  exact ⟨rfl, hB⟩
set_option maxHeartbeats 400000 in
theorem format_any (N : Nat) (w : World) (hN : N < 2 ^ 63) (hT : Tz w) :
    Calls Tryd.prog 115 #[.int .i64 N, .int .i64 8] w fun e w' => e = .returned (.string (bt (digs N))) ∧ Below w.heap.size w w' := by
  have H := hide (iformat_any N w hN hT)
  generalize bt (digs N) = x at *
  go_enter Tryd.func115, Tryd.ntmps115
  go_wp2_with fail
  refine (unhide H).mono ?_
  rintro e w1 ⟨rfl, hB⟩
  clear H
  go_wp2_with fail
  go_ret
  exact ⟨rfl, hB⟩
theorem repeat_one (c : UInt8) : ∀ k : Nat, Lib.repeatL [c] k = List.replicate k c
  | 0 => rfl
  | k + 1 => by rw [Lib.repeatL, repeat_one c k]; rfl
set_option maxHeartbeats 1000000 in
theorem octal_any (N d : Nat) (w : World) (hN : N < 2 ^ 63) (hd : d ≤ 100) (hT : Tz w) :
    Calls Tryd.prog 72 #[.int .i64 N, .int .i64 d] w fun e w' => e = .returned (.string (bt (octP N d))) ∧ Below w.heap.size w w' := by
  have F := hide (format_any N w hN hT)
  have hl := digs_len N hN
  have hsz : (bt (digs N)).size = (digs N).length := rfl
  have H := hide (fun W => Tryd.strings_Repeat { data := #[48] } (d - (digs N).length) W (by omega) (by show 1 * _ ≤ _; omega))
  have hm : max ((d : Int) - ((digs N).length : Int)) 0 = ((d - (digs N).length : Nat) : Int) := by omega
  have he : Hid (∀ b : ByteArray, b = ⟨(Lib.repeatL [48] (d - (digs N).length)).toArray⟩ → b ++ bt (digs N) = bt (octP N d)) := fun b hb => by
    rw [hb, repeat_one]
    apply ba_ext
    simp [bs, bt, octP]
  generalize hx : bt (digs N) = x at *
  generalize (digs N).length = m at *
  rw [← hsz] at hm hl H he
  clear hx hsz
  go_enter Tryd.func72, Tryd.ntmps72
  go_wp2_with fail
  refine (unhide F).mono ?_
  rintro e w1 ⟨rfl, hB1⟩
  have HB1 := hide hB1
  clear F hB1
  go_wp2_with fail
  refine (unhide H _).mono ?_
  rintro e w2 ⟨rfl, hB⟩
  have HB2 := hide ((unhide HB1).trans (hB.mono (unhide HB1).size))
  obtain ⟨b, hb⟩ : ∃ b : ByteArray, b = ⟨(Lib.repeatL [48] (d - x.size)).toArray⟩ := ⟨_, rfl⟩
  have hbs : b.size ≤ 100 := by rw [hb, repeat_one]; show (List.replicate (d - x.size) (48 : UInt8)).toArray.size ≤ 100; rw [List.size_toArray, List.length_replicate]; omega
  rw [show (⟨(Lib.repeatL ({ data := #[48] } : ByteArray).data.toList (d - x.size)).toArray⟩ : ByteArray) = b from hb.symm]
  have hx := hide (unhide he b hb)
  clear H he hb hB
  go_wp2_with fail
  go_ret
  exact ⟨by rw [← unhide hx]; rfl, unhide HB2⟩

/-! ### the document's -/
theorem dig_text (n : Nat) : ({ data := #[48, 49, 50, 51, 52, 53, 54, 55] } : ByteArray).extract (n % 8) (n % 8 + 1) = bt [dg n] := by
  unfold dg
  have h : n % 8 < 8 := by omega
  generalize n % 8 = m at *
  rcases (show m = 0 ∨ m = 1 ∨ m = 2 ∨ m = 3 ∨ m = 4 ∨ m = 5 ∨ m = 6 ∨ m = 7 by omega) with rfl | rfl | rfl | rfl | rfl | rfl | rfl | rfl <;> rfl
end Go.Proofs.YtjkajhnnoecjbaaDoor.Vw
