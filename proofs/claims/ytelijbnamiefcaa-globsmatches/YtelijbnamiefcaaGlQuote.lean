/- What Quote answers; what alive answers. -/
import Derived.Test.YtelijbnamiefcaaGlMatch
import Derived.Test.YtelijbnamiefcaaLnBuild
namespace Go.Proofs.Ytelijbnamiefcaa.Gl
open Go.RowKit

theorem quote_snoc (l : Bs) (c : UInt8) : quoteP (l ++ [c]) = quoteP l ++ (if sign c = true then [92, c] else [c]) := by
  rw [quote_app]
  congr 1
theorem take_bs (s : ByteArray) (k : Nat) (h : k < s.size) : (bs s).take (k + 1) = (bs s).take k ++ [s[k]] := by
  rw [List.take_succ_eq_append_getElem (show k < (bs s).length from h)]; rfl
theorem quote_take (s : ByteArray) (k : Nat) : (quoteP ((bs s).take k)).length ≤ 2 * s.size := by
  have h1 := quote_len ((bs s).take k)
  rw [List.length_take, bs_len] at h1
  omega

set_option maxHeartbeats 1000000 in
set_option maxRecDepth 100000 in
theorem quote_any (s : ByteArray) (w : World) (hs : s.size ≤ 4611686018427) :
    Calls Try.prog 14 #[.string s] w fun e w' => e = .returned (.string ⟨(quoteP (bs s)).toArray⟩) ∧ Below w.heap.size w w' := by
  go_enter Try.func14, Try.ntmps14
  go_wp2_with fail
  go_loopw [4] (fun i wr => ∃ k : Nat, k ≤ s.size ∧ i = .int .i64 k ∧ Hid (Ln.IsB w.heap.size w.heap.size (quoteP ((bs s).take k)) wr) ∧ Hid (Below w.heap.size w wr)) (fun i _ => s.size - (intOf i).toNat)
  case atStart => exact ⟨0, Nat.zero_le _, rfl, Lib.fresh_isBuilder 54 5 w, (Below.refl _ _).alloc (Nat.le_refl _) _⟩
  case round =>
    obtain ⟨k, hk, rfl, hI, hnx⟩ := hrel
    have hsz := (unhide hnx).size
    by_cases hlt : k < s.size
    · have hlt' : (k : Int) < (s.size : Int) := by omega
      have hsn := hide (quote_snoc ((bs s).take k) s[k])
      rw [← take_bs s k hlt] at hsn
      have hql := quote_take s k
      by_cases h42 : s[k] = 42
      · have hc : (s[k].toNat : Int) = 42 := by rw [h42]; rfl
        have hsg : sign s[k] = true := by rw [h42]; rfl
        rw [hsg, if_pos rfl, h42] at hsn
        have W1 := hide (Ln.writeByte_any w.heap.size w.heap.size _ 92 wr (unhide hI) (by rw [Lib.byteCells_length]; omega) hsz)
        clear hI hsg h42
        go_wp2_with fail
        refine (unhide W1).mono ?_
        rintro e w2 ⟨rfl, hI2, hb2⟩
        have hB2 : Hid (Below w.heap.size w w2) := (unhide hnx).trans hb2
        have hs2 := (unhide hB2).size
        have W2 := hide (Ln.writeByte_any w.heap.size w.heap.size _ 42 w2 hI2 (by rw [List.length_append, Lib.byteCells_length]; simp; omega) hs2)
        clear W1 hI2 hb2 hnx
        go_wp2_with fail
        refine (unhide W2).mono ?_
        rintro e w3 ⟨rfl, hI3, hb3⟩
        have hB3 : Hid (Below w.heap.size w w3) := (unhide hB2).trans hb3
        have hI4 : Hid (Ln.IsB w.heap.size w.heap.size (quoteP ((bs s).take (k + 1))) w3) := by
          rw [unhide hsn]; simpa [Hid, Ln.IsB, Lib.byteCells] using hI3
        clear hI3 hb3 hB2 W2 hsn
        go_wp2_with fail
        go_roundw
        case rel => exact ⟨k + 1, by omega, by go_num, hI4, hB3⟩
        case measure => simp [intOf]; omega
      · have := hsz
        by_cases h63 : s[k] = 63
        · have hc : (s[k].toNat : Int) = 63 := by rw [h63]; rfl
          have hsg : sign s[k] = true := by rw [h63]; rfl
          rw [hsg, if_pos rfl, h63] at hsn
          have W1 := hide (Ln.writeByte_any w.heap.size w.heap.size _ 92 wr (unhide hI) (by rw [Lib.byteCells_length]; omega) hsz)
          clear hI hsg h63 h42
          go_wp2_with fail
          refine (unhide W1).mono ?_
          rintro e w2 ⟨rfl, hI2, hb2⟩
          have hB2 : Hid (Below w.heap.size w w2) := (unhide hnx).trans hb2
          have hs2 := (unhide hB2).size
          have W2 := hide (Ln.writeByte_any w.heap.size w.heap.size _ 63 w2 hI2 (by rw [List.length_append, Lib.byteCells_length]; simp; omega) hs2)
          clear W1 hI2 hb2 hnx
          go_wp2_with fail
          refine (unhide W2).mono ?_
          rintro e w3 ⟨rfl, hI3, hb3⟩
          have hB3 : Hid (Below w.heap.size w w3) := (unhide hB2).trans hb3
          have hI4 : Hid (Ln.IsB w.heap.size w.heap.size (quoteP ((bs s).take (k + 1))) w3) := by
            rw [unhide hsn]; simpa [Hid, Ln.IsB, Lib.byteCells] using hI3
          clear hI3 hb3 hB2 W2 hsn
          go_wp2_with fail
          go_roundw
          case rel => exact ⟨k + 1, by omega, by go_num, hI4, hB3⟩
          case measure => simp [intOf]; omega
        · have := hsz
          by_cases h91 : s[k] = 91
          · have hc : (s[k].toNat : Int) = 91 := by rw [h91]; rfl
            have hsg : sign s[k] = true := by rw [h91]; rfl
            rw [hsg, if_pos rfl, h91] at hsn
            have W1 := hide (Ln.writeByte_any w.heap.size w.heap.size _ 92 wr (unhide hI) (by rw [Lib.byteCells_length]; omega) hsz)
            clear hI hsg h91 h42 h63
            go_wp2_with fail
            refine (unhide W1).mono ?_
            rintro e w2 ⟨rfl, hI2, hb2⟩
            have hB2 : Hid (Below w.heap.size w w2) := (unhide hnx).trans hb2
            have hs2 := (unhide hB2).size
            have W2 := hide (Ln.writeByte_any w.heap.size w.heap.size _ 91 w2 hI2 (by rw [List.length_append, Lib.byteCells_length]; simp; omega) hs2)
            clear W1 hI2 hb2 hnx
            go_wp2_with fail
            refine (unhide W2).mono ?_
            rintro e w3 ⟨rfl, hI3, hb3⟩
            have hB3 : Hid (Below w.heap.size w w3) := (unhide hB2).trans hb3
            have hI4 : Hid (Ln.IsB w.heap.size w.heap.size (quoteP ((bs s).take (k + 1))) w3) := by
              rw [unhide hsn]; simpa [Hid, Ln.IsB, Lib.byteCells] using hI3
            clear hI3 hb3 hB2 W2 hsn
            go_wp2_with fail
            go_roundw
            case rel => exact ⟨k + 1, by omega, by go_num, hI4, hB3⟩
            case measure => simp [intOf]; omega
          · have := hsz
            by_cases h92 : s[k] = 92
            · have hc : (s[k].toNat : Int) = 92 := by rw [h92]; rfl
              have hsg : sign s[k] = true := by rw [h92]; rfl
              rw [hsg, if_pos rfl, h92] at hsn
              have W1 := hide (Ln.writeByte_any w.heap.size w.heap.size _ 92 wr (unhide hI) (by rw [Lib.byteCells_length]; omega) hsz)
              clear hI hsg h92 h42 h63 h91
              go_wp2_with fail
              refine (unhide W1).mono ?_
              rintro e w2 ⟨rfl, hI2, hb2⟩
              have hB2 : Hid (Below w.heap.size w w2) := (unhide hnx).trans hb2
              have hs2 := (unhide hB2).size
              have W2 := hide (Ln.writeByte_any w.heap.size w.heap.size _ 92 w2 hI2 (by rw [List.length_append, Lib.byteCells_length]; simp; omega) hs2)
              clear W1 hI2 hb2 hnx
              go_wp2_with fail
              refine (unhide W2).mono ?_
              rintro e w3 ⟨rfl, hI3, hb3⟩
              have hB3 : Hid (Below w.heap.size w w3) := (unhide hB2).trans hb3
              have hI4 : Hid (Ln.IsB w.heap.size w.heap.size (quoteP ((bs s).take (k + 1))) w3) := by
                rw [unhide hsn]; simpa [Hid, Ln.IsB, Lib.byteCells] using hI3
              clear hI3 hb3 hB2 W2 hsn
              go_wp2_with fail
              go_roundw
              case rel => exact ⟨k + 1, by omega, by go_num, hI4, hB3⟩
              case measure => simp [intOf]; omega
            · have hsg : sign s[k] = false := by simp [sign, h42, h63, h91, h92]
              rw [hsg] at hsn
              have n42 : ¬ (s[k].toNat : Int) = 42 := fun e => h42 (u8_eq e)
              have n63 : ¬ (s[k].toNat : Int) = 63 := fun e => h63 (u8_eq e)
              have n91 : ¬ (s[k].toNat : Int) = 91 := fun e => h91 (u8_eq e)
              have n92 : ¬ (s[k].toNat : Int) = 92 := fun e => h92 (u8_eq e)
              have W2 := hide (Ln.writeByte_any w.heap.size w.heap.size _ (s[k].toNat : Int) wr (unhide hI) (by rw [Lib.byteCells_length]; omega) hsz)
              clear hI hsg h42 h63 h91 h92
              go_wp2_with fail
              refine (unhide W2).mono ?_
              rintro e w3 ⟨rfl, hI3, hb3⟩
              have hB3 : Hid (Below w.heap.size w w3) := (unhide hnx).trans hb3
              have hI4 : Hid (Ln.IsB w.heap.size w.heap.size (quoteP ((bs s).take (k + 1))) w3) := by
                rw [unhide hsn]; simpa [Hid, Ln.IsB, Lib.byteCells] using hI3
              clear hI3 hb3 hnx W2 hsn
              go_wp2_with fail
              go_roundw
              case rel => exact ⟨k + 1, by omega, by go_num, hI4, hB3⟩
              case measure => simp [intOf]; omega
    · have hkn : (bs s).take k = bs s := List.take_of_length_le (by rw [bs_len]; omega)
      rw [hkn] at hI
      clear hkn
      have W := hide (Ln.string_any w.heap.size w.heap.size _ wr (unhide hI) hsz)
      clear hI
      go_wp2_with fail
      refine (unhide W).mono ?_
      rintro e w3 ⟨rfl, hb3⟩
      have hB3 : Hid (Below w.heap.size w w3) := (unhide hnx).trans hb3
      clear W hb3 hnx
      go_wp2_with fail
      go_ret
      exact ⟨rfl, unhide hB3⟩

/-! ### some answers that the document fixes -/
theorem am0 (w : World) : Calls Try.prog 11 #[.string { data := #[42, 46, 103, 111] }, .string { data := #[97, 46, 103, 111] }] w fun e w' => e = .returned (.bool true) ∧ Below w.heap.size w w' := by
  have h := match_any { data := #[42, 46, 103, 111] } { data := #[97, 46, 103, 111] } w (by decide) (by decide)
  rw [show matchP (bs { data := #[42, 46, 103, 111] }) (bs { data := #[97, 46, 103, 111] }) = true by decide +kernel] at h
  exact h
theorem am1 (w : World) : Calls Try.prog 11 #[.string { data := #[42, 46, 103, 111] }, .string { data := #[97, 46, 103, 111, 116] }] w fun e w' => e = .returned (.bool false) ∧ Below w.heap.size w w' := by
  have h := match_any { data := #[42, 46, 103, 111] } { data := #[97, 46, 103, 111, 116] } w (by decide) (by decide)
  rw [show matchP (bs { data := #[42, 46, 103, 111] }) (bs { data := #[97, 46, 103, 111, 116] }) = false by decide +kernel] at h
  exact h
theorem am2 (w : World) : Calls Try.prog 11 #[.string { data := #[97, 63, 99] }, .string { data := #[97, 98, 99] }] w fun e w' => e = .returned (.bool true) ∧ Below w.heap.size w w' := by
  have h := match_any { data := #[97, 63, 99] } { data := #[97, 98, 99] } w (by decide) (by decide)
  rw [show matchP (bs { data := #[97, 63, 99] }) (bs { data := #[97, 98, 99] }) = true by decide +kernel] at h
  exact h
theorem am3 (w : World) : Calls Try.prog 11 #[.string { data := #[91, 33, 93, 97, 93, 120] }, .string { data := #[98, 120] }] w fun e w' => e = .returned (.bool true) ∧ Below w.heap.size w w' := by
  have h := match_any { data := #[91, 33, 93, 97, 93, 120] } { data := #[98, 120] } w (by decide) (by decide)
  rw [show matchP (bs { data := #[91, 33, 93, 97, 93, 120] }) (bs { data := #[98, 120] }) = true by decide +kernel] at h
  exact h
theorem am4 (w : World) : Calls Try.prog 11 #[.string { data := #[91, 97, 98] }, .string { data := #[91, 97, 98] }] w fun e w' => e = .returned (.bool true) ∧ Below w.heap.size w w' := by
  have h := match_any { data := #[91, 97, 98] } { data := #[91, 97, 98] } w (by decide) (by decide)
  rw [show matchP (bs { data := #[91, 97, 98] }) (bs { data := #[91, 97, 98] }) = true by decide +kernel] at h
  exact h
theorem am5 (w : World) : Calls Try.prog 11 #[.string { data := #[91, 33, 97, 45, 99, 93, 120] }, .string { data := #[98, 120] }] w fun e w' => e = .returned (.bool false) ∧ Below w.heap.size w w' := by
  have h := match_any { data := #[91, 33, 97, 45, 99, 93, 120] } { data := #[98, 120] } w (by decide) (by decide)
  rw [show matchP (bs { data := #[91, 33, 97, 45, 99, 93, 120] }) (bs { data := #[98, 120] }) = false by decide +kernel] at h
  exact h
theorem am6 (w : World) : Calls Try.prog 11 #[.string { data := #[91, 92, 93, 120] }, .string { data := #[92, 120] }] w fun e w' => e = .returned (.bool true) ∧ Below w.heap.size w w' := by
  have h := match_any { data := #[91, 92, 93, 120] } { data := #[92, 120] } w (by decide) (by decide)
  rw [show matchP (bs { data := #[91, 92, 93, 120] }) (bs { data := #[92, 120] }) = true by decide +kernel] at h
  exact h
theorem ac (w : World) : Calls Try.prog 9 #[.string { data := #[97, 92] }] w fun e w' => e = .returned (.bool false) ∧ Below w.heap.size w w' := by
  have h := check_any { data := #[97, 92] } w (by decide)
  rw [show checkP (bs { data := #[97, 92] }) = false by decide +kernel] at h
  exact h.mono fun e w' h => ⟨h.1, by obtain ⟨q, hq⟩ := h.2; rw [hq]; exact below_drew _ _⟩
theorem aq (w : World) : Calls Try.prog 14 #[.string { data := #[97, 42, 98, 91, 99, 93] }] w fun e w' => e = .returned (.string { data := #[97, 92, 42, 98, 92, 91, 99, 93] }) ∧ Below w.heap.size w w' := by
  have h := quote_any { data := #[97, 42, 98, 91, 99, 93] } w (by decide)
  rw [show quoteP (bs { data := #[97, 42, 98, 91, 99, 93] }) = [97, 92, 42, 98, 92, 91, 99, 93] by decide +kernel] at h
  exact h
set_option maxHeartbeats 1000000 in
set_option maxRecDepth 100000 in
theorem alive_any (w : World) : Calls Try.prog 16 #[] w fun e w' => e = .returned (.bool true) ∧ Below w.heap.size w w' := by
  go_enter Try.func16, Try.ntmps16
  go_wp2_with fail
  refine (am0 w).mono ?_
  rintro e w1 ⟨rfl, b1⟩
  go_wp2_with fail
  refine (am1 w1).mono ?_
  rintro e w2 ⟨rfl, c2⟩
  have b2 := b1.trans (c2.mono b1.size)
  clear c2 b1
  go_wp2_with fail
  refine (am2 w2).mono ?_
  rintro e w3 ⟨rfl, c3⟩
  have b3 := b2.trans (c3.mono b2.size)
  clear c3 b2
  go_wp2_with fail
  refine (am3 w3).mono ?_
  rintro e w4 ⟨rfl, c4⟩
  have b4 := b3.trans (c4.mono b3.size)
  clear c4 b3
  go_wp2_with fail
  refine (am4 w4).mono ?_
  rintro e w5 ⟨rfl, c5⟩
  have b5 := b4.trans (c5.mono b4.size)
  clear c5 b4
  go_wp2_with fail
  refine (am5 w5).mono ?_
  rintro e w6 ⟨rfl, c6⟩
  have b6 := b5.trans (c6.mono b5.size)
  clear c6 b5
  go_wp2_with fail
  refine (am6 w6).mono ?_
  rintro e w7 ⟨rfl, c7⟩
  have b7 := b6.trans (c7.mono b6.size)
  clear c7 b6
  go_wp2_with fail
  refine (ac w7).mono ?_
  rintro e w8 ⟨rfl, c8⟩
  have b8 := b7.trans (c8.mono b7.size)
  clear c8 b7
  go_wp2_with fail
  refine (aq w8).mono ?_
  rintro e w9 ⟨rfl, c9⟩
  have b9 := b8.trans (c9.mono b8.size)
  clear c9 b8
  go_wp2_with fail
  go_ret
  exact ⟨rfl, b9⟩
end Go.Proofs.Ytelijbnamiefcaa.Gl
