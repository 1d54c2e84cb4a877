/- GlobsQuotes answers true at every name: what the document's Quote answers. -/
import Derived.Test.YtelijbnamiefcaaGlMet
import Derived.Test.YtelijbnamiefcaaBeyond
import Derived.Lib.BufferRead
namespace Go.Proofs.Ytelijbnamiefcaa.Gl
open Go.RowKit

theorem cv_back {W : World} {base : Nat} {v : Value} (l : List UInt8) (h : W.ownsRow base 5 1 v l.length (Lib.byteCells l)) : (convert 52 9 v).run Try.prog W = .ok (.string ⟨l.toArray⟩) W := by
  rcases h.2 with ⟨rfl, hn⟩ | ⟨g, cap, cur, rfl, _⟩
  · obtain rfl : l = [] := List.eq_nil_of_length_eq_zero hn
    exact Lib.run_convert_nil_bytes W 52 9 5 0 Try.underlying52 Try.underlying5 Try.underlying9
  · refine run_convert_bytes_back W 52 9 5 ⟨g, 0, none⟩ cap l Try.underlying52 Try.underlying5 Try.underlying9 ?_
    intro j hj
    refine h.cells (g := g) rfl j _ ?_
    simp [Lib.byteCells, List.getElem?_eq_getElem hj]
set_option maxHeartbeats 1000000 in
set_option maxRecDepth 100000 in
theorem rquote_any (s : ByteArray) (w : World) (hs : s.size ≤ 4611686018427) :
    Calls Try.prog 15 #[.string s] w fun e w' => e = .returned (.string ⟨(quoteP (bs s)).toArray⟩) ∧ Below w.heap.size w w' := by
  obtain ⟨i0, hi, hz0, hz1, hz2⟩ := info_parts Try.infoByte
  go_enter Try.func15, Try.ntmps15
  go_wp2_with fail
  go_loopw [3, 4] (fun v3 i wr => ∃ (v : Value) (k : Nat), k ≤ s.size ∧ v = v3 ∧ i = .int .i64 k ∧ Hid (Row w.heap.size v (quoteP ((bs s).take k)) wr) ∧ Hid (Below w.heap.size w wr)) (fun _ i _ => s.size - (intOf i).toNat)
  case atStart => exact ⟨_, 0, Nat.zero_le _, rfl, rfl, row_nil _ _, Below.refl _ _⟩
  case round =>
    obtain ⟨v, k, hk, rfl, rfl, hI, hnx⟩ := hrel
    have hsz := (unhide hnx).size
    by_cases hlt : k < s.size
    · have hlt' : (k : Int) < (s.size : Int) := by omega
      have hsn := hide (quote_snoc ((bs s).take k) s[k])
      rw [← take_bs s k hlt] at hsn
      have hql := quote_take s k
      by_cases h42 : s[k] = 42
      · have hc : (s[k].toNat : Int) = 42 := by rw [h42]; rfl
        have hsg : sign s[k] = true := by rw [h42]; rfl
        rw [hsg, if_pos rfl, h42] at hsn
        clear hsg h42
        go_wp2_with (at_builtin; refine wpList_append_own _ rfl _ _ 52 rfl w.heap.size 5 i0 (.int .u8 0) 1 1 Try.underlying52 hi hz0 hz1 hz2 rfl (by decide) _ _ _ rfl ((unhide hI).alloc _) ⟨wr.heap.size, 0, none⟩ 1 1 [.int .u8 92] rfl rfl (byte_new _ _ _) (byte_one _) (by unfold maxLen; omega) (by omega) (by simp; omega) ?_)
        intro v1 w2 hown hg _
        have hI2 : Hid (Row w.heap.size v1 (quoteP ((bs s).take k) ++ [92]) w2) := by
          have h := row_snoc (c := 92) hown rfl
          exact h
        have hB2 : Hid (Below w.heap.size w w2) := ((unhide hnx).alloc hsz _).grown hg (by simp; omega) (row_lo (unhide hI))
        have hs2 := (unhide hB2).size
        clear hown hg hI hnx
        have hl2 : (quoteP ((bs s).take k) ++ [92]).length ≤ 2 * s.size + 1 := by rw [List.length_append]; simp; omega
        generalize hMe : quoteP ((bs s).take k) ++ [92] = M at *
        have HME := hide hMe
        clear hMe
        go_wp2_with (at_builtin; refine wpList_append_own _ rfl _ _ 52 rfl w.heap.size 5 i0 (.int .u8 0) 1 1 Try.underlying52 hi hz0 hz1 hz2 rfl (by decide) _ _ _ rfl ((unhide hI2).alloc _) ⟨w2.heap.size, 0, none⟩ 1 1 [.int .u8 42] rfl rfl (byte_new _ _ _) (byte_one _) (by unfold maxLen; omega) (by omega) (by simp; omega) ?_)
        intro v2 w3 hown hg _
        have hI3 : Hid (Row w.heap.size v2 (M ++ [42]) w3) := by
          have h := row_snoc (c := 42) hown rfl
          exact h
        have hB3 : Hid (Below w.heap.size w w3) := ((unhide hB2).alloc hs2 _).grown hg (by simp; omega) (row_lo (unhide hI2))
        have hs3 := (unhide hB3).size
        clear hown hg hI2 hB2
        have hI4 : Hid (Row w.heap.size v2 (quoteP ((bs s).take (k + 1))) w3) := by
          rw [unhide hsn, show ([92, 42] : Bs) = [92] ++ [42] from rfl, ← List.append_assoc, unhide HME]; exact unhide hI3
        clear hI3 hsn hl2 HME
        go_wp2_with fail
        go_roundw
        case rel => exact ⟨_, k + 1, by omega, rfl, by go_num, hI4, hB3⟩
        case measure => simp [intOf]; omega
      · have := hsz
        by_cases h63 : s[k] = 63
        · have hc : (s[k].toNat : Int) = 63 := by rw [h63]; rfl
          have hsg : sign s[k] = true := by rw [h63]; rfl
          rw [hsg, if_pos rfl, h63] at hsn
          clear hsg h63 h42
          go_wp2_with (at_builtin; refine wpList_append_own _ rfl _ _ 52 rfl w.heap.size 5 i0 (.int .u8 0) 1 1 Try.underlying52 hi hz0 hz1 hz2 rfl (by decide) _ _ _ rfl ((unhide hI).alloc _) ⟨wr.heap.size, 0, none⟩ 1 1 [.int .u8 92] rfl rfl (byte_new _ _ _) (byte_one _) (by unfold maxLen; omega) (by omega) (by simp; omega) ?_)
          intro v1 w2 hown hg _
          have hI2 : Hid (Row w.heap.size v1 (quoteP ((bs s).take k) ++ [92]) w2) := by
            have h := row_snoc (c := 92) hown rfl
            exact h
          have hB2 : Hid (Below w.heap.size w w2) := ((unhide hnx).alloc hsz _).grown hg (by simp; omega) (row_lo (unhide hI))
          have hs2 := (unhide hB2).size
          clear hown hg hI hnx
          have hl2 : (quoteP ((bs s).take k) ++ [92]).length ≤ 2 * s.size + 1 := by rw [List.length_append]; simp; omega
          generalize hMe : quoteP ((bs s).take k) ++ [92] = M at *
          have HME := hide hMe
          clear hMe
          go_wp2_with (at_builtin; refine wpList_append_own _ rfl _ _ 52 rfl w.heap.size 5 i0 (.int .u8 0) 1 1 Try.underlying52 hi hz0 hz1 hz2 rfl (by decide) _ _ _ rfl ((unhide hI2).alloc _) ⟨w2.heap.size, 0, none⟩ 1 1 [.int .u8 63] rfl rfl (byte_new _ _ _) (byte_one _) (by unfold maxLen; omega) (by omega) (by simp; omega) ?_)
          intro v2 w3 hown hg _
          have hI3 : Hid (Row w.heap.size v2 (M ++ [63]) w3) := by
            have h := row_snoc (c := 63) hown rfl
            exact h
          have hB3 : Hid (Below w.heap.size w w3) := ((unhide hB2).alloc hs2 _).grown hg (by simp; omega) (row_lo (unhide hI2))
          have hs3 := (unhide hB3).size
          clear hown hg hI2 hB2
          have hI4 : Hid (Row w.heap.size v2 (quoteP ((bs s).take (k + 1))) w3) := by
            rw [unhide hsn, show ([92, 63] : Bs) = [92] ++ [63] from rfl, ← List.append_assoc, unhide HME]; exact unhide hI3
          clear hI3 hsn hl2 HME
          go_wp2_with fail
          go_roundw
          case rel => exact ⟨_, k + 1, by omega, rfl, by go_num, hI4, hB3⟩
          case measure => simp [intOf]; omega
        · have := hsz
          by_cases h91 : s[k] = 91
          · have hc : (s[k].toNat : Int) = 91 := by rw [h91]; rfl
            have hsg : sign s[k] = true := by rw [h91]; rfl
            rw [hsg, if_pos rfl, h91] at hsn
            clear hsg h91 h42 h63
            go_wp2_with (at_builtin; refine wpList_append_own _ rfl _ _ 52 rfl w.heap.size 5 i0 (.int .u8 0) 1 1 Try.underlying52 hi hz0 hz1 hz2 rfl (by decide) _ _ _ rfl ((unhide hI).alloc _) ⟨wr.heap.size, 0, none⟩ 1 1 [.int .u8 92] rfl rfl (byte_new _ _ _) (byte_one _) (by unfold maxLen; omega) (by omega) (by simp; omega) ?_)
            intro v1 w2 hown hg _
            have hI2 : Hid (Row w.heap.size v1 (quoteP ((bs s).take k) ++ [92]) w2) := by
              have h := row_snoc (c := 92) hown rfl
              exact h
            have hB2 : Hid (Below w.heap.size w w2) := ((unhide hnx).alloc hsz _).grown hg (by simp; omega) (row_lo (unhide hI))
            have hs2 := (unhide hB2).size
            clear hown hg hI hnx
            have hl2 : (quoteP ((bs s).take k) ++ [92]).length ≤ 2 * s.size + 1 := by rw [List.length_append]; simp; omega
            generalize hMe : quoteP ((bs s).take k) ++ [92] = M at *
            have HME := hide hMe
            clear hMe
            go_wp2_with (at_builtin; refine wpList_append_own _ rfl _ _ 52 rfl w.heap.size 5 i0 (.int .u8 0) 1 1 Try.underlying52 hi hz0 hz1 hz2 rfl (by decide) _ _ _ rfl ((unhide hI2).alloc _) ⟨w2.heap.size, 0, none⟩ 1 1 [.int .u8 91] rfl rfl (byte_new _ _ _) (byte_one _) (by unfold maxLen; omega) (by omega) (by simp; omega) ?_)
            intro v2 w3 hown hg _
            have hI3 : Hid (Row w.heap.size v2 (M ++ [91]) w3) := by
              have h := row_snoc (c := 91) hown rfl
              exact h
            have hB3 : Hid (Below w.heap.size w w3) := ((unhide hB2).alloc hs2 _).grown hg (by simp; omega) (row_lo (unhide hI2))
            have hs3 := (unhide hB3).size
            clear hown hg hI2 hB2
            have hI4 : Hid (Row w.heap.size v2 (quoteP ((bs s).take (k + 1))) w3) := by
              rw [unhide hsn, show ([92, 91] : Bs) = [92] ++ [91] from rfl, ← List.append_assoc, unhide HME]; exact unhide hI3
            clear hI3 hsn hl2 HME
            go_wp2_with fail
            go_roundw
            case rel => exact ⟨_, k + 1, by omega, rfl, by go_num, hI4, hB3⟩
            case measure => simp [intOf]; omega
          · have := hsz
            by_cases h92 : s[k] = 92
            · have hc : (s[k].toNat : Int) = 92 := by rw [h92]; rfl
              have hsg : sign s[k] = true := by rw [h92]; rfl
              rw [hsg, if_pos rfl, h92] at hsn
              clear hsg h92 h42 h63 h91
              go_wp2_with (at_builtin; refine wpList_append_own _ rfl _ _ 52 rfl w.heap.size 5 i0 (.int .u8 0) 1 1 Try.underlying52 hi hz0 hz1 hz2 rfl (by decide) _ _ _ rfl ((unhide hI).alloc _) ⟨wr.heap.size, 0, none⟩ 1 1 [.int .u8 92] rfl rfl (byte_new _ _ _) (byte_one _) (by unfold maxLen; omega) (by omega) (by simp; omega) ?_)
              intro v1 w2 hown hg _
              have hI2 : Hid (Row w.heap.size v1 (quoteP ((bs s).take k) ++ [92]) w2) := by
                have h := row_snoc (c := 92) hown rfl
                exact h
              have hB2 : Hid (Below w.heap.size w w2) := ((unhide hnx).alloc hsz _).grown hg (by simp; omega) (row_lo (unhide hI))
              have hs2 := (unhide hB2).size
              clear hown hg hI hnx
              have hl2 : (quoteP ((bs s).take k) ++ [92]).length ≤ 2 * s.size + 1 := by rw [List.length_append]; simp; omega
              generalize hMe : quoteP ((bs s).take k) ++ [92] = M at *
              have HME := hide hMe
              clear hMe
              go_wp2_with (at_builtin; refine wpList_append_own _ rfl _ _ 52 rfl w.heap.size 5 i0 (.int .u8 0) 1 1 Try.underlying52 hi hz0 hz1 hz2 rfl (by decide) _ _ _ rfl ((unhide hI2).alloc _) ⟨w2.heap.size, 0, none⟩ 1 1 [.int .u8 92] rfl rfl (byte_new _ _ _) (byte_one _) (by unfold maxLen; omega) (by omega) (by simp; omega) ?_)
              intro v2 w3 hown hg _
              have hI3 : Hid (Row w.heap.size v2 (M ++ [92]) w3) := by
                have h := row_snoc (c := 92) hown rfl
                exact h
              have hB3 : Hid (Below w.heap.size w w3) := ((unhide hB2).alloc hs2 _).grown hg (by simp; omega) (row_lo (unhide hI2))
              have hs3 := (unhide hB3).size
              clear hown hg hI2 hB2
              have hI4 : Hid (Row w.heap.size v2 (quoteP ((bs s).take (k + 1))) w3) := by
                rw [unhide hsn, show ([92, 92] : Bs) = [92] ++ [92] from rfl, ← List.append_assoc, unhide HME]; exact unhide hI3
              clear hI3 hsn hl2 HME
              go_wp2_with fail
              go_roundw
              case rel => exact ⟨_, k + 1, by omega, rfl, by go_num, hI4, hB3⟩
              case measure => simp [intOf]; omega
            · have hsg : sign s[k] = false := by simp [sign, h42, h63, h91, h92]
              rw [hsg] at hsn
              have n42 : ¬ (s[k].toNat : Int) = 42 := fun e => h42 (u8_eq e)
              have n63 : ¬ (s[k].toNat : Int) = 63 := fun e => h63 (u8_eq e)
              have n91 : ¬ (s[k].toNat : Int) = 91 := fun e => h91 (u8_eq e)
              have n92 : ¬ (s[k].toNat : Int) = 92 := fun e => h92 (u8_eq e)
              clear hsg h42 h63 h91 h92
              go_wp2_with (at_builtin; refine wpList_append_own _ rfl _ _ 52 rfl w.heap.size 5 i0 (.int .u8 0) 1 1 Try.underlying52 hi hz0 hz1 hz2 rfl (by decide) _ _ _ rfl ((unhide hI).alloc _) ⟨wr.heap.size, 0, none⟩ 1 1 [.int .u8 (s[k].toNat : Int)] rfl rfl (byte_new _ _ _) (byte_one _) (by unfold maxLen; omega) (by omega) (by simp; omega) ?_)
              intro v2 w3 hown hg _
              have hI3 : Hid (Row w.heap.size v2 (quoteP ((bs s).take k) ++ [s[k]]) w3) := by
                have h := row_snoc (c := s[k]) hown rfl
                exact h
              have hB3 : Hid (Below w.heap.size w w3) := ((unhide hnx).alloc hsz _).grown hg (by simp; omega) (row_lo (unhide hI))
              have hs3 := (unhide hB3).size
              clear hown hg hI hnx
              have hI4 : Hid (Row w.heap.size v2 (quoteP ((bs s).take (k + 1))) w3) := by
                rw [unhide hsn]; exact unhide hI3
              clear hI3 hsn
              go_wp2_with fail
              go_roundw
              case rel => exact ⟨_, k + 1, by omega, rfl, by go_num, hI4, hB3⟩
              case measure => simp [intOf]; omega
    · have hkn : (bs s).take k = bs s := take_all s k (by omega)
      rw [hkn] at hI
      clear hkn
      have hcv := cv_back (quoteP (bs s)) (unhide hI)
      obtain ⟨R, hR⟩ : ∃ R : ByteArray, R = ⟨(quoteP (bs s)).toArray⟩ := ⟨_, rfl⟩
      rw [← hR] at hcv
      have HR := hide hR
      obtain ⟨av, cv, hv⟩ := row_slice (unhide hI)
      generalize (quoteP (bs s)).length = L at *
      subst hv
      clear hI hR
      go_wp2_with fail
      go_ret
      exact ⟨by rw [← unhide HR]; rfl, unhide hnx⟩
theorem globsQuotes_any (s : ByteArray) (w : World) (hs : s.size ≤ 4611686018427387904) :
    Calls Try.prog 4 #[.string s] w fun e w' => e = .returned (.bool true) ∧ Below w.heap.size w w' := by
  have hc : (w.alloc (.cells #[.int .i64 (s.size : Int)] 3)).cell? ⟨w.heap.size, 0, none⟩ = some (.int .i64 s.size) := by simp
  have HB := hide (Beyond.beyond_one (s.size : Int) w.heap.size _ hc (by omega) (by omega))
  have hb0 : Below w.heap.size w (w.alloc (.cells #[.int .i64 (s.size : Int)] 3)) := (Below.refl _ _).alloc (Nat.le_refl _) _
  by_cases h1 : 1048576 < (s.size : Int)
  · rw [decide_eq_true h1] at HB
    clear hc
    go_enter Try.func4, Try.ntmps4
    go_wp2_with fail
    refine (unhide HB).mono ?_
    rintro e w1 ⟨rfl, rfl⟩
    go_wp2_with fail
    go_ret
    exact ⟨rfl, hb0⟩
  · rw [decide_eq_false h1] at HB
    obtain ⟨R, hR⟩ : ∃ R : ByteArray, R = ⟨(quoteP (bs s)).toArray⟩ := ⟨_, rfl⟩
    have HQ := hide (fun W => quote_any s W (by omega))
    have HQ2 := hide (fun W => rquote_any s W (by omega))
    rw [← hR] at HQ HQ2
    clear hc hR
    go_enter Try.func4, Try.ntmps4
    go_wp2_with fail
    refine (unhide HB).mono ?_
    rintro e w1 ⟨rfl, rfl⟩
    clear HB
    go_wp2_with fail
    refine (unhide HQ _).mono ?_
    rintro e w2 ⟨rfl, c2⟩
    have b2 := hb0.trans (c2.mono hb0.size)
    clear c2
    go_wp2_with fail
    refine (unhide HQ2 _).mono ?_
    rintro e w3 ⟨rfl, c3⟩
    have b3 := b2.trans (c3.mono b2.size)
    clear c3
    go_wp2_with fail
    go_ret
    refine ⟨congrArg (fun b => Ending.returned (.bool b)) ?_, b3⟩
    simp
end Go.Proofs.Ytelijbnamiefcaa.Gl
