/- What the document's own Expand answers. -/
import Derived.Test.YtpfdjnnnemkoiaaCuExp
namespace Go.Proofs.Ytpfdjnnnemkoiaa.Cu
open Go.RowKit

set_option maxHeartbeats 1000000 in
set_option maxRecDepth 100000 in
theorem rexpand_any (s : ByteArray) (n : Int) (w : World) (hs : s.size ≤ 4611686018427387904) :
    Calls Try.prog 15 #[.string s, .int .i64 n] w fun e w' => e = .returned (exAns n (bs s)) ∧ Below w.heap.size w w' := by
  obtain ⟨i0, hi, hz0, hz1, hz2⟩ := info_parts Try.infoByte
  by_cases h1 : n < 1
  · have ea : exAns n (bs s) = .tuple #[noText, .int .i64 1] := by simp [exAns, h1]
    rw [ea]
    clear ea
    go_enter Try.func15, Try.ntmps15
    go_wp2_with fail
    go_ret2
    exact ⟨rfl, Below.refl _ _⟩
  by_cases h2 : 100 < n
  · have ea : exAns n (bs s) = .tuple #[noText, .int .i64 1] := by simp [exAns, h2]
    rw [ea]
    clear ea
    go_enter Try.func15, Try.ntmps15
    go_wp2_with fail
    go_ret2
    exact ⟨rfl, Below.refl _ _⟩
  obtain ⟨m, rfl⟩ : ∃ m : Nat, n = (m : Int) := ⟨n.toNat, by omega⟩
  have ea : exAns (m : Int) (bs s) = if 1048576 < (ex m 0 (bs s)).length then .tuple #[noText, .int .i64 3] else .tuple #[.string ⟨(ex m 0 (bs s)).toArray⟩, .int .i64 0] := by simp [exAns, h1, h2]
  have EA := hide ea
  clear ea
  have hm0 : ¬ (m : Int) = 0 := by omega
  have hm1 : 0 < m := by omega
  have hm2 : m ≤ 100 := by omega
  go_enter Try.func15, Try.ntmps15
  go_wp2_with fail
  go_loopw [6, 7, 8] (fun u ln i wr => ∃ (k col : Nat) (l : Bs), k ≤ s.size ∧ i = .int .i64 k ∧ ln = .int .i64 col ∧ col ≤ l.length ∧ l.length ≤ 1048576 ∧ Hid (ex m 0 (bs s) = l ++ ex m col ((bs s).drop k)) ∧ Hid (Row w.heap.size u l wr) ∧ Hid (Below w.heap.size w wr)) (fun _ _ i _ => s.size - (intOf i).toNat)
  case atStart => exact ⟨0, 0, [], by omega, rfl, rfl, by simp, by simp, rfl, row_nil _ _, Below.refl _ _⟩
  case round =>
    obtain ⟨k, col, l, hk, rfl, rfl, hal, hl, hex, hrow, hbl⟩ := hrel
    have hsz := (unhide hbl).size
    obtain ⟨sa, sc, hv⟩ := row_slice (unhide hrow)
    subst hv
    by_cases hlt : k < s.size
    · have hlt' : (k : Int) < (s.size : Int) := by omega
      have hat := hide (bs_at s k hlt)
      obtain ⟨c, hc⟩ : ∃ c, c = s[k] := ⟨_, rfl⟩
      obtain ⟨L, hL⟩ : ∃ L, L = l.length + 1 := ⟨_, rfl⟩
      have hL2 : L ≤ 1073741824 := by omega
      have hcol : col ≤ 1048576 := by omega
      by_cases h9 : c = 9
      · have e9 : (s[k].toNat : Int) = 9 := by rw [← hc, h9]; rfl
        go_wp2_with (at_builtin; refine wpList_append_own _ rfl _ _ 39 rfl w.heap.size 5 i0 (.int .u8 0) 1 1 Try.underlying39 hi hz0 hz1 hz2 rfl (by decide) _ _ _ rfl ((unhide hrow).alloc _) ⟨wr.heap.size, 0, none⟩ 1 1 [.int .u8 32] rfl rfl (byte_new _ _ _) (byte_one _) (by unfold maxLen; omega) (by omega) (by simp; omega) ?_; intro v' w9 hown9 hg9 hnil9; obtain ⟨g', cap', hv9⟩ := ownsRow_succ hown9; rw [← hL] at hv9; subst hv9; have hB9 : Hid (Below w.heap.size w w9) := (unhide hbl).grown (grown_alloc hg9) hsz (row_lo (unhide hrow)); have hW9 := hide hown9; clear hown9 hg9 hnil9; have HL := hide hL; clear hL; have HAL := hide hal; clear hal hc)
        have hgl := gap_le m col
        have hgp := gap_pos m col hm1
        have hcl : col ≤ l.length := unhide HAL
        have hrow1 : Hid (Row w.heap.size (.slice (some ⟨g', 0, none⟩) L cap') (l ++ List.replicate 1 32) w9) := row_snoc (unhide hW9) rfl
        have hx : Hid (ex m 0 (bs s) = (l ++ List.replicate (gap m col) 32) ++ ex m (col + gap m col) ((bs s).drop (k + 1))) := by
          rw [unhide hex, unhide hat, show s[k] = 9 from u8_eq e9, ex_tab, List.append_assoc]; exact rfl
        clear hW9 hrow hex hat hbl hsz HL HAL e9 h9
        go_loopw [6, 7] (fun u ah wr => ∃ j : Nat, 1 ≤ j ∧ j ≤ gap m col ∧ ah = .int .i64 ((col + j : Nat) : Int) ∧ Hid (Row w.heap.size u (l ++ List.replicate j 32) wr) ∧ Hid (Below w.heap.size w wr)) (fun _ ah _ => col + gap m col - (intOf ah).toNat)
        case atStart => exact ⟨1, by omega, by omega, by go_num, hrow1, hB9⟩
        case round =>
          obtain ⟨j, hj1, hj2, rfl, hrow, hbl⟩ := hrel
          have hsz := (unhide hbl).size
          obtain ⟨sa, sc, hv⟩ := row_slice (unhide hrow)
          have hll : (l ++ List.replicate j (32 : UInt8)).length = l.length + j := by simp
          rw [hll] at hv
          subst hv
          obtain ⟨C, hC⟩ : ∃ C, C = col + j := ⟨_, rfl⟩
          rw [← hC]
          have hC2 : C ≤ 1073741824 := by omega
          by_cases hmod : C % m = 0
          · have hmod' : ((C : Int) % (m : Int)) = 0 := by omega
            have hje : j = gap m col := gap_first m col j hm1 hj1 hj2 (by rw [← hC]; exact hmod)
            have HJ := hide hje
            have HC := hide hC
            clear hje hC
            by_cases hbig : 1048576 < l.length + j
            · have hr : Hid (exAns (m : Int) (bs s) = .tuple #[noText, .int .i64 3]) := by
                rw [unhide EA, if_pos (by rw [unhide hx, List.length_append, ← unhide HJ, hll]; omega)]; exact rfl
              clear hmod hrow1 hx
              go_wp2_with fail
              go_ret2
              exact ⟨by rw [unhide hr]; rfl, unhide hbl⟩
            · clear hmod hrow1
              go_wp2_with fail
              have hje := unhide HJ
              have hC := unhide HC
              go_roundw
              case rel => exact ⟨k + 1, C, l ++ List.replicate j 32, by omega, by go_num, rfl, by rw [hll]; omega, by rw [hll]; omega, (by rw [hje] at hC ⊢; rw [hC]; exact hx), hrow, hbl⟩
              case measure => simp [intOf]; omega
          · have hmod' : ¬ ((C : Int) % (m : Int)) = 0 := by omega
            have hjlt : j < gap m col := by
              rcases Nat.lt_or_ge j (gap m col) with h | h
              · exact h
              · exact absurd (by rw [hC, show j = gap m col by omega]; exact gap_mod m col hm1) hmod
            clear hmod hrow1
            have HC := hide hC
            clear hC
            go_wp2_with (at_builtin; refine wpList_append_own _ rfl _ _ 39 rfl w.heap.size 5 i0 (.int .u8 0) 1 1 Try.underlying39 hi hz0 hz1 hz2 rfl (by decide) _ _ _ rfl ((unhide hrow).alloc _) ⟨wr.heap.size, 0, none⟩ 1 1 [.int .u8 32] rfl rfl (byte_new _ _ _) (byte_one _) (by rw [hll]; unfold maxLen; omega) (by rw [hll]; omega) (by simp; omega) ?_; intro v' w9 hown9 hg9 hnil9; have hB9 : Hid (Below w.heap.size w w9) := (unhide hbl).grown (grown_alloc hg9) hsz (row_lo (unhide hrow)); have hW9 : Hid (Row w.heap.size v' (l ++ List.replicate (j + 1) 32) w9) := (by rw [rep_snoc]; exact row_snoc hown9 rfl); clear hown9 hg9 hnil9)
            have hC := unhide HC
            go_roundw
            case rel => exact ⟨j + 1, by omega, by omega, by go_num, hW9, hB9⟩
            case measure => simp [intOf]; omega
      · have e9 : ¬ (s[k].toNat : Int) = 9 := fun e => h9 (by rw [hc]; exact u8_eq e)
        by_cases h10 : c = 10
        · have e10 : (s[k].toNat : Int) = 10 := by rw [← hc, h10]; rfl
          have hx : Hid (ex m 0 (bs s) = (l ++ [10]) ++ ex m 0 ((bs s).drop (k + 1))) := by
            rw [unhide hex, unhide hat, ← hc, h10, ex_end, List.append_assoc]; exact rfl
          by_cases hbig : 1048576 < L
          · have hr : Hid (exAns (m : Int) (bs s) = .tuple #[noText, .int .i64 3]) := by
              rw [unhide EA, if_pos (by rw [unhide hx]; simp; omega)]; exact rfl
            clear hx hex hat
            go_wp2_with (at_builtin; refine wpList_append_own _ rfl _ _ 39 rfl w.heap.size 5 i0 (.int .u8 0) 1 1 Try.underlying39 hi hz0 hz1 hz2 rfl (by decide) _ _ _ rfl ((unhide hrow).alloc _) ⟨wr.heap.size, 0, none⟩ 1 1 [.int .u8 10] rfl rfl (byte_new _ _ _) (byte_one _) (by unfold maxLen; omega) (by omega) (by simp; omega) ?_; intro v' w9 hown9 hg9 hnil9; obtain ⟨g', cap', hv9⟩ := ownsRow_succ hown9; rw [← hL] at hv9; subst hv9; have hB9 : Hid (Below w.heap.size w w9) := (unhide hbl).grown (grown_alloc hg9) hsz (row_lo (unhide hrow)); have hW9 := hide hown9; clear hown9 hg9 hnil9; have HL := hide hL; clear hL; have HAL := hide hal; clear hal hc)
            go_ret2
            exact ⟨by rw [unhide hr]; rfl, unhide hB9⟩
          · clear hex hat
            go_wp2_with (at_builtin; refine wpList_append_own _ rfl _ _ 39 rfl w.heap.size 5 i0 (.int .u8 0) 1 1 Try.underlying39 hi hz0 hz1 hz2 rfl (by decide) _ _ _ rfl ((unhide hrow).alloc _) ⟨wr.heap.size, 0, none⟩ 1 1 [.int .u8 10] rfl rfl (byte_new _ _ _) (byte_one _) (by unfold maxLen; omega) (by omega) (by simp; omega) ?_; intro v' w9 hown9 hg9 hnil9; obtain ⟨g', cap', hv9⟩ := ownsRow_succ hown9; rw [← hL] at hv9; subst hv9; have hB9 : Hid (Below w.heap.size w w9) := (unhide hbl).grown (grown_alloc hg9) hsz (row_lo (unhide hrow)); have hW9 := hide hown9; clear hown9 hg9 hnil9; have HL := hide hL; clear hL; have HAL := hide hal; clear hal hc)
            have hL := unhide HL
            have hal := unhide HAL
            go_roundw
            case rel => exact ⟨k + 1, 0, l ++ [10], by omega, by go_num, by go_num, by simp, by simp; omega, hx, row_snoc (unhide hW9) rfl, hB9⟩
            case measure => simp [intOf]; omega
        · have e10 : ¬ (s[k].toNat : Int) = 10 := fun e => h10 (by rw [hc]; exact u8_eq e)
          have hx : Hid (ex m 0 (bs s) = (l ++ [s[k]]) ++ ex m (col + 1) ((bs s).drop (k + 1))) := by
            rw [unhide hex, unhide hat, ← hc, ex_else _ _ _ _ h9 h10, List.append_assoc]; exact rfl
          by_cases hbig : 1048576 < L
          · have hr : Hid (exAns (m : Int) (bs s) = .tuple #[noText, .int .i64 3]) := by
              rw [unhide EA, if_pos (by rw [unhide hx]; simp; omega)]; exact rfl
            clear hx hex hat
            go_wp2_with (at_builtin; refine wpList_append_own _ rfl _ _ 39 rfl w.heap.size 5 i0 (.int .u8 0) 1 1 Try.underlying39 hi hz0 hz1 hz2 rfl (by decide) _ _ _ rfl ((unhide hrow).alloc _) ⟨wr.heap.size, 0, none⟩ 1 1 [.int .u8 s[k].toNat] rfl rfl (byte_new _ _ _) (byte_one _) (by unfold maxLen; omega) (by omega) (by simp; omega) ?_; intro v' w9 hown9 hg9 hnil9; obtain ⟨g', cap', hv9⟩ := ownsRow_succ hown9; rw [← hL] at hv9; subst hv9; have hB9 : Hid (Below w.heap.size w w9) := (unhide hbl).grown (grown_alloc hg9) hsz (row_lo (unhide hrow)); have hW9 := hide hown9; clear hown9 hg9 hnil9; have HL := hide hL; clear hL; have HAL := hide hal; clear hal hc)
            go_ret2
            exact ⟨by rw [unhide hr]; rfl, unhide hB9⟩
          · clear hex hat
            go_wp2_with (at_builtin; refine wpList_append_own _ rfl _ _ 39 rfl w.heap.size 5 i0 (.int .u8 0) 1 1 Try.underlying39 hi hz0 hz1 hz2 rfl (by decide) _ _ _ rfl ((unhide hrow).alloc _) ⟨wr.heap.size, 0, none⟩ 1 1 [.int .u8 s[k].toNat] rfl rfl (byte_new _ _ _) (byte_one _) (by unfold maxLen; omega) (by omega) (by simp; omega) ?_; intro v' w9 hown9 hg9 hnil9; obtain ⟨g', cap', hv9⟩ := ownsRow_succ hown9; rw [← hL] at hv9; subst hv9; have hB9 : Hid (Below w.heap.size w w9) := (unhide hbl).grown (grown_alloc hg9) hsz (row_lo (unhide hrow)); have hW9 := hide hown9; clear hown9 hg9 hnil9; have HL := hide hL; clear hL; have HAL := hide hal; clear hal hc)
            have hL := unhide HL
            have hal := unhide HAL
            go_roundw
            case rel => exact ⟨k + 1, col + 1, l ++ [s[k]], by omega, by go_num, by go_num, by simp; omega, by simp; omega, hx, row_snoc (unhide hW9) rfl, hB9⟩
            case measure => simp [intOf]; omega
    · obtain rfl : k = s.size := by omega
      have hx : ex m 0 (bs s) = l := by rw [unhide hex, bs_end s _ (Nat.le_refl _)]; simp [ex]
      have hr : Hid (exAns (m : Int) (bs s) = .tuple #[.string ⟨l.toArray⟩, .int .i64 0]) := by
        rw [unhide EA, hx, if_neg (by omega)]; exact rfl
      have hcv := cv_back (W := wr) l (unhide hrow)
      clear hx hex
      go_wp2_with fail
      go_ret2
      exact ⟨by rw [unhide hr]; rfl, unhide hbl⟩
end Go.Proofs.Ytpfdjnnnemkoiaa.Cu
