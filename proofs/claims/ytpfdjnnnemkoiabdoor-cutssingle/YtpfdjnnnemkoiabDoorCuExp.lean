/- What Expand answers. -/
import Derived.Test.YtpfdjnnnemkoiabDoorCuBase
import Derived.Lib.BufferRead
import Derived.RangeFuncBox
namespace Go.Proofs.YtpfdjnnnemkoiabDoor.Cu
open Go.RowKit

theorem rep_snoc (k : Nat) (l : Bs) : l ++ List.replicate (k + 1) (32 : UInt8) = (l ++ List.replicate k 32) ++ [32] := by rw [List.replicate_succ']; simp

set_option maxHeartbeats 1000000 in
set_option maxRecDepth 100000 in
theorem blanks_any (B : Nat) (v : Value) (l : Bs) (n : Nat) (w : World) (hrow : Row B v l w) (hB : B ≤ w.heap.size) (hn : n ≤ 100) (hl : l.length ≤ 1073741824) :
    Calls Tryd.prog 32 #[v, .int .i64 n] w fun e w' => ∃ v', e = .returned v' ∧ Row B v' (l ++ List.replicate n 32) w' ∧ Below B w w' := by
  obtain ⟨i0, hi, hz0, hz1, hz2⟩ := info_parts Tryd.infoByte
  have HR := hide hrow
  clear hrow
  go_enter Tryd.func32, Tryd.ntmps32
  go_wp2_with fail
  go_loopw [0, 6] (fun u i wr => ∃ k : Nat, k ≤ n ∧ i = .int .i64 k ∧ Hid (Row B u (l ++ List.replicate k 32) wr) ∧ Hid (Below B w wr)) (fun _ i _ => n - (intOf i).toNat)
  case atStart => exact ⟨0, by omega, rfl, by simpa [Hid] using unhide HR, Below.refl _ _⟩
  case round =>
    obtain ⟨k, hk, rfl, hrow, hbl⟩ := hrel
    by_cases hlt : k < n
    · have hlt' : (k : Int) < (n : Int) := by omega
      have hlen : (l ++ List.replicate k (32 : UInt8)).length ≤ 1073741824 + 100 := by simp; omega
      have hsz := Nat.le_trans hB (unhide hbl).size
      go_wp2_with (at_builtin; refine wpList_append_own _ rfl _ _ 34 rfl B 5 i0 (.int .u8 0) 1 1 Tryd.underlying34 hi hz0 hz1 hz2 rfl (by decide) _ _ _ rfl ((unhide hrow).alloc _) ⟨wr.heap.size, 0, none⟩ 1 1 [.int .u8 32] rfl rfl (byte_new _ _ _) (byte_one _) (by unfold maxLen; omega) (by omega) (by simp; omega) ?_; intro v' w9 hown9 hg9 hnil9)
      have hn' : Hid (Row B v' (l ++ List.replicate (k + 1) 32) w9) := by rw [rep_snoc]; exact row_snoc hown9 rfl
      have hb' : Hid (Below B w w9) := (unhide hbl).grown (grown_alloc hg9) hsz (row_lo (unhide hrow))
      clear hown9 hnil9 hg9
      go_roundw
      case rel => exact ⟨k + 1, by omega, by go_num, hn', hb'⟩
      case measure => simp [intOf]; omega
    · obtain rfl : k = n := by omega
      go_wp2_with fail
      go_ret
      exact ⟨_, rfl, unhide hrow, unhide hbl⟩

theorem cv_back {W : World} {base : Nat} {v : Value} (l : Bs) (h : Row base v l W) : (convert 34 9 v).run Tryd.prog W = .ok (.string ⟨l.toArray⟩) W := by
  rcases h.2 with ⟨rfl, h0⟩ | ⟨g, cap, cur, rfl, _⟩
  · obtain rfl : l = [] := List.eq_nil_of_length_eq_zero h0
    exact Lib.run_convert_nil_bytes W 34 9 5 0 Tryd.underlying34 Tryd.underlying5 Tryd.underlying9
  · refine run_convert_bytes_back W 34 9 5 ⟨g, 0, none⟩ cap l Tryd.underlying34 Tryd.underlying5 Tryd.underlying9 ?_
    intro j hj
    exact h.cells (g := g) rfl j _ (by simp [Lib.byteCells, List.getElem?_eq_getElem hj])

set_option maxHeartbeats 1000000 in
set_option maxRecDepth 100000 in
theorem expand_any (s : ByteArray) (n : Int) (w : World) (hs : s.size ≤ 4611686018427387904) :
    Calls Tryd.prog 14 #[.string s, .int .i64 n] w fun e w' => e = .returned (exAns n (bs s)) ∧ Below w.heap.size w w' := by
  obtain ⟨i0, hi, hz0, hz1, hz2⟩ := info_parts Tryd.infoByte
  by_cases h1 : n < 1
  · have ea : exAns n (bs s) = .tuple #[noText, .int .i64 1] := by simp [exAns, h1]
    rw [ea]
    clear ea
    go_enter Tryd.func14, Tryd.ntmps14
    go_wp2_with fail
    go_ret2
    exact ⟨rfl, Below.refl _ _⟩
  by_cases h2 : 100 < n
  · have ea : exAns n (bs s) = .tuple #[noText, .int .i64 1] := by simp [exAns, h2]
    rw [ea]
    clear ea
    go_enter Tryd.func14, Tryd.ntmps14
    go_wp2_with fail
    go_ret2
    exact ⟨rfl, Below.refl _ _⟩
  obtain ⟨m, rfl⟩ : ∃ m : Nat, n = (m : Int) := ⟨n.toNat, by omega⟩
  have ea : exAns (m : Int) (bs s) = if 1048576 < (ex m 0 (bs s)).length then .tuple #[noText, .int .i64 3] else .tuple #[.string ⟨(ex m 0 (bs s)).toArray⟩, .int .i64 0] := by simp [exAns, h1, h2]
  have EA := hide ea
  clear ea
  have hm0 : ¬ (m : Int) = 0 := by omega
  have hm1 : 0 < m := by omega
  have hm2 : m ≤ 100 := by omega
  go_enter Tryd.func14, Tryd.ntmps14
  go_wp2_with fail
  go_loopw [6, 7, 8] (fun u ln i wr => ∃ (k col a : Nat) (l : Bs), k ≤ s.size ∧ i = .int .i64 k ∧ ln = .int .i64 a ∧ a + col = l.length ∧ l.length ≤ 1048576 ∧ Hid (ex m 0 (bs s) = l ++ ex m col ((bs s).drop k)) ∧ Hid (Row w.heap.size u l wr) ∧ Hid (Below w.heap.size w wr)) (fun _ _ i _ => s.size - (intOf i).toNat)
  case atStart => exact ⟨0, 0, 0, [], by omega, rfl, rfl, rfl, by simp, rfl, row_nil _ _, Below.refl _ _⟩
  case round =>
    obtain ⟨k, col, a, l, hk, rfl, rfl, hal, hl, hex, hrow, hbl⟩ := hrel
    have hsz := (unhide hbl).size
    obtain ⟨sa, sc, hv⟩ := row_slice (unhide hrow)
    subst hv
    by_cases hlt : k < s.size
    · have hlt' : (k : Int) < (s.size : Int) := by omega
      have hat := hide (bs_at s k hlt)
      obtain ⟨c, hc⟩ : ∃ c, c = s[k] := ⟨_, rfl⟩
      by_cases h9 : c = 9
      · have e9 : (s[k].toNat : Int) = 9 := by rw [← hc, h9]; rfl
        go_wp2_with fail
        have hg : wrap64 ((m : Int) - ((l.length : Int) - (a : Int)) % (m : Int)) = ((gap m col : Nat) : Int) := by
          have := Nat.mod_lt col hm1
          rw [show (l.length : Int) - (a : Int) = (col : Int) by omega]
          unfold wrap64
          unfold gap
          omega
        rw [hg]
        have hgl := gap_le m col
        refine (blanks_any w.heap.size _ l (gap m col) wr (unhide hrow) hsz (by omega) (by omega)).mono ?_
        rintro e w2 ⟨v2, rfl, hrow2, hbl2⟩
        have hrow3 := hide hrow2
        have hbl3 : Hid (Below w.heap.size w w2) := (unhide hbl).trans hbl2
        have hx : Hid (ex m 0 (bs s) = (l ++ List.replicate (gap m col) 32) ++ ex m (col + gap m col) ((bs s).drop (k + 1))) := by
          rw [unhide hex, unhide hat, ← hc, h9, ex_tab, List.append_assoc]; exact rfl
        have hll : (l ++ List.replicate (gap m col) (32 : UInt8)).length = l.length + gap m col := by simp
        clear hrow hrow2 hbl2 hg hat hex
        obtain ⟨sa2, sc2, hv⟩ := row_slice (unhide hrow3)
        subst hv
        rw [hll]
        by_cases hbig : 1048576 < l.length + gap m col
        · have hr : Hid (exAns (m : Int) (bs s) = .tuple #[noText, .int .i64 3]) := by
            rw [unhide EA, if_pos (by rw [unhide hx, List.length_append, hll]; omega)]; exact rfl
          go_wp2_with fail
          go_ret2
          exact ⟨by rw [unhide hr]; rfl, unhide hbl3⟩
        · go_wp2_with fail
          go_roundw
          case rel => exact ⟨k + 1, col + gap m col, a, _, by omega, by go_num, rfl, by omega, by omega, hx, (by rw [hll] at hrow3; exact hrow3), hbl3⟩
          case measure => simp [intOf]; omega
      · have e9 : ¬ (s[k].toNat : Int) = 9 := fun e => h9 (by rw [hc]; exact u8_eq e)
        have hlen9 : l.length ≤ 1073741823 := by omega
        obtain ⟨L, hL⟩ : ∃ L, L = l.length + 1 := ⟨_, rfl⟩
        have hL2 : L ≤ 1073741824 := by omega
        by_cases h10 : c = 10
        · have e10 : (s[k].toNat : Int) = 10 := by rw [← hc, h10]; rfl
          have hx : Hid (ex m 0 (bs s) = (l ++ [10]) ++ ex m 0 ((bs s).drop (k + 1))) := by
            rw [unhide hex, unhide hat, ← hc, h10, ex_end, List.append_assoc]; exact rfl
          by_cases hbig : 1048576 < L
          · have hr : Hid (exAns (m : Int) (bs s) = .tuple #[noText, .int .i64 3]) := by
              rw [unhide EA, if_pos (by rw [unhide hx]; simp; omega)]; exact rfl
            clear hx hex hat
            go_wp2_with (at_builtin; refine wpList_append_own _ rfl _ _ 34 rfl w.heap.size 5 i0 (.int .u8 0) 1 1 Tryd.underlying34 hi hz0 hz1 hz2 rfl (by decide) _ _ _ rfl ((unhide hrow).alloc _) ⟨wr.heap.size, 0, none⟩ 1 1 [.int .u8 10] rfl rfl (byte_new _ _ _) (byte_one _) (by unfold maxLen; omega) (by omega) (by simp; omega) ?_; intro v' w9 hown9 hg9 hnil9; obtain ⟨g', cap', hv9⟩ := ownsRow_succ hown9; rw [← hL] at hv9; subst hv9; have hB9 : Hid (Below w.heap.size w w9) := (unhide hbl).grown (grown_alloc hg9) hsz (row_lo (unhide hrow)); have hW9 := hide hown9; clear hown9 hg9 hnil9; have HL := hide hL; clear hL; have HAL := hide hal; clear hal hc hlen9)
            go_ret2
            exact ⟨by rw [unhide hr]; rfl, unhide hB9⟩
          · clear hex hat
            go_wp2_with (at_builtin; refine wpList_append_own _ rfl _ _ 34 rfl w.heap.size 5 i0 (.int .u8 0) 1 1 Tryd.underlying34 hi hz0 hz1 hz2 rfl (by decide) _ _ _ rfl ((unhide hrow).alloc _) ⟨wr.heap.size, 0, none⟩ 1 1 [.int .u8 10] rfl rfl (byte_new _ _ _) (byte_one _) (by unfold maxLen; omega) (by omega) (by simp; omega) ?_; intro v' w9 hown9 hg9 hnil9; obtain ⟨g', cap', hv9⟩ := ownsRow_succ hown9; rw [← hL] at hv9; subst hv9; have hB9 : Hid (Below w.heap.size w w9) := (unhide hbl).grown (grown_alloc hg9) hsz (row_lo (unhide hrow)); have hW9 := hide hown9; clear hown9 hg9 hnil9; have HL := hide hL; clear hL; have HAL := hide hal; clear hal hc hlen9)
            have hL := unhide HL
            have hal := unhide HAL
            go_roundw
            case rel => exact ⟨k + 1, 0, L, l ++ [10], by omega, by go_num, by go_num, by simp; omega, by simp; omega, hx, row_snoc (unhide hW9) rfl, hB9⟩
            case measure => simp [intOf]; omega
        · have e10 : ¬ (s[k].toNat : Int) = 10 := fun e => h10 (by rw [hc]; exact u8_eq e)
          have hx : Hid (ex m 0 (bs s) = (l ++ [s[k]]) ++ ex m (col + 1) ((bs s).drop (k + 1))) := by
            rw [unhide hex, unhide hat, ← hc, ex_else _ _ _ _ h9 h10, List.append_assoc]; exact rfl
          by_cases hbig : 1048576 < L
          · have hr : Hid (exAns (m : Int) (bs s) = .tuple #[noText, .int .i64 3]) := by
              rw [unhide EA, if_pos (by rw [unhide hx]; simp; omega)]; exact rfl
            clear hx hex hat
            go_wp2_with (at_builtin; refine wpList_append_own _ rfl _ _ 34 rfl w.heap.size 5 i0 (.int .u8 0) 1 1 Tryd.underlying34 hi hz0 hz1 hz2 rfl (by decide) _ _ _ rfl ((unhide hrow).alloc _) ⟨wr.heap.size, 0, none⟩ 1 1 [.int .u8 s[k].toNat] rfl rfl (byte_new _ _ _) (byte_one _) (by unfold maxLen; omega) (by omega) (by simp; omega) ?_; intro v' w9 hown9 hg9 hnil9; obtain ⟨g', cap', hv9⟩ := ownsRow_succ hown9; rw [← hL] at hv9; subst hv9; have hB9 : Hid (Below w.heap.size w w9) := (unhide hbl).grown (grown_alloc hg9) hsz (row_lo (unhide hrow)); have hW9 := hide hown9; clear hown9 hg9 hnil9; have HL := hide hL; clear hL; have HAL := hide hal; clear hal hc hlen9)
            go_ret2
            exact ⟨by rw [unhide hr]; rfl, unhide hB9⟩
          · clear hex hat
            go_wp2_with (at_builtin; refine wpList_append_own _ rfl _ _ 34 rfl w.heap.size 5 i0 (.int .u8 0) 1 1 Tryd.underlying34 hi hz0 hz1 hz2 rfl (by decide) _ _ _ rfl ((unhide hrow).alloc _) ⟨wr.heap.size, 0, none⟩ 1 1 [.int .u8 s[k].toNat] rfl rfl (byte_new _ _ _) (byte_one _) (by unfold maxLen; omega) (by omega) (by simp; omega) ?_; intro v' w9 hown9 hg9 hnil9; obtain ⟨g', cap', hv9⟩ := ownsRow_succ hown9; rw [← hL] at hv9; subst hv9; have hB9 : Hid (Below w.heap.size w w9) := (unhide hbl).grown (grown_alloc hg9) hsz (row_lo (unhide hrow)); have hW9 := hide hown9; clear hown9 hg9 hnil9; have HL := hide hL; clear hL; have HAL := hide hal; clear hal hc hlen9)
            have hL := unhide HL
            have hal := unhide HAL
            go_roundw
            case rel => exact ⟨k + 1, col + 1, a, l ++ [s[k]], by omega, by go_num, rfl, by simp; omega, by simp; omega, hx, row_snoc (unhide hW9) rfl, hB9⟩
            case measure => simp [intOf]; omega
    · obtain rfl : k = s.size := by omega
      have hx : ex m 0 (bs s) = l := by rw [unhide hex, bs_end s _ (Nat.le_refl _)]; simp [ex]
      have hr : Hid (exAns (m : Int) (bs s) = .tuple #[.string ⟨l.toArray⟩, .int .i64 0]) := by
        rw [unhide EA, hx, if_neg (by omega)]; exact rfl
      have hcv := cv_back (W := wr) l (unhide hrow)
      clear hx hex
      go_wp2_with fail
      go_ret2
      exact ⟨by rw [unhide hr]; rfl, unhide hbl⟩
end Go.Proofs.YtpfdjnnnemkoiabDoor.Cu
