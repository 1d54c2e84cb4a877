/- What opts.Number answers. -/
import Derived.Test.YtebnmjelelkcmabRows
import Derived.Test.YtebnmjelelkcmabNumPlain
import Derived.WalkKit
import Derived.WalkSpells
namespace Go.Proofs.Ytebnmjelelkcmab.NumWalks
open Go.RowKit Plain

theorem isDigit_any (c : Int) (w : World) (h0 : 0 ≤ c) (h1 : c < 256) :
    Calls Try.prog 26 #[.int .u8 c] w fun e w' => e = .returned (.bool (decide (48 ≤ c ∧ c ≤ 57))) ∧ w' = w := by
  by_cases a : 48 ≤ c
  · by_cases b : c ≤ 57
    · go_enter Try.func26, Try.ntmps26
      go_wp2
      go_ret
      exact ⟨by simp [a, b], rfl⟩
    · go_enter Try.func26, Try.ntmps26
      go_wp2
      go_ret
      exact ⟨by simp; omega, rfl⟩
  · go_enter Try.func26, Try.ntmps26
    go_wp2
    go_ret
    exact ⟨by simp; omega, rfl⟩

set_option maxHeartbeats 400000 in
theorem number_no (s : ByteArray) (w : World) (h : s.size = 0) (hl : s.toList = []) :
    Calls Try.prog 16 #[.string s] w fun e w' => e = .returned (.tuple #[.int .i64 0, .bool false]) ∧ w' = w := by
  go_enter Try.func16, Try.ntmps16
  go_wp2
  go_ret2
  exact ⟨rfl, rfl⟩

set_option maxHeartbeats 400000 in
theorem number_plain (s : ByteArray) (w : World) (hs : s.size ≤ maxLen) (h : 0 < s.size) (hl : s.toList.isEmpty = false)
    (h18 : s.size ≤ 18) (h1 : ((s[0].toNat : Int) == 45) = false) (h2 : ((s[0].toNat : Int) == 43) = false) :
    Calls Try.prog 16 #[.string s] w fun e w' => e = .returned (ans 1 s) ∧ w' = w := by
  unfold maxLen at hs
  go_enter Try.func16, Try.ntmps16
  go_wp2
  obtain ⟨d, rfl⟩ : ∃ d, d = s := ⟨_, rfl⟩
  go_loop [6, 7] (fun v i => ∃ k : Nat, k ≤ d.size ∧ i = .int .i64 k ∧ (d.data.toList.take k).all dig = true ∧ v = .int .i64 (nval (d.data.toList.take k))) (fun _ i => d.size - (intOf i).toNat)
  case atStart => exact ⟨0, Nat.zero_le _, rfl, rfl, rfl⟩
  case round =>
    obtain ⟨k, hk, rfl, ha, rfl⟩ := hrel
    by_cases hlt : k < d.size
    · have hv := nval_lt _ ha 17 (by simp; omega)
      simp only [Int.reducePow] at hv
      by_cases hd : 48 ≤ (d[k].toNat : Int) ∧ (d[k].toNat : Int) ≤ 57
      · have st := hide (step d k hlt ha hd.1 hd.2)
        clear ha
        obtain ⟨hd1, hd2⟩ := hd
        go_wp2
        go_round
        case rel => exact ⟨k + 1, by omega, by go_num, (unhide st).1, by rw [(unhide st).2]⟩
        case measure => simp [intOf]; omega
      · have st := hide (stop d k hlt hd)
        clear ha
        go_wp2_with (go_at_call 26; refine (isDigit_any _ _ (by omega) (by have := d[k].toNat_lt; omega)).mono ?_; rintro e w' ⟨rfl, rfl⟩)
        go_ret2
        exact ⟨fin_no _ _ (unhide st), rfl⟩
    · have hds := done d k (by omega)
      rw [hds] at ha ⊢
      have hv := nval_lt _ ha 18 (by simp; omega)
      have ha' := hide ha
      clear ha hds
      simp only [Int.reducePow] at hv
      go_wp2
      go_ret2
      exact ⟨fin_yes _ _ _ (unhide ha') (by omega), rfl⟩

set_option maxHeartbeats 400000 in
theorem number_plus (s d : ByteArray) (w : World) (hs : s.size ≤ maxLen) (h : 0 < s.size) (hl : s.toList.isEmpty = false)
    (h1 : 2 ≤ s.size) (h18 : s.size ≤ 19) (hd : Hid (d = s.extract 1 s.size)) (h1 : ((s[0].toNat : Int) == 45) = false) (h2 : ((s[0].toNat : Int) == 43) = true) :
    Calls Try.prog 16 #[.string s] w fun e w' => e = .returned (ans 1 d ) ∧ w' = w := by
  unfold maxLen at hs
  go_enter Try.func16, Try.ntmps16
  go_wp2
  rw [← unhide hd]
  have hz : d.size ≤ 18 := by rw [unhide hd]; simp; omega
  go_loop [6, 7] (fun v i => ∃ k : Nat, k ≤ d.size ∧ i = .int .i64 k ∧ (d.data.toList.take k).all dig = true ∧ v = .int .i64 (nval (d.data.toList.take k))) (fun _ i => d.size - (intOf i).toNat)
  case atStart => exact ⟨0, Nat.zero_le _, rfl, rfl, rfl⟩
  case round =>
    obtain ⟨k, hk, rfl, ha, rfl⟩ := hrel
    by_cases hlt : k < d.size
    · have hv := nval_lt _ ha 17 (by simp; omega)
      simp only [Int.reducePow] at hv
      by_cases hd : 48 ≤ (d[k].toNat : Int) ∧ (d[k].toNat : Int) ≤ 57
      · have st := hide (step d k hlt ha hd.1 hd.2)
        clear ha
        obtain ⟨hd1, hd2⟩ := hd
        go_wp2
        go_round
        case rel => exact ⟨k + 1, by omega, by go_num, (unhide st).1, by rw [(unhide st).2]⟩
        case measure => simp [intOf]; omega
      · have st := hide (stop d k hlt hd)
        clear ha
        go_wp2_with (go_at_call 26; refine (isDigit_any _ _ (by omega) (by have := d[k].toNat_lt; omega)).mono ?_; rintro e w' ⟨rfl, rfl⟩)
        go_ret2
        exact ⟨fin_no _ _ (unhide st), rfl⟩
    · have hds := done d k (by omega)
      rw [hds] at ha ⊢
      have hv := nval_lt _ ha 18 (by simp; omega)
      have ha' := hide ha
      clear ha hds
      simp only [Int.reducePow] at hv
      go_wp2
      go_ret2
      exact ⟨fin_yes _ _ _ (unhide ha') (by omega), rfl⟩

set_option maxHeartbeats 400000 in
theorem number_minus (s d : ByteArray) (w : World) (hs : s.size ≤ maxLen) (h : 0 < s.size) (hl : s.toList.isEmpty = false)
    (h1 : 2 ≤ s.size) (h18 : s.size ≤ 19) (hd : Hid (d = s.extract 1 s.size)) (h1 : ((s[0].toNat : Int) == 45) = true) :
    Calls Try.prog 16 #[.string s] w fun e w' => e = .returned (ans (-1) d ) ∧ w' = w := by
  unfold maxLen at hs
  go_enter Try.func16, Try.ntmps16
  go_wp2
  rw [← unhide hd]
  have hz : d.size ≤ 18 := by rw [unhide hd]; simp; omega
  go_loop [6, 7] (fun v i => ∃ k : Nat, k ≤ d.size ∧ i = .int .i64 k ∧ (d.data.toList.take k).all dig = true ∧ v = .int .i64 (nval (d.data.toList.take k))) (fun _ i => d.size - (intOf i).toNat)
  case atStart => exact ⟨0, Nat.zero_le _, rfl, rfl, rfl⟩
  case round =>
    obtain ⟨k, hk, rfl, ha, rfl⟩ := hrel
    by_cases hlt : k < d.size
    · have hv := nval_lt _ ha 17 (by simp; omega)
      simp only [Int.reducePow] at hv
      by_cases hd : 48 ≤ (d[k].toNat : Int) ∧ (d[k].toNat : Int) ≤ 57
      · have st := hide (step d k hlt ha hd.1 hd.2)
        clear ha
        obtain ⟨hd1, hd2⟩ := hd
        go_wp2
        go_round
        case rel => exact ⟨k + 1, by omega, by go_num, (unhide st).1, by rw [(unhide st).2]⟩
        case measure => simp [intOf]; omega
      · have st := hide (stop d k hlt hd)
        clear ha
        go_wp2_with (go_at_call 26; refine (isDigit_any _ _ (by omega) (by have := d[k].toNat_lt; omega)).mono ?_; rintro e w' ⟨rfl, rfl⟩)
        go_ret2
        exact ⟨fin_no _ _ (unhide st), rfl⟩
    · have hds := done d k (by omega)
      rw [hds] at ha ⊢
      have hv := nval_lt _ ha 18 (by simp; omega)
      have ha' := hide ha
      clear ha hds
      simp only [Int.reducePow] at hv
      go_wp2
      go_ret2
      exact ⟨fin_yes _ _ _ (unhide ha') (by omega), rfl⟩


set_option maxHeartbeats 400000 in
theorem number_off (s : ByteArray) (w : World) (hs : s.size ≤ maxLen) (h : 0 < s.size) (hl : s.toList.isEmpty = false) (h18 : 18 < s.size) (h1 : ((s[0].toNat : Int) == 45) = false) (h2 : ((s[0].toNat : Int) == 43) = false) :
    Calls Try.prog 16 #[.string s] w fun e w' => e = .returned (.tuple #[.int .i64 0, .bool false]) ∧ w' = w := by
  unfold maxLen at hs
  go_enter Try.func16, Try.ntmps16
  go_wp2
  go_ret2
  exact ⟨rfl, rfl⟩
set_option maxHeartbeats 400000 in
theorem number_off_plus (s : ByteArray) (w : World) (hs : s.size ≤ maxLen) (h : 0 < s.size) (hl : s.toList.isEmpty = false) (h18 : s.size < 2 ∨ 19 < s.size) (h1 : ((s[0].toNat : Int) == 45) = false) (h2 : ((s[0].toNat : Int) == 43) = true) :
    Calls Try.prog 16 #[.string s] w fun e w' => e = .returned (.tuple #[.int .i64 0, .bool false]) ∧ w' = w := by
  unfold maxLen at hs
  rcases h18 with h18 | h18
  all_goals
    go_enter Try.func16, Try.ntmps16
    go_wp2
    go_ret2
    exact ⟨rfl, rfl⟩
set_option maxHeartbeats 400000 in
theorem number_off_minus (s : ByteArray) (w : World) (hs : s.size ≤ maxLen) (h : 0 < s.size) (hl : s.toList.isEmpty = false) (h18 : s.size < 2 ∨ 19 < s.size) (h1 : ((s[0].toNat : Int) == 45) = true) :
    Calls Try.prog 16 #[.string s] w fun e w' => e = .returned (.tuple #[.int .i64 0, .bool false]) ∧ w' = w := by
  unfold maxLen at hs
  rcases h18 with h18 | h18
  all_goals
    go_enter Try.func16, Try.ntmps16
    go_wp2
    go_ret2
    exact ⟨rfl, rfl⟩

theorem number_any (s : ByteArray) (w : World) (hs : s.size ≤ maxLen) :
    Calls Try.prog 16 #[.string s] w fun e w' => e = .returned (numAns s) ∧ w' = w := by
  by_cases h : s.size = 0
  · rw [numAns_nil s h]; exact number_no s w h (toList_nil s h)
  · have h0 : 0 < s.size := by omega
    have hl := toList_ne s h0
    cases a : ((s[0].toNat : Int) == 45)
    · cases b : ((s[0].toNat : Int) == 43)
      · by_cases h18 : s.size ≤ 18
        · rw [numAns_plain s h0 h18 a b]; exact number_plain s w hs h0 hl h18 a b
        · rw [numAns_off s (by omega) a b]; exact number_off s w hs h0 hl (by omega) a b
      · by_cases h18 : 2 ≤ s.size ∧ s.size ≤ 19
        · rw [numAns_sign s h18.1 h18.2 1 (.inr ⟨rfl, a, b⟩)]; exact number_plus s _ w hs h0 hl h18.1 h18.2 (hide rfl) a b
        · rw [numAns_off_sign s h0 (by omega) (.inr b)]; exact number_off_plus s w hs h0 hl (by omega) a b
    · by_cases h18 : 2 ≤ s.size ∧ s.size ≤ 19
      · rw [numAns_sign s h18.1 h18.2 (-1) (.inl ⟨rfl, a⟩)]; exact number_minus s _ w hs h0 hl h18.1 h18.2 (hide rfl) a
      · rw [numAns_off_sign s h0 (by omega) (.inl a)]; exact number_off_minus s w hs h0 hl (by omega) a

end Go.Proofs.Ytebnmjelelkcmab.NumWalks
