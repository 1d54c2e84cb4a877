/- What the document's own Has and Last answer. -/
import Derived.Test.YtamgehfppeknhaaFlags
namespace Go.Proofs.Ytamgehfppeknhaa.Flags
open Go.RowKit

set_option maxHeartbeats 400000 in
theorem refHas_some (b off len cap : Nat) (L : Nat → Int) (A : Nat → ByteArray) (c : Int) (w : World) (h : At w b off len L A) (hlen : len ≤ 4611686018427387904) :
    Calls Try.prog 14 #[.slice (some ⟨b, off, none⟩) len cap, .int .u8 c] w fun e w' => e = .returned (.int .i64 (hasTo L c len)) ∧ w' = w := by
  go_enter Try.func14, Try.ntmps14
  go_wp2
  go_loop [5, 6] (fun n i => ∃ k : Nat, k ≤ len ∧ i = .int .i64 k ∧ n = .int .i64 (hasTo L c k)) (fun _ i => len - (intOf i).toNat)
  case atStart => exact ⟨0, Nat.zero_le _, rfl, rfl⟩
  case round =>
    obtain ⟨k, hk, rfl, rfl⟩ := hrel
    have hle := hasTo_le L c k
    by_cases hlt : k < len
    · have hc1 := (h k hlt).1
      by_cases he : L k = c
      · have hs : Hid (hasTo L c (k + 1) = hasTo L c k + 1) := by simp [hasTo, he, Hid]
        have hx : (L k == c) = true := by simp [he]
        clear he
        go_wp2
        go_round
        case rel => exact ⟨k + 1, by omega, by go_num, by rw [unhide hs]; go_num⟩
        case measure => simp [intOf]; omega
      · have hs : Hid (hasTo L c (k + 1) = hasTo L c k) := by simp [hasTo, he, Hid]
        have hx : (L k == c) = false := by simp [he]
        clear he
        go_wp2
        go_round
        case rel => exact ⟨k + 1, by omega, by go_num, by rw [unhide hs]⟩
        case measure => simp [intOf]; omega
    · have e : k = len := by omega
      subst e
      go_wp2
      go_ret
      exact ⟨rfl, rfl⟩

set_option maxHeartbeats 400000 in
theorem refHas_none (a : Option Addr) (cap : Nat) (c : Int) (w : World) :
    Calls Try.prog 14 #[.slice a 0 cap, .int .u8 c] w fun e w' => e = .returned (.int .i64 0) ∧ w' = w := by
  go_enter Try.func14, Try.ntmps14
  go_wp2
  refine wp_loop_rounds 1 ?_
  rw [rounds_succ]
  go_wp2
  go_ret
  exact ⟨rfl, rfl⟩

set_option maxHeartbeats 400000 in
theorem refLast_some (b off len cap : Nat) (L : Nat → Int) (A : Nat → ByteArray) (c : Int) (w : World) (h : At w b off len L A) (hlen : len ≤ 4611686018427387904) :
    Calls Try.prog 12 #[.slice (some ⟨b, off, none⟩) len cap, .int .u8 c] w fun e w' => e = .returned (.tuple #[.string (lastTo L A c len).1, .bool (lastTo L A c len).2]) ∧ w' = w := by
  go_enter Try.func12, Try.ntmps12
  go_wp2
  go_loop [6] (fun i => ∃ k : Nat, k ≤ len ∧ i = .int .i64 ((k : Int) - 1) ∧ Hid (lastTo L A c len = lastTo L A c k)) (fun i => (intOf i + 1).toNat)
  case atStart => exact ⟨len, Nat.le_refl _, rfl, rfl⟩
  case round =>
    obtain ⟨k, hk, rfl, hr⟩ := hrel
    by_cases hlt : 0 < k
    · obtain ⟨j, rfl⟩ : ∃ j, k = j + 1 := ⟨k - 1, by omega⟩
      have ej : ((j + 1 : Nat) : Int) - 1 = j := by omega
      rw [ej]
      have hc1 := (h j (by omega)).1
      have hc2 := (h j (by omega)).2
      by_cases he : L j = c
      · have hs : Hid (lastTo L A c len = (A j, true)) := by rw [unhide hr]; simp [lastTo, he, Hid]
        have hx : (L j == c) = true := by simp [he]
        clear he hr
        go_wp2
        go_ret2
        exact ⟨by rw [unhide hs]; rfl, rfl⟩
      · have hs : Hid (lastTo L A c len = lastTo L A c j) := by rw [unhide hr]; simp [lastTo, he, Hid]
        have hx : (L j == c) = false := by simp [he]
        clear he hr
        go_wp2
        go_round
        case rel => exact ⟨j, by omega, by go_num, hs⟩
        case measure => simp [intOf]
    · have e : k = 0 := by omega
      subst e
      have hs : Hid (lastTo L A c len = (ByteArray.empty, false)) := by rw [unhide hr]; rfl
      clear hr
      go_wp2
      go_ret2
      exact ⟨by rw [unhide hs]; rfl, rfl⟩

set_option maxHeartbeats 400000 in
theorem refLast_none (a : Option Addr) (cap : Nat) (c : Int) (w : World) :
    Calls Try.prog 12 #[.slice a 0 cap, .int .u8 c] w fun e w' => e = .returned (.tuple #[.string ByteArray.empty, .bool false]) ∧ w' = w := by
  go_enter Try.func12, Try.ntmps12
  go_wp2
  refine wp_loop_rounds 1 ?_
  rw [rounds_succ]
  go_wp2
  go_ret2
  exact ⟨rfl, rfl⟩

theorem refHas_any (a : Option Addr) (len cap : Nat) (L : Nat → Int) (A : Nat → ByteArray) (c : Int) (w : World) (h : Fl w a len L A) (hlen : len ≤ 4611686018427387904) :
    Calls Try.prog 14 #[.slice a len cap, .int .u8 c] w fun e w' => e = .returned (.int .i64 (hasTo L c len)) ∧ w' = w := by
  rcases h with rfl | ⟨b, off, rfl, h, hb⟩
  · exact refHas_none a cap c w
  · exact refHas_some b off len cap L A c w h hlen
theorem refLast_any (a : Option Addr) (len cap : Nat) (L : Nat → Int) (A : Nat → ByteArray) (c : Int) (w : World) (h : Fl w a len L A) (hlen : len ≤ 4611686018427387904) :
    Calls Try.prog 12 #[.slice a len cap, .int .u8 c] w fun e w' => e = .returned (.tuple #[.string (lastTo L A c len).1, .bool (lastTo L A c len).2]) ∧ w' = w := by
  rcases h with rfl | ⟨b, off, rfl, h, hb⟩
  · exact refLast_none a cap c w
  · exact refLast_some b off len cap L A c w h hlen
end Go.Proofs.Ytamgehfppeknhaa.Flags
