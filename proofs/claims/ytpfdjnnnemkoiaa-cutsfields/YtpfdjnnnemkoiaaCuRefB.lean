/- What the document's own Bytes answers; what is too great to be gone through. -/
import Derived.Test.YtpfdjnnnemkoiaaCuBytes
import Derived.Test.YtpfdjnnnemkoiaaCuTwin
namespace Go.Proofs.Ytpfdjnnnemkoiaa.Cu
open Go.RowKit Go.Shelf
open Ls (R Rg has)

theorem pick_take (p : Nat → Bool) (s : ByteArray) (k : Nat) (h : k < s.size) : pick p 0 ((bs s).take (k + 1)) = pick p 0 ((bs s).take k) ++ if p (k + 1) then [s[k]] else [] := by
  rw [show (bs s).take (k + 1) = (bs s).take k ++ [s[k]] from List.take_succ_eq_append_getElem (by simpa using h), pick_snoc]
  rw [List.length_take, Nat.min_eq_left (by rw [bs_len]; omega)]

set_option maxRecDepth 100000 in
set_option maxHeartbeats 1000000 in
theorem rbytes_any (s : ByteArray) (a : Option Addr) (n cap c' : Nat) (rs : List R) (w : World) (h : Rg w a n c' rs) (hn : n ≤ 4611686018427387904) (hs : s.size ≤ 1073741824) :
    Calls Try.prog 9 #[.string s, .slice a n cap] w fun e w' => e = .returned (.string (bt (pick (inL rs) 0 (bs s)))) ∧ Below w.heap.size w w' := by
  obtain ⟨i0, hi, hz0, hz1, hz2⟩ := info_parts Try.infoByte
  have HR := hide h
  clear h
  go_enter Try.func9, Try.ntmps9
  go_wp2_with fail
  go_loopw [5, 6] (fun u i wr => ∃ k : Nat, k ≤ s.size ∧ i = .int .i64 k ∧ Hid (Row w.heap.size u (pick (inL rs) 0 ((bs s).take k)) wr) ∧ Hid (Below w.heap.size w wr)) (fun _ i _ => s.size - (intOf i).toNat)
  case atStart => exact ⟨0, by omega, rfl, by rw [List.take_zero]; exact row_nil _ _, Below.refl _ _⟩
  case round =>
    obtain ⟨k, hk, rfl, hrow, hbl⟩ := hrel
    have hsz := (unhide hbl).size
    by_cases hlt : k < s.size
    · have hlt' : (k : Int) < (s.size : Int) := by omega
      have hpt := hide (pick_take (inL rs) s k hlt)
      have hlen : (pick (inL rs) 0 ((bs s).take k)).length ≤ 1073741824 := Nat.le_trans (pick_len _ _ _) (by simp; omega)
      have hcast : ((k + 1 : Nat) : Int) = (k : Int) + 1 := by omega
      have H := hide (Ls.rhas_any a n cap c' rs ((k + 1 : Nat) : Int) wr ((unhide HR).below (unhide hbl)) hn)
      rw [hcast] at H
      have hIn : Hid (has rs ((k : Int) + 1) = inL rs (k + 1)) := by rw [← hcast]; exact rfl
      rw [unhide hIn] at H
      clear hcast
      obtain ⟨L, hL⟩ : ∃ L, L = pick (inL rs) 0 ((bs s).take k) := ⟨_, rfl⟩
      rw [← hL] at hrow hpt hlen
      clear hL
      go_wp2_with fail
      refine (unhide H).mono ?_
      rintro e w2 ⟨rfl, rfl⟩
      clear H
      cases hb : inL rs (k + 1)
      · rw [hb] at hpt
        clear hb
        have hn' : Hid (Row w.heap.size u5 (pick (inL rs) 0 ((bs s).take (k + 1))) w2) := by rw [unhide hpt]; simpa [Hid] using unhide hrow
        go_wp2_with fail
        go_roundw
        case rel => exact ⟨k + 1, by omega, by go_num, hn', hbl⟩
        case measure => simp [intOf]; omega
      · rw [hb] at hpt
        clear hb
        go_wp2_with (at_builtin; refine wpList_append_own _ rfl _ _ 39 rfl w.heap.size 5 i0 (.int .u8 0) 1 1 Try.underlying39 hi hz0 hz1 hz2 rfl (by decide) _ _ _ rfl ((unhide hrow).alloc _) ⟨w2.heap.size, 0, none⟩ 1 1 [.int .u8 s[k].toNat] rfl rfl (byte_new _ _ _) (byte_one _) (by unfold maxLen; omega) (by omega) (by simp; omega) ?_; intro v' w9 hown9 hg9 hnil9)
        have hn' : Hid (Row w.heap.size v' (pick (inL rs) 0 ((bs s).take (k + 1))) w9) := by rw [unhide hpt]; exact row_snoc hown9 rfl
        have hB9 : Hid (Below w.heap.size w w9) := (unhide hbl).grown (grown_alloc hg9) hsz (row_lo (unhide hrow))
        clear hown9 hg9 hnil9
        go_roundw
        case rel => exact ⟨k + 1, by omega, by go_num, hn', hB9⟩
        case measure => simp [intOf]; omega
    · obtain rfl : k = s.size := by omega
      have hx : (bs s).take s.size = bs s := List.take_of_length_le (by simp)
      rw [hx] at hrow
      have hcv := cv_back (W := wr) _ (unhide hrow)
      go_wp2_with fail
      go_ret
      exact ⟨rfl, unhide hbl⟩

/-- neither is too great -/
def few (s : ByteArray) (n : Nat) : Prop := s.size ≤ 100000 ∧ n ≤ 5000
set_option maxHeartbeats 1000000 in
theorem great_any (s : ByteArray) (a : Option Addr) (n cap : Nat) (w : World) (hs : s.size ≤ 4611686018427387904) (hn : n ≤ 4611686018427387904) :
    Calls Try.prog 6 #[.string s, .slice a n cap] w fun e w' => w' = w ∧ (e = .returned (.bool true) ∨ (e = .returned (.bool false) ∧ few s n)) := by
  by_cases h1 : 100000 < s.size
  · go_enter Try.func6, Try.ntmps6
    go_wp2_with fail
    go_ret
    exact ⟨rfl, .inl rfl⟩
  by_cases h2 : 5000 < n
  · go_enter Try.func6, Try.ntmps6
    go_wp2_with fail
    go_ret
    exact ⟨rfl, .inl rfl⟩
  have h3 : s.size * n ≤ 100000 * 5000 := Nat.mul_le_mul (by omega) (by omega)
  have h4 : (s.size : Int) * (n : Int) ≤ 500000000 := by rw [← Int.natCast_mul]; omega
  have h5 : 0 ≤ (s.size : Int) * (n : Int) := by rw [← Int.natCast_mul]; omega
  by_cases h6 : (5000000 : Int) < (s.size : Int) * (n : Int)
  · have h1' : ¬ (100000 : Int) < (s.size : Int) := by omega
    have h2' : ¬ (5000 : Int) < (n : Int) := by omega
    clear h3 h1 h2
    go_enter Try.func6, Try.ntmps6
    go_wp2_with fail
    go_ret
    exact ⟨rfl, .inl rfl⟩
  · have hf : Hid (few s n) := ⟨by omega, by omega⟩
    have h1' : ¬ (100000 : Int) < (s.size : Int) := by omega
    have h2' : ¬ (5000 : Int) < (n : Int) := by omega
    clear h3 h1 h2
    go_enter Try.func6, Try.ntmps6
    go_wp2_with fail
    go_ret
    exact ⟨rfl, .inr ⟨rfl, unhide hf⟩⟩
end Go.Proofs.Ytpfdjnnnemkoiaa.Cu
