/- What LeftRanges and the document's Has and digits answer. -/
import Derived.Test.YtijoemamnkhhnaaDoorLsRefs
namespace Go.Proofs.YtijoemamnkhhnaaDoor.Ls
open Go.RowKit Go.Shelf

set_option maxHeartbeats 400000 in
theorem left_some (g b off len cap : Nat) (rs : List R) (w : World) (h : ∀ i, i < len → w.cell? ⟨b, off + i * 2, none⟩ = some (.int .i64 (rs.getD i rz).1) ∧ w.cell? ⟨b, off + i * 2 + 1, none⟩ = some (.int .i64 (rs.getD i rz).2)) (hb : b < w.heap.size) (hl : rs.length = len) (hlen : len ≤ 1048576) (ht : Twin w g rs) (hg : g < w.heap.size) (hp : 0 < len) :
    Calls Tryd.prog 14 #[.slice (some ⟨g, 0, none⟩) len (len + 1), .slice (some ⟨b, off, none⟩) len cap] w fun e w' => e = .returned (.bool true) ∧ Below w.heap.size w w' := by
  have HC := hide h
  have HT := hide ht
  rw [← hl] at HC
  have HL := hide hl
  clear h ht hl
  go_enter Tryd.func14, Tryd.ntmps14
  go_wp2
  go_loopw [5] (fun i wr => ∃ k : Nat, k ≤ len ∧ i = .int .i64 k ∧ Below w.heap.size w wr) (fun i _ => len - (intOf i).toNat)
  case atStart => exact ⟨0, Nat.zero_le _, rfl, Below.refl _ _⟩
  case round =>
    obtain ⟨k, hk, rfl, hnx⟩ := hrel
    have hsz := hnx.size
    by_cases hlt : k < len
    · have hlt' : (k : Int) < (len : Int) := by omega
      have hkl : k < rs.length := by rw [unhide HL]; exact hlt
      have hc1 := (hnx.cell (p := ⟨b, off + k * 2, none⟩) hb).trans (unhide HC k hkl).1
      have hc2 := (hnx.cell (p := ⟨b, off + k * 2 + 1, none⟩) hb).trans (unhide HC k hkl).2
      have hd1 := (hnx.cell (p := ⟨g, 0 + k * 2, none⟩) hg).trans ((unhide HT).1 k hkl).1
      have hd2 := (hnx.cell (p := ⟨g, 0 + k * 2 + 1, none⟩) hg).trans ((unhide HT).1 k hkl).2
      rw [Nat.zero_add] at hd1 hd2
      obtain ⟨r, hx⟩ : ∃ r, r = rs.getD k rz := ⟨_, rfl⟩
      rw [← hx] at hc1 hc2 hd1 hd2
      clear hx hkl
      obtain ⟨x, y⟩ := r
      simp only at hc1 hc2 hd1 hd2
      go_wp2
      go_quiet (fail)
      go_wp2
      go_roundw
      case rel => exact ⟨k + 1, by omega, by go_num, below_drewN hnx _⟩
      case measure => simp [intOf]; omega
    · have e : k = len := by omega
      subst e
      have hd1 := (hnx.cell (p := ⟨g, rs.length * 2, none⟩) hg).trans (unhide HT).2.1
      have hd2 := (hnx.cell (p := ⟨g, rs.length * 2 + 1, none⟩) hg).trans (unhide HT).2.2
      rw [unhide HL] at hd1 hd2
      go_wp2
      go_ret
      exact ⟨rfl, by repeat (first | exact hnx | apply Below.setCell | apply Below.alloc | simpa using hsz)⟩
set_option maxHeartbeats 400000 in
theorem left_none (g cap : Nat) (a : Option Addr) (w : World) (ht : Twin w g []) :
    Calls Tryd.prog 14 #[.slice (some ⟨g, 0, none⟩) 0 1, .slice a 0 cap] w fun e w' => e = .returned (.bool true) ∧ Below w.heap.size w w' := by
  obtain ⟨_, ht1, ht2⟩ := ht
  simp only [List.length_nil, Nat.zero_mul, Nat.zero_add] at ht1 ht2
  go_enter Tryd.func14, Tryd.ntmps14
  go_wp2
  refine wp_loop_rounds 1 ?_
  rw [rounds_succ]
  go_wp2
  go_ret
  exact ⟨rfl, by repeat (first | exact Below.refl _ _ | apply Below.setCell | apply Below.alloc | simp)⟩
theorem left_any (g : Nat) (a : Option Addr) (len cap c' : Nat) (rs : List R) (w : World) (h : Rg w a len c' rs) (hlen : len ≤ 1048576) (ht : Twin w g rs) (hg : g < w.heap.size) :
    Calls Tryd.prog 14 #[.slice (some ⟨g, 0, none⟩) len (len + 1), .slice a len cap] w fun e w' => e = .returned (.bool true) ∧ Below w.heap.size w w' := by
  by_cases h0 : len = 0
  · subst h0
    obtain rfl : rs = [] := List.eq_nil_of_length_eq_zero h.len
    exact left_none g cap a w ht
  · rcases h.cells with h1 | ⟨b, off, rfl, hb, hc⟩
    · exact absurd h1 h0
    · exact left_some g b off len cap rs w hc hb h.len hlen ht hg (by omega)

set_option maxHeartbeats 400000 in
theorem rhas_some (b off len cap : Nat) (rs : List R) (n : Int) (w : World) (h : ∀ i, i < len → w.cell? ⟨b, off + i * 2, none⟩ = some (.int .i64 (rs.getD i rz).1) ∧ w.cell? ⟨b, off + i * 2 + 1, none⟩ = some (.int .i64 (rs.getD i rz).2)) (hl : rs.length = len) (hlen : len ≤ 4611686018427387904) :
    Calls Tryd.prog 13 #[.slice (some ⟨b, off, none⟩) len cap, .int .i64 n] w fun e w' => e = .returned (.bool (has rs n)) ∧ w' = w := by
  have HC := hide h
  have HL := hide hl
  clear h hl
  go_enter Tryd.func13, Tryd.ntmps13
  go_wp2
  go_loop [5] (fun i => ∃ k : Nat, k ≤ len ∧ i = .int .i64 k ∧ Hid (has rs n = has (rs.drop k) n)) (fun i => len - (intOf i).toNat)
  case atStart => exact ⟨0, Nat.zero_le _, rfl, rfl⟩
  case round =>
    obtain ⟨k, hk, rfl, hr⟩ := hrel
    by_cases hlt : k < len
    · obtain ⟨hc1, hc2⟩ := unhide HC k hlt
      have hd := hide (drop_at rs k (by rw [unhide HL]; exact hlt))
      obtain ⟨r, hx⟩ : ∃ r, r = rs.getD k rz := ⟨_, rfl⟩
      rw [← hx] at hc1 hc2 hd
      clear hx
      obtain ⟨x, y⟩ := r
      simp only at hc1 hc2
      have hr2 : Hid (has rs n = (inR n (x, y) || has (rs.drop (k + 1)) n)) := by rw [unhide hr, unhide hd]; exact has_cons _ _ _
      clear hd hr
      by_cases h1 : x ≤ n
      · by_cases h2 : y = 0
        · have e2 : (y == 0) = true := by simp [h2]
          have hf : Hid (has rs n = true) := by rw [unhide hr2]; simp [inR, h1, h2, Hid]
          clear h2 hr2
          go_wp2
          go_ret
          exact ⟨by rw [unhide hf]; rfl, rfl⟩
        · have e2 : (y == 0) = false := by simp [h2]
          by_cases h3 : n ≤ y
          · have hf : Hid (has rs n = true) := by rw [unhide hr2]; simp [inR, h1, h3, Hid]
            clear h2 hr2
            go_wp2
            go_ret
            exact ⟨by rw [unhide hf]; rfl, rfl⟩
          · have hf : Hid (has rs n = has (rs.drop (k + 1)) n) := by rw [unhide hr2]; simp [inR, h2, h3, Hid]
            clear h2 hr2
            go_wp2
            go_round
            case rel => exact ⟨k + 1, by omega, by go_num, hf⟩
            case measure => simp [intOf]; omega
      · have hf : Hid (has rs n = has (rs.drop (k + 1)) n) := by rw [unhide hr2]; simp [inR, h1, Hid]
        clear hr2
        go_wp2
        go_round
        case rel => exact ⟨k + 1, by omega, by go_num, hf⟩
        case measure => simp [intOf]; omega
    · have hf : Hid (has rs n = false) := by rw [unhide hr, List.drop_eq_nil_of_le (by rw [unhide HL]; omega)]; rfl
      clear hr
      go_wp2
      go_ret
      exact ⟨by rw [unhide hf]; rfl, rfl⟩
set_option maxHeartbeats 400000 in
theorem rhas_none (a : Option Addr) (cap : Nat) (n : Int) (w : World) :
    Calls Tryd.prog 13 #[.slice a 0 cap, .int .i64 n] w fun e w' => e = .returned (.bool false) ∧ w' = w := by
  go_enter Tryd.func13, Tryd.ntmps13
  go_wp2
  refine wp_loop_rounds 1 ?_
  rw [rounds_succ]
  go_wp2
  go_ret
  exact ⟨rfl, rfl⟩
theorem rhas_any (a : Option Addr) (len cap c' : Nat) (rs : List R) (n : Int) (w : World) (h : Rg w a len c' rs) (hlen : len ≤ 4611686018427387904) :
    Calls Tryd.prog 13 #[.slice a len cap, .int .i64 n] w fun e w' => e = .returned (.bool (has rs n)) ∧ w' = w := by
  rcases h.cells with rfl | ⟨b, off, rfl, hb, hc⟩
  · obtain rfl : rs = [] := List.eq_nil_of_length_eq_zero h.len
    exact rhas_none a cap n w
  · exact rhas_some b off len cap rs n w hc h.len hlen

def tenB : ByteArray := { data := #[48, 49, 50, 51, 52, 53, 54, 55, 56, 57] }
theorem tenB_at (d : Nat) (h : d < 10) : bs (tenB.extract d (d + 1)) = [UInt8.ofNat (48 + d)] := by
  match d, h with
  | 0, _ => decide +kernel
  | 1, _ => decide +kernel
  | 2, _ => decide +kernel
  | 3, _ => decide +kernel
  | 4, _ => decide +kernel
  | 5, _ => decide +kernel
  | 6, _ => decide +kernel
  | 7, _ => decide +kernel
  | 8, _ => decide +kernel
  | 9, _ => decide +kernel
set_option maxHeartbeats 400000 in
set_option maxRecDepth 100000 in
theorem rdigits_small (n : Nat) (w : World) (h : n < 10) : Calls Tryd.prog 25 #[.int .i64 n] w fun e w' => e = .returned (.string (tenB.extract n (n + 1))) ∧ w' = w := by
  have h1 : (n : Int) < 10 := by omega
  go_enter Tryd.func25, Tryd.ntmps25
  go_wp2
  go_ret
  exact ⟨rfl, rfl⟩
set_option maxHeartbeats 400000 in
set_option maxRecDepth 100000 in
theorem rdigits_big (n : Nat) (s : ByteArray) (w : World) (h : ¬ n < 10) (hn : n ≤ 2147483647) (hs : s.size ≤ 20) (C : ∀ w, Calls Tryd.prog 25 #[.int .i64 ((n / 10 : Nat) : Int)] w fun e w' => e = .returned (.string s) ∧ ∃ q, w' = w.drewN q) :
    Calls Tryd.prog 25 #[.int .i64 n] w fun e w' => e = .returned (.string (s ++ tenB.extract (n % 10) (n % 10 + 1))) ∧ ∃ q, w' = w.drewN q := by
  have h1 : ¬ (n : Int) < 10 := by omega
  have HC := hide C
  clear C
  go_enter Tryd.func25, Tryd.ntmps25
  go_wp2_with fail
  go_quiet ((go_at_call 25; exact Calls.quiet_of (unhide HC _)))
  go_wp2
  go_ret
  exact ⟨rfl, nq, rfl⟩
theorem rdigits_any (n : Nat) (hn : n ≤ 2147483647) : ∃ s : ByteArray, s = ⟨(Lib.decDigits n).toArray⟩ ∧ s.size ≤ 20 ∧ Hid (∀ w, Calls Tryd.prog 25 #[.int .i64 n] w fun e w' => e = .returned (.string s) ∧ ∃ q, w' = w.drewN q) := by
  induction n using Nat.strongRecOn with
  | _ n ih =>
    have hl : (Lib.decDigits n).length ≤ 20 := by rw [Lib.decDigits_length]; exact Lib.nDigits_le20 n (by omega)
    by_cases h : n < 10
    · have e : tenB.extract n (n + 1) = ⟨(Lib.decDigits n).toArray⟩ := by
        apply ByteArray.ext
        apply Array.ext'
        exact (tenB_at n h).trans (dec_small n h).symm
      refine ⟨_, rfl, hl, fun w => ?_⟩
      rw [← e]
      exact (rdigits_small n w h).mono fun _ _ ⟨h1, h2⟩ => ⟨h1, 0, h2⟩
    · obtain ⟨s, hs, hsz, C⟩ := ih (n / 10) (by omega) (by omega)
      have e : s ++ tenB.extract (n % 10) (n % 10 + 1) = ⟨(Lib.decDigits n).toArray⟩ := by
        apply ByteArray.ext
        apply Array.ext'
        have h1 := tenB_at (n % 10) (Nat.mod_lt _ (by omega))
        rw [dec_big n h, hs]
        simp [bs] at h1 ⊢
        exact h1
      refine ⟨_, rfl, hl, fun w => ?_⟩
      rw [← e]
      exact rdigits_big n s w h hn hsz (unhide C)
end Go.Proofs.YtijoemamnkhhnaaDoor.Ls
