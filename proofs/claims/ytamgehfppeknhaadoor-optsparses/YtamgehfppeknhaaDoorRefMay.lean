/- What the document's letter, kind and May answer. -/
import Derived.Test.YtamgehfppeknhaaDoorRows
import Derived.Test.YtamgehfppeknhaaDoorRefPlain
import Derived.WalkKit
import Derived.WalkSpells
import Derived.Deep.QuietTactic
import Derived.BigQuiet
namespace Go.Proofs.YtamgehfppeknhaaDoor.Pa
open Go.RowKit

theorem rletter_any (c : Int) (w : World) (h0 : 0 ≤ c) (h1 : c < 256) :
    Calls Tryd.prog 60 #[.int .u8 c] w fun e w' => e = .returned (.bool (okL c)) ∧ w' = w := by
  rcases (show c < 48 ∨ (48 ≤ c ∧ c ≤ 57) ∨ (57 < c ∧ c < 65) ∨ (65 ≤ c ∧ c ≤ 90) ∨ (90 < c ∧ c < 97) ∨ (97 ≤ c ∧ c ≤ 122) ∨ 122 < c from by omega) with h | ⟨h, h'⟩ | ⟨h, h'⟩ | ⟨h, h'⟩ | ⟨h, h'⟩ | ⟨h, h'⟩ | h
  all_goals
    go_enter Tryd.func60, Tryd.ntmps60
    go_wp2
    go_ret
    refine ⟨?_, rfl⟩
    unfold okL
    first
    | (simp; omega; done)
    | (simp; rw [Bool.eq_iff_iff]; simp; omega)

set_option maxHeartbeats 400000 in
theorem rkind_any (s : ByteArray) (c : Int) (w : World) (hs : s.size ≤ 4611686018427387900) :
    Calls Tryd.prog 19 #[.string s, .int .u8 c] w fun e w' => e = .returned (.int .i64 (kindL s.data.toList c)) ∧ w' = w := by
  go_enter Tryd.func19, Tryd.ntmps19
  go_wp2
  go_loop [5] (fun i => ∃ k : Nat, k ≤ s.size ∧ i = .int .i64 k ∧ Hid (kindL (s.data.toList.drop k) c = kindL s.data.toList c)) (fun i => s.size - (intOf i).toNat)
  case atStart => exact ⟨0, Nat.zero_le _, rfl, rfl⟩
  case round =>
    obtain ⟨k, hk, rfl, hR⟩ := hrel
    by_cases hlt : k < s.size
    · by_cases hh : (s[k].toNat : Int) = c ∧ c ≠ 58
      · have hx : ((s[k].toNat : Int) == c) = true := by simp [hh.1]
        have hx2 : (c != 58) = true := by simp [hh.2]
        have hR1 := kind_hit s k c hlt hh.1 hh.2
        by_cases hn : k + 1 < s.size
        · by_cases h58 : s[k + 1].toNat = 58
          · have hR2 : Hid (kindL s.data.toList c = 2) := by rw [← unhide hR, hR1, if_pos ⟨hn, h58⟩]; exact rfl
            have hy : (k : Int) + 1 < (s.size : Int) := by omega
            have hz : ((s[k + 1].toNat : Int) == 58) = true := by simp; omega
            clear hR hR1 h58 hh
            go_wp2
            go_ret
            exact ⟨by rw [unhide hR2]; rfl, rfl⟩
          · have hR2 : Hid (kindL s.data.toList c = 1) := by rw [← unhide hR, hR1, if_neg (fun ⟨_, h⟩ => h58 h)]; exact rfl
            have hy : (k : Int) + 1 < (s.size : Int) := by omega
            have hz : ((s[k + 1].toNat : Int) == 58) = false := by simp; omega
            clear hR hR1 h58 hh
            go_wp2
            go_ret
            exact ⟨by rw [unhide hR2]; rfl, rfl⟩
        · have hR2 : Hid (kindL s.data.toList c = 1) := by rw [← unhide hR, hR1, if_neg (fun ⟨h, _⟩ => hn h)]; exact rfl
          have hy : ¬ ((k : Int) + 1 < (s.size : Int)) := by omega
          clear hR hR1 hh
          go_wp2
          go_ret
          exact ⟨by rw [unhide hR2]; rfl, rfl⟩
      · have hR2 : Hid (kindL (s.data.toList.drop (k + 1)) c = kindL s.data.toList c) := by rw [← unhide hR, kind_miss s k c hlt hh]; exact rfl
        by_cases he : (s[k].toNat : Int) = c
        · have hx : ((s[k].toNat : Int) == c) = true := by simp [he]
          have hx2 : (c != 58) = false := by
            have : c = 58 := by
              by_cases h : c = 58
              · exact h
              · exact absurd ⟨he, h⟩ hh
            simp [this]
          clear hR hh he
          go_wp2
          go_round
          case rel => exact ⟨k + 1, by omega, by go_num, hR2⟩
          case measure => simp [intOf]; omega
        · have hx : ((s[k].toNat : Int) == c) = false := by simp [he]
          clear hR hh he
          go_wp2
          go_round
          case rel => exact ⟨k + 1, by omega, by go_num, hR2⟩
          case measure => simp [intOf]; omega
    · have hR2 : Hid (kindL s.data.toList c = 0) := by rw [← unhide hR, kind_end s k c (by omega)]; exact rfl
      clear hR
      go_wp2
      go_ret
      exact ⟨by rw [unhide hR2]; rfl, rfl⟩

set_option maxHeartbeats 1000000 in
set_option maxRecDepth 100000 in
theorem rmay_any (s : ByteArray) (w : World) (hs : s.size ≤ 4611686018427387900) :
    Calls Tryd.prog 18 #[.string s] w fun e w' => e = .returned (.bool (mayL s.data.toList [])) ∧ ∃ q, w' = w.drewN q := by
  go_enter Tryd.func18, Tryd.ntmps18
  go_wp2
  go_loopw [3] (fun i wr => ∃ k d : Nat, k ≤ s.size ∧ i = .int .i64 k ∧ wr = w.drewN d ∧ Hid (mayL (s.data.toList.drop k) (s.data.toList.take k) = mayL s.data.toList [])) (fun i _ => s.size - (intOf i).toNat)
  case atStart => exact ⟨0, 0, Nat.zero_le _, rfl, rfl, rfl⟩
  case round =>
    obtain ⟨k, d, hk, rfl, rfl, hR⟩ := hrel
    by_cases hlt : k < s.size
    · have hc0 : (0 : Int) ≤ (s[k].toNat : Int) := by omega
      have hc1 : (s[k].toNat : Int) < 256 := by have := s[k].toNat_lt; omega
      by_cases h58 : s[k].toNat = 58
      · have hx : ((s[k].toNat : Int) == 58) = true := by simp; omega
        by_cases hk0 : k = 0
        · have hR2 : Hid (mayL s.data.toList [] = false) := by rw [← unhide hR, may_colon_no s k hlt h58 (.inl hk0)]; exact rfl
          subst hk0
          clear hR h58
          go_wp2
          go_ret
          exact ⟨by rw [unhide hR2]; rfl, _, rfl⟩
        · have hk1 : ((k : Int) == 0) = false := by simp; omega
          have hlt1 : k - 1 < s.size := by omega
          by_cases hp : (s[k - 1]'hlt1).toNat = 58
          · have hR2 : Hid (mayL s.data.toList [] = false) := by rw [← unhide hR, may_colon_no s k hlt h58 (.inr ⟨by omega, hp⟩)]; exact rfl
            have hy : (((s[k - 1]'hlt1).toNat : Int) == 58) = true := by simp; omega
            clear hR h58 hp
            go_wp2
            go_ret
            exact ⟨by rw [unhide hR2]; rfl, _, rfl⟩
          · have hR2 : Hid (mayL (s.data.toList.drop (k + 1)) (s.data.toList.take (k + 1)) = mayL s.data.toList []) := by rw [← unhide hR, may_colon s k hlt h58 (by omega) hp]; exact rfl
            have hy : (((s[k - 1]'hlt1).toNat : Int) == 58) = false := by simp; omega
            clear hR h58 hp
            go_wp2
            go_roundw
            case rel => exact ⟨k + 1, d, by omega, by go_num, by simp, hR2⟩
            case measure => simp [intOf]; omega
      · have hx : ((s[k].toNat : Int) == 58) = false := by simp; omega
        cases hok : okL (s[k].toNat : Int)
        · have hR2 : Hid (mayL s.data.toList [] = false) := by rw [← unhide hR, may_letter_no s k hlt h58 (.inl hok)]; exact rfl
          have HO := hide hok
          clear hR h58 hok
          go_wp2_with fail
          refine (rletter_any _ _ hc0 hc1).mono ?_
          rintro e w' ⟨rfl, rfl⟩
          rw [unhide HO]
          go_wp2_with fail
          go_ret
          exact ⟨by rw [unhide hR2]; rfl, _, rfl⟩
        · have HO := hide hok
          have H58 := hide h58
          clear hok h58
          go_wp2_with fail
          refine (rletter_any _ _ hc0 hc1).mono ?_
          rintro e w' ⟨rfl, rfl⟩
          rw [unhide HO]
          go_wp2_with fail
          go_loopw [4] (fun j wy => ∃ q d' : Nat, q ≤ k ∧ j = .int .i64 q ∧ wy = w.drewN d' ∧ Hid (∀ x (hx : x < q) (hx' : x < s.size), s[x].toNat ≠ s[k].toNat)) (fun j _ => k - (intOf j).toNat)
          case atStart => exact ⟨0, d, Nat.zero_le _, rfl, rfl, fun x hx => absurd hx (Nat.not_lt_zero _)⟩
          case round =>
            obtain ⟨q, d', hq, rfl, rfl, hN⟩ := hrel
            by_cases hqk : q < k
            · have hqs : q < s.size := by omega
              by_cases he : s[q].toNat = s[k].toNat
              · have hR2 : Hid (mayL s.data.toList [] = false) := by rw [← unhide hR, may_letter_no s k hlt (unhide H58) (.inr ⟨q, hqk, he⟩)]; exact rfl
                have hy : ((s[q].toNat : Int) == (s[k].toNat : Int)) = true := by simp [he]
                clear hR he
                go_wp2
                go_quiet (fail)
                go_wp2
                go_ret
                exact ⟨by rw [unhide hR2]; rfl, d' + nq, by rw [World.drewN_drewN]⟩
              · have hy : ((s[q].toNat : Int) == (s[k].toNat : Int)) = false := by simp; omega
                have hN2 : Hid (∀ x (hx : x < q + 1) (hx' : x < s.size), s[x].toNat ≠ s[k].toNat) := by
                  intro x hx hx'
                  by_cases e : x = q
                  · subst e; exact he
                  · exact unhide hN x (by omega) hx'
                clear hN he
                go_wp2
                go_quiet (fail)
                go_wp2
                go_roundw
                case rel => exact ⟨q + 1, d' + nq, by omega, by go_num, rfl, hN2⟩
                case measure => simp [intOf]; omega
            · obtain rfl : q = k := by omega
              have hR2 : Hid (mayL (s.data.toList.drop (q + 1)) (s.data.toList.take (q + 1)) = mayL s.data.toList []) := by rw [← unhide hR, may_letter s q hlt (unhide H58) (unhide HO) (fun x hx => unhide hN x hx (by omega))]; exact rfl
              clear hR hN
              go_wp2
              go_roundw
              case rel => exact ⟨q + 1, _, by omega, by go_num, rfl, hR2⟩
              case measure => simp [intOf]; omega
    · have hR2 : Hid (mayL s.data.toList [] = true) := by rw [← unhide hR, may_end s k (by omega)]; exact rfl
      clear hR
      go_wp2
      go_ret
      exact ⟨by rw [unhide hR2]; rfl, _, rfl⟩
end Go.Proofs.YtamgehfppeknhaaDoor.Pa
