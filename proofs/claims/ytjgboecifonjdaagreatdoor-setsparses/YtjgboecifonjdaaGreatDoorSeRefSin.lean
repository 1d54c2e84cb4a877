/- What the document's single answers. -/
import Derived.Test.YtjgboecifonjdaaGreatDoorSeSingle
namespace Go.Proofs.YtjgboecifonjdaaGreatDoor.Se
open Go.RowKit

/-- what the document's single hands back -/
def SgR (s : ByteArray) (i : Nat) (o : Option (UInt8 × Bs)) (e : Ending) : Prop := ∃ (c : Int) (k : Nat) (ok : Bool), e = .returned (.tuple #[.int .u8 c, .int .i64 k, .bool ok]) ∧ ((ok = false ∧ o = none) ∨ (ok = true ∧ k ≤ s.size ∧ i < k ∧ ∃ d : UInt8, c = d.toNat ∧ o = some (d, (bs s).drop k)))
theorem sgd0 (s : ByteArray) (i : Nat) (h : i < s.size) (hc : s[i] ≠ 92) : single ((bs s).drop i) = some (s[i], (bs s).drop (i + 1)) := by
  rw [bs_at s i h]; simp [single, hc]
theorem sgd1 (s : ByteArray) (i : Nat) (h : i < s.size) (h2 : s.size = i + 1) (hc : s[i] = 92) : single ((bs s).drop i) = none := by
  rw [bs_at s i h, bs_end s (i + 1) (by omega), hc]; rfl
theorem sgd2 (s : ByteArray) (i : Nat) (h : i + 1 < s.size) (hc : s[i] = 92) : single ((bs s).drop i) = if s[i + 1] = 92 then some (92, (bs s).drop (i + 2)) else if s[i + 1] = 110 then some (10, (bs s).drop (i + 2)) else if s[i + 1] = 116 then some (9, (bs s).drop (i + 2)) else octal ((bs s).drop (i + 1)) := by
  rw [bs_at s i (by omega), bs_at s (i + 1) h, hc]
  simp only [single, ↓reduceIte]
theorem hd_drop (s : ByteArray) (i : Nat) (h : i < s.size) : hd ((bs s).drop i) = isO s[i] := by rw [bs_at s i h]; rfl
theorem oct_close2 (s : ByteArray) (i j n : Nat) (ci : Int) (ok : Bool) (hk : i + j ≤ s.size) (e : octs 3 0 ((bs s).drop i) = (n, (bs s).drop (i + j))) (hj : decide (0 < j) = hd ((bs s).drop i)) (hci : ci = (n : Int) % 256) (hok : ok = (decide (0 < j) && decide (n ≤ 255))) :
    (ok = false ∧ octal ((bs s).drop i) = none) ∨ (ok = true ∧ i + j ≤ s.size ∧ i < i + j ∧ ∃ d : UInt8, ci = d.toNat ∧ octal ((bs s).drop i) = some (d, (bs s).drop (i + j))) := by
  rw [octal_hd, e, ← hj, hok]
  by_cases h1 : 0 < j
  · by_cases h2 : n ≤ 255
    · refine .inr ⟨by simp [h1, h2], hk, by omega, UInt8.ofNat n, ?_, ?_⟩
      · rw [hci]; simp
      · rw [if_pos ⟨by simp [h1], h2⟩]
    · exact .inl ⟨by simp [h2], by rw [if_neg (by simp [h2])]⟩
  · exact .inl ⟨by simp [h1], by rw [if_neg (by simp [h1])]⟩

set_option maxHeartbeats 2000000 in
set_option maxRecDepth 100000 in
theorem single_any (s : ByteArray) (i : Nat) (w : World) (hs : s.size ≤ 4611686018427387900) (h0 : i < s.size) :
    Calls Tryz.prog 14 #[.string s, .int .i64 i] w fun e w' => SgR s i (single ((bs s).drop i)) e ∧ Below w.heap.size w w' := by
  have h0' : (i : Int) < (s.size : Int) := by omega
  by_cases hc : (s[i].toNat : Int) = 92
  · have hc' : s[i] = 92 := u8_eq hc
    have t1 : ((s[i].toNat : Int) != 92) = false := by simp [hc]
    by_cases h1 : s.size = i + 1
    · have F := hide (sgd1 s i h0 h1 hc')
      have t2 : ((i : Int) + 1 == (s.size : Int)) = true := by simp [h1]
      clear hc hc' h1
      go_enter Tryz.func14, Tryz.ntmps14
      go_wp2_with fail
      go_ret3
      exact ⟨⟨_, 0, _, rfl, .inl ⟨rfl, unhide F⟩⟩, Below.refl _ _⟩
    · have h2 : i + 1 < s.size := by omega
      have t2 : ((i : Int) + 1 == (s.size : Int)) = false := by simp; omega
      have G := hide (sgd2 s i h2 hc')
      have hl1 : (i : Int) + 1 < (s.size : Int) := by omega
      have hl0 : (0 : Int) ≤ (i : Int) + 1 := by omega
      clear hc hc' h1
      by_cases d1 : (s[i + 1].toNat : Int) = 92
      · have F : Hid (single ((bs s).drop i) = some (92, (bs s).drop (i + 2))) := by rw [unhide G, if_pos (u8_eq d1)]; exact rfl
        have t3 : ((s[i + 1].toNat : Int) == 92) = true := by simp [d1]
        clear d1 G
        go_enter Tryz.func14, Tryz.ntmps14
        go_wp2_with fail
        go_ret3
        exact ⟨⟨_, i + 2, _, by go_num, .inr ⟨rfl, by omega, by omega, 92, rfl, unhide F⟩⟩, Below.refl _ _⟩
      · have t3 : ((s[i + 1].toNat : Int) == 92) = false := by simp [d1]
        rw [if_neg (u8_ne d1)] at G
        clear d1
        by_cases d2 : (s[i + 1].toNat : Int) = 110
        · have F : Hid (single ((bs s).drop i) = some (10, (bs s).drop (i + 2))) := by rw [unhide G, if_pos (u8_eq d2)]; exact rfl
          have t4 : ((s[i + 1].toNat : Int) == 110) = true := by simp [d2]
          clear d2 G
          go_enter Tryz.func14, Tryz.ntmps14
          go_wp2_with fail
          go_ret3
          exact ⟨⟨_, i + 2, _, by go_num, .inr ⟨rfl, by omega, by omega, 10, rfl, unhide F⟩⟩, Below.refl _ _⟩
        · have t4 : ((s[i + 1].toNat : Int) == 110) = false := by simp [d2]
          rw [if_neg (u8_ne d2)] at G
          clear d2
          by_cases d3 : (s[i + 1].toNat : Int) = 116
          · have F : Hid (single ((bs s).drop i) = some (9, (bs s).drop (i + 2))) := by rw [unhide G, if_pos (u8_eq d3)]; exact rfl
            have t5 : ((s[i + 1].toNat : Int) == 116) = true := by simp [d3]
            clear d3 G
            go_enter Tryz.func14, Tryz.ntmps14
            go_wp2_with fail
            go_ret3
            exact ⟨⟨_, i + 2, _, by go_num, .inr ⟨rfl, by omega, by omega, 9, rfl, unhide F⟩⟩, Below.refl _ _⟩
          · have t5 : ((s[i + 1].toNat : Int) == 116) = false := by simp [d3]
            rw [if_neg (u8_ne d3)] at G
            clear d3
            go_enter Tryz.func14, Tryz.ntmps14
            go_wp2_with fail
            go_loopw [7, 8] (fun ni x wr => ∃ j n : Nat, j ≤ 3 ∧ i + 1 + j ≤ s.size ∧ x = .int .i64 ((i + 1 + j : Nat) : Int) ∧ ni = .int .i64 n ∧ wr = w ∧ n < 512 ∧ (j < 3 → n < 64) ∧ (j < 2 → n < 8) ∧ (j < 1 → n < 1) ∧ Hid (octs 3 0 ((bs s).drop (i + 1)) = octs (3 - j) n ((bs s).drop (i + 1 + j))) ∧ Hid (0 < j → hd ((bs s).drop (i + 1)) = true)) (fun _ x _ => i + 4 - (intOf x).toNat)
            case atStart => exact ⟨0, 0, by omega, by omega, by go_num, rfl, by trivial, by omega, by omega, by omega, by omega, rfl, fun h => absurd h (by omega)⟩
            case round =>
              obtain ⟨j, n, hj3, hjs, rfl, rfl, rfl, hn, hn3, hn2, hn1, hO, hH⟩ := hrel
              have fin : Hid (octs 3 0 ((bs s).drop (i + 1)) = (n, (bs s).drop (i + 1 + j)) → (j = 0 → hd ((bs s).drop (i + 1)) = false) → ∀ ci ok, ci = (n : Int) % 256 → ok = (decide (0 < j) && decide (n ≤ 255)) → SgR s i (single ((bs s).drop i)) (.returned (.tuple #[.int .u8 ci, .int .i64 ((i + 1 + j : Nat) : Int), .bool ok]))) := by
                intro e hz ci ok hci hok
                refine ⟨_, _, _, rfl, ?_⟩
                rw [unhide G]
                have := oct_close2 s (i + 1) j n ci ok hjs e (by
                  by_cases h : j = 0
                  · rw [hz h]; simp [h]
                  · rw [unhide hH (by omega)]; simp; omega) hci hok
                rcases this with h | ⟨h1, h2, h3, h4⟩
                · exact .inl h
                · exact .inr ⟨h1, h2, by omega, h4⟩
              obtain ⟨k, hk⟩ : ∃ k, k = i + 1 + j := ⟨_, rfl⟩
              have hki : (k : Int) = (i : Int) + 1 + (j : Int) := by omega
              rw [← hk] at fin hO hjs ⊢
              by_cases hlt : j < 3
              · have q3 : (k : Int) < (i : Int) + 1 + 3 := by omega
                by_cases hls : k < s.size
                · have hls' : (k : Int) < (s.size : Int) := by omega
                  have hat := hide (bs_at s k hls)
                  have hL := hide (isO_int s[k])
                  have hz0 : Hid (j = 0 → hd ((bs s).drop (i + 1)) = isO s[k]) := fun e => by
                    have : k = i + 1 := by omega
                    subst this; exact hd_drop s (i + 1) h2
                  have hc255 : (s[k].toNat : Int) ≤ 255 := by have := s[k].toNat_lt; omega
                  by_cases ha : 48 ≤ (s[k].toNat : Int)
                  · by_cases hb : (s[k].toNat : Int) ≤ 55
                    · have hlow : Hid (isO s[k] = true) := by rw [unhide hL]; simp [ha, hb, Hid]
                      have n1 : Hid (octs 3 0 ((bs s).drop (i + 1)) = octs (3 - (j + 1)) (n * 8 + (s[k].toNat - 48)) ((bs s).drop (k + 1))) := by
                        show _ = _
                        rw [unhide hO, unhide hat, show 3 - j = (3 - (j + 1)) + 1 from by omega, octs_go _ _ _ _ (unhide hlow)]
                      have n2 : Hid (0 < j + 1 → hd ((bs s).drop (i + 1)) = true) := fun _ => by
                        by_cases h : j = 0
                        · rw [unhide hz0 h, unhide hlow]
                        · exact unhide hH (by omega)
                      have HK := hide hk
                      clear hO hH fin hz0 hk hki
                      go_wp2_with fail
                      go_roundw
                      case rel => exact ⟨j + 1, n * 8 + (s[k].toNat - 48), by omega, by have := unhide HK; omega, by have := unhide HK; go_num, by go_num, by trivial, by omega, by omega, by omega, by omega, by rw [show i + 1 + (j + 1) = k + 1 from by have := unhide HK; omega]; exact n1, n2⟩
                      case measure => simp [intOf]; have := unhide HK; omega
                    · have hlow : isO s[k] = false := by rw [unhide hL]; simp; omega
                      have F := hide (unhide fin (by rw [unhide hO, unhide hat, show 3 - j = (3 - (j + 1)) + 1 from by omega, octs_stop _ _ _ _ hlow]) (fun h => by rw [unhide hz0 h, hlow]))
                      clear fin hO hH hz0 hlow
                      have HKI := hide hki
                      have HK := hide hk
                      clear hk
                      rcases (show (0 < j ∧ n ≤ 255) ∨ ¬ 0 < j from by omega) with ⟨e1, e2⟩ | e1
                      all_goals
                        have e0 : decide ((i : Int) + 1 < (k : Int)) = decide (0 < j) := by rw [Bool.eq_iff_iff, decide_eq_true_eq, decide_eq_true_eq]; omega
                        clear hki
                        go_wp2_with fail
                        go_ret3
                        refine ⟨unhide F _ _ ?_ ?_, Below.refl _ _⟩
                        · first | exact wrap_byte n | omega
                        · first | (rw [decide_eq_false e1]; exact rfl) | (rw [Bool.eq_iff_iff, Bool.and_eq_true, decide_eq_true_eq, decide_eq_true_eq, decide_eq_true_eq]; omega)
                  · have hlow : isO s[k] = false := by rw [unhide hL]; simp; omega
                    have F := hide (unhide fin (by rw [unhide hO, unhide hat, show 3 - j = (3 - (j + 1)) + 1 from by omega, octs_stop _ _ _ _ hlow]) (fun h => by rw [unhide hz0 h, hlow]))
                    clear fin hO hH hz0 hlow
                    have HKI := hide hki
                    have HK := hide hk
                    clear hk
                    rcases (show (0 < j ∧ n ≤ 255) ∨ ¬ 0 < j from by omega) with ⟨e1, e2⟩ | e1
                    all_goals
                      have e0 : decide ((i : Int) + 1 < (k : Int)) = decide (0 < j) := by rw [Bool.eq_iff_iff, decide_eq_true_eq, decide_eq_true_eq]; omega
                      clear hki
                      go_wp2_with fail
                      go_ret3
                      refine ⟨unhide F _ _ ?_ ?_, Below.refl _ _⟩
                      · first | exact wrap_byte n | omega
                      · first | (rw [decide_eq_false e1]; exact rfl) | (rw [Bool.eq_iff_iff, Bool.and_eq_true, decide_eq_true_eq, decide_eq_true_eq, decide_eq_true_eq]; omega)
                · have hd0 : (bs s).drop k = [] := bs_end s k (by omega)
                  have F := hide (unhide fin (by rw [unhide hO, hd0, octs_nil]) (fun h => by omega))
                  clear fin hO hH hd0
                  have HKI := hide hki
                  have HK := hide hk
                  clear hk
                  rcases (show (0 < j ∧ n ≤ 255) ∨ ¬ 0 < j from by omega) with ⟨e1, e2⟩ | e1
                  all_goals
                    have e0 : decide ((i : Int) + 1 < (k : Int)) = decide (0 < j) := by rw [Bool.eq_iff_iff, decide_eq_true_eq, decide_eq_true_eq]; omega
                    clear hki
                    go_wp2_with fail
                    go_ret3
                    refine ⟨unhide F _ _ ?_ ?_, Below.refl _ _⟩
                    · first | exact wrap_byte n | omega
                    · first | (rw [decide_eq_false e1]; exact rfl) | (rw [Bool.eq_iff_iff, Bool.and_eq_true, decide_eq_true_eq, decide_eq_true_eq, decide_eq_true_eq]; omega)
              · have hj3' : j = 3 := by omega
                have q3 : ¬ (k : Int) < (i : Int) + 1 + 3 := by omega
                have F := hide (unhide fin (by rw [unhide hO, hj3']; rfl) (fun h => by omega))
                clear hj3' fin hO hH
                have HKI := hide hki
                have HK := hide hk
                clear hk
                rcases (show ((k : Int) < (s.size : Int) ∧ 0 < j ∧ n ≤ 255) ∨ (¬ (k : Int) < (s.size : Int) ∧ 0 < j ∧ n ≤ 255) ∨ ((k : Int) < (s.size : Int) ∧ 0 < j ∧ ¬ n ≤ 255) ∨ (¬ (k : Int) < (s.size : Int) ∧ 0 < j ∧ ¬ n ≤ 255) from by omega) with ⟨e3, e1, e2⟩ | ⟨e3, e1, e2⟩ | ⟨e3, e1, e2⟩ | ⟨e3, e1, e2⟩
                all_goals
                  have e0 : decide ((i : Int) + 1 < (k : Int)) = decide (0 < j) := by rw [Bool.eq_iff_iff, decide_eq_true_eq, decide_eq_true_eq]; omega
                  clear hki
                  go_wp2_with fail
                  go_ret3
                  refine ⟨unhide F _ _ ?_ ?_, Below.refl _ _⟩
                  · first | exact wrap_byte n | omega
                  · first | (rw [decide_eq_false e1]; exact rfl) | (rw [Bool.eq_iff_iff, Bool.and_eq_true, decide_eq_true_eq, decide_eq_true_eq, decide_eq_true_eq]; omega)
  · have hc' : s[i] ≠ 92 := u8_ne hc
    have t1 : ((s[i].toNat : Int) != 92) = true := by simp [hc]
    have F := hide (sgd0 s i h0 hc')
    clear hc hc'
    go_enter Tryz.func14, Tryz.ntmps14
    go_wp2_with fail
    go_ret3
    exact ⟨⟨_, i + 1, _, by go_num, .inr ⟨rfl, by omega, by omega, s[i], rfl, unhide F⟩⟩, Below.refl _ _⟩
end Go.Proofs.YtjgboecifonjdaaGreatDoor.Se
