/- What the document's left answers: a line without fields and bytes. -/
import Derived.Test.YtmaenfcnkcaojaaDoorSoLines
import Derived.Test.YtmaenfcnkcaojaaDoorKyRefParts
namespace Go.Proofs.YtmaenfcnkcaojaaDoor.So
open Go.RowKit Go.Shelf Ky

attribute [local go_sem] Oper.semAt_some

theorem skipF_nil : ∀ n, skipF n [] = []
  | 0 => rfl
  | n + 1 => by unfold skipF; exact skipF_nil n
theorem skipF_add : ∀ (n m : Nat) (s : Bs), skipF (n + m) s = skipF m (skipF n s)
  | 0, m, s => by simp [skipF]
  | n + 1, m, s => by
    have := skipF_add n m (part2 s)
    rw [show n + 1 + m = (n + m) + 1 by omega]
    simp only [skipF]; exact this
theorem skipF_next (n : Nat) (s : Bs) : skipF (n + 1) s = part2 (skipF n s) := by rw [skipF_add n 1]; rfl
theorem skipF_len : ∀ (n : Nat) (s : Bs), (skipF n s).length ≤ s.length
  | 0, _ => Nat.le_refl _
  | n + 1, s => by
    have h1 := skipF_len n (part2 s)
    have h2 : (part2 s).length ≤ s.length := by unfold part2; exact Nat.le_trans (dropWhile_le _) (dropWhile_le _)
    unfold skipF; omega

set_option maxRecDepth 100000 in
set_option maxHeartbeats 1000000 in
theorem rleft_any (s : ByteArray) (f b : Int) (w : World) (hs : s.size ≤ 1073741000) (hf : -9223372036854775808 ≤ f ∧ f ≤ 9223372036854775807) (hb : -9223372036854775808 ≤ b ∧ b ≤ 9223372036854775807) :
    Calls Tryd.prog 15 #[.string s, .int .i64 f, .int .i64 b] w fun e w' => e = .returned (.string (Ln.bt (leftOf f b s.data.toList))) ∧ w' = w := by
  have C : Hid (∀ (c : UInt8) (w : World), Calls Tryd.prog 21 #[.int .u8 (c.toNat : Int)] w fun e w' => e = .returned (.bool (bl c)) ∧ w' = w) := rblank_any
  have h2 : s.data.toList.length = s.size := rfl
  obtain ⟨R, hR⟩ : ∃ R, R = Ln.bt (leftOf f b s.data.toList) := ⟨_, rfl⟩
  rw [← hR]
  have HR := hide hR
  clear hR
  go_enter Tryd.func15, Tryd.ntmps15
  go_upto_block 0 with fail
  go_cut [7, 8] (fun v7 _ wx => w = wx ∧ ∃ k : Nat, k ≤ s.size ∧ v7 = .int .i64 (k : Int) ∧ Hid (s.data.toList.drop k = skipF f.toNat s.data.toList))
  case first =>
    go_wp2_with fail
    go_loopg [7, 8] s.size (fun g v7 v8 wr => w = wr ∧ ∃ k z : Nat, k ≤ s.size ∧ g = s.size - k ∧ v7 = .int .i64 (k : Int) ∧ v8 = .int .i64 (z : Int) ∧ z ≤ k ∧ z ≤ f.toNat ∧ Hid (s.data.toList.drop k = skipF z s.data.toList))
    case atStart => exact ⟨rfl, 0, 0, Nat.zero_le _, rfl, rfl, rfl, Nat.le_refl _, Nat.zero_le _, rfl⟩
    case round =>
      obtain ⟨rfl, k, z, hk, rfl, rfl, rfl, hzk, hzf, hD⟩ := hrel
      by_cases hzl : (z : Int) < f
      · by_cases hlt : k < s.size
        · have hlt' : (k : Int) < (s.size : Int) := by omega
          have hll : k < s.data.toList.length := hlt
          obtain ⟨m, hm⟩ : ∃ m, m = upto bl s.data.toList k := ⟨_, rfl⟩
          obtain ⟨q, hq⟩ : ∃ q, q = fend s.data.toList k := ⟨_, rfl⟩
          have hfl := fend_le s.data.toList k (by omega)
          have hfd := fend_drop s.data.toList k
          rw [← hq] at hfl hfd
          have hql : q ≤ s.size := hfl.2
          have hkq : k < q := by
            have e := List.drop_eq_getElem_cons hll
            have h3 := part2_lt s.data.toList[k] (s.data.toList.drop (k + 1))
            rw [← e, ← hfd, List.length_drop, List.length_drop] at h3
            omega
          have hD2 : Hid (s.data.toList.drop q = skipF (z + 1) s.data.toList) := by show _ = _; rw [hfd, unhide hD, skipF_next]
          have HQ : Hid (q = upto (fun c => !bl c) s.data.toList m) := by show _ = _; rw [hq, hm]; rfl
          have HM := hide hm
          have hml : m ≤ s.size := by rw [hm]; exact (upto_le bl s.data.toList k (by omega)).2
          clear hm hq hfl hfd hD hll h2
          go_upto_block 2 with fail
          go_cut [7] (fun v wx => w = wx ∧ v = .int .i64 (m : Int))
          case first =>
            go_wp2_with fail
            go_loopg [7] (s.size - k) (fun g v wx => w = wx ∧ ∃ j : Nat, j ≤ s.size ∧ g = s.size - j ∧ v = .int .i64 j ∧ Hid (m = upto bl s.data.toList j))
            case atStart => exact ⟨rfl, k, hk, rfl, rfl, HM⟩
            case round =>
              clear hlt'
              obtain ⟨rfl, j, hj, rfl, rfl, hu⟩ := hrel
              by_cases hlt : j < s.size
              · have hlt' : (j : Int) < (s.size : Int) := by omega
                have HC := hide (unhide C s[j])
                cases hp : bl s[j]
                · rw [hp] at HC
                  have hu2 := hide ((unhide hu).trans (upto_stop hlt hp))
                  clear hp hu C
                  go_wp2_with fail
                  refine (unhide HC _).mono ?_
                  rintro e w' ⟨rfl, hw⟩
                  rw [hw]
                  go_wp2_with fail
                  go_meet
                  exact ⟨rfl, by rw [unhide hu2]⟩
                · rw [hp] at HC
                  have hu2 := hide ((unhide hu).trans (upto_step hlt hp))
                  clear hp hu C
                  go_wp2_with fail
                  refine (unhide HC _).mono ?_
                  rintro e w' ⟨rfl, hw⟩
                  rw [hw]
                  go_wp2_with fail
                  go_roundg (s.size - (j + 1))
                  case measure => omega
                  case rel => exact ⟨rfl, j + 1, by omega, rfl, by go_num, hu2⟩
              · have hlt' : ¬ (j : Int) < (s.size : Int) := by omega
                have hu2 := hide ((unhide hu).trans (upto_end (by omega)))
                clear hu C
                go_wp2_with fail
                go_meet
                exact ⟨rfl, by rw [unhide hu2]⟩
          case rest =>
            obtain ⟨rfl, rfl⟩ := hcut
            clear HM
            go_wp2_with fail
            go_loopg [7] (s.size - m) (fun g v wx => w = wx ∧ ∃ j : Nat, j ≤ s.size ∧ g = s.size - j ∧ v = .int .i64 j ∧ Hid (q = upto (fun c => !bl c) s.data.toList j))
            case atStart => exact ⟨rfl, m, hml, rfl, rfl, HQ⟩
            case round =>
              clear hlt'
              obtain ⟨rfl, j, hj, rfl, rfl, hu⟩ := hrel
              by_cases hlt : j < s.size
              · have hlt' : (j : Int) < (s.size : Int) := by omega
                have HC := hide (unhide C s[j])
                cases hp : bl s[j]
                · rw [hp] at HC
                  have hu2 := hide ((unhide hu).trans (upto_step (p := fun c => !bl c) hlt (by simp [hp])))
                  clear hp hu C
                  go_wp2_with fail
                  refine (unhide HC _).mono ?_
                  rintro e w' ⟨rfl, hw⟩
                  rw [hw]
                  go_wp2_with fail
                  go_roundg (s.size - (j + 1))
                  case measure => omega
                  case rel => exact ⟨rfl, j + 1, by omega, rfl, by go_num, hu2⟩
                · rw [hp] at HC
                  obtain rfl : q = j := (unhide hu).trans (upto_stop (p := fun c => !bl c) hlt (by simp [hp]))
                  clear hp hu C HQ
                  go_wp2_with fail
                  refine (unhide HC _).mono ?_
                  rintro e w' ⟨rfl, hw⟩
                  rw [hw]
                  go_wp2_with fail
                  go_roundg (s.size - q)
                  case measure => omega
                  case rel => exact ⟨rfl, q, z + 1, hql, rfl, rfl, by go_num, by omega, by omega, hD2⟩
              · have hlt' : ¬ (j : Int) < (s.size : Int) := by omega
                obtain rfl : q = j := (unhide hu).trans (upto_end (p := fun c => !bl c) (by omega))
                clear hu C HQ
                go_wp2_with fail
                go_roundg (s.size - q)
                case measure => omega
                case rel => exact ⟨rfl, q, z + 1, hql, rfl, rfl, by go_num, by omega, by omega, hD2⟩
        · have hlt' : ¬ (k : Int) < (s.size : Int) := by omega
          have hD2 : Hid (s.data.toList.drop k = skipF f.toNat s.data.toList) := by
            show _ = _
            have e := unhide hD
            have e0 : s.data.toList.drop k = [] := List.drop_eq_nil_of_le (by omega)
            rw [show f.toNat = z + (f.toNat - z) by omega, skipF_add, ← e, e0, skipF_nil]
          clear hD C
          go_wp2_with fail
          go_meet
          exact ⟨rfl, k, hk, rfl, hD2⟩
      · have hD2 : Hid (s.data.toList.drop k = skipF f.toNat s.data.toList) := by
          show _ = _
          rw [show f.toNat = z by omega]; exact unhide hD
        clear hD C
        go_wp2_with fail
        go_meet
        exact ⟨rfl, k, hk, rfl, hD2⟩
  case rest =>
    obtain ⟨rfl, k, hk, rfl, hD⟩ := hcut
    clear C h2
    obtain ⟨t, ht⟩ : ∃ t, t = s.extract k s.size := ⟨_, rfl⟩
    have htd : t.data.toList = skipF f.toNat s.data.toList := by rw [ht, ← Ln.bt_drop', ← unhide hD]; rfl
    have htl : t.size ≤ s.size := by
      have h1 : t.size = t.data.toList.length := rfl
      rw [h1, htd]; exact skipF_len _ _
    obtain ⟨x, hx⟩ : ∃ x : Nat, x = min b.toNat t.size := ⟨_, rfl⟩
    have hRx : R = t.extract x t.size := by
      have e1 : leftOf f b s.data.toList = t.data.toList.drop b.toNat := by rw [htd]; rfl
      have e2 : t.data.toList.drop b.toNat = t.data.toList.drop x := by
        by_cases h : b.toNat ≤ t.size
        · rw [hx, show min b.toNat t.size = b.toNat by omega]
        · have h3 : t.data.toList.length = t.size := rfl
          rw [List.drop_eq_nil_of_le (by omega), List.drop_eq_nil_of_le (by omega)]
      rw [unhide HR, ← Ln.bt_drop', e1, e2]
    have hw : (¬ 0 < b ∧ ¬ (t.size : Int) < b ∧ R = t) ∨ (0 < b ∧ ¬ (t.size : Int) < b ∧ R = t.extract b.toNat t.size) ∨ ((t.size : Int) < b ∧ (0 : Int) < t.size ∧ R = ByteArray.empty) ∨ ((t.size : Int) < b ∧ ¬ (0 : Int) < t.size ∧ R = t) := by
      have e0 : t.extract 0 t.size = t := by simp
      by_cases h1 : (t.size : Int) < b
      · by_cases h2 : (0 : Int) < t.size
        · right; right; left
          exact ⟨h1, h2, by rw [hRx, hx, show min b.toNat t.size = t.size by omega]; simp⟩
        · right; right; right
          exact ⟨h1, h2, by rw [hRx, hx, show min b.toNat t.size = 0 by omega]; exact e0⟩
      · by_cases h2 : 0 < b
        · right; left
          exact ⟨h2, h1, by rw [hRx, hx, show min b.toNat t.size = b.toNat by omega]⟩
        · left
          exact ⟨h2, h1, by rw [hRx, hx, show min b.toNat t.size = 0 by omega]; exact e0⟩
    have HT := ht.symm
    clear htd ht HR hD hx hRx
    rcases hw with ⟨h1, h2, rfl⟩ | ⟨h1, h2, rfl⟩ | ⟨h1, h2, rfl⟩ | ⟨h1, h2, rfl⟩
    all_goals
      go_wp2_with fail
      go_ret
      exact ⟨by first | rfl | simp, rfl⟩
end Go.Proofs.YtmaenfcnkcaojaaDoor.So
