/- GlobsStars answers true at every pattern and name. -/
import Derived.Test.YtelijbnamiefcaaGlMet
namespace Go.Proofs.Ytelijbnamiefcaa.Gl
open Go.RowKit

theorem begins_iff (ts us : List Th) (n : Bs) (hu : ∀ m, mt us m = true) : mt (ts ++ us) n = true ↔ ∃ i, i < n.length + 1 ∧ mt ts (n.take i) = true := by
  rw [mt_app]
  constructor
  · rintro ⟨i, hi, h1, _⟩; exact ⟨i, by omega, h1⟩
  · rintro ⟨i, hi, h1⟩; exact ⟨i, by omega, h1, hu _⟩
set_option maxHeartbeats 1000000 in
set_option maxRecDepth 100000 in
theorem globsStars_any (p n : ByteArray) (w : World) (hp : p.size ≤ 4611686018427387904) (hn : n.size ≤ 4611686018427387904) :
    Calls Try.prog 6 #[.string p, .string n] w fun e w' => e = .returned (.bool true) ∧ Below w.heap.size w w' := by
  have HA := hide alive_any
  by_cases h1 : p.size ≤ 100
  · by_cases h2 : n.size ≤ 100
    · have h1' : ¬ (100 : Int) < (p.size : Int) := by omega
      have h2' : ¬ (100 : Int) < (n.size : Int) := by omega
      go_enter Try.func6, Try.ntmps6
      go_wp2_with fail
      refine (unhide HA _).mono ?_
      rintro e w1 ⟨rfl, b1⟩
      have B1 := hide b1
      clear b1
      go_wp2_with fail
      go_loopw [5] (fun v5 wr => ∃ k : Nat, k ≤ p.size ∧ v5 = .int .i64 k ∧ wr = w1 ∧ Hid (∀ c ∈ (bs p).take k, c ≠ 91)) (fun v5 _ => p.size - (intOf v5).toNat)
      case atStart => exact ⟨0, Nat.zero_le _, rfl, rfl, by simp [Hid]⟩
      case round =>
        obtain ⟨k, hk, rfl, rfl, h91⟩ := hrel
        by_cases hlt : k < p.size
        · by_cases hc : p[k] = 91
          · have hc' : (p[k].toNat : Int) = 91 := by rw [hc]; rfl
            clear hc
            go_wp2_with fail
            go_ret
            exact ⟨rfl, unhide B1⟩
          · have hc' : ¬ (p[k].toNat : Int) = 91 := fun e => hc (u8_eq e)
            have h91' : Hid (∀ c ∈ (bs p).take (k + 1), c ≠ 91) := mem_take hlt (unhide h91) hc
            clear hc h91
            go_wp2_with fail
            go_roundw
            case rel => exact ⟨k + 1, by omega, by go_num, by trivial, h91'⟩
            case measure => simp [intOf]; omega
        · have hall : Hid (∀ c ∈ bs p, c ≠ 91) := by
            have h := unhide h91
            rw [take_all p k (by omega)] at h
            exact h
          have hcs := check_small (s := bs p) (by rw [bs_len]; omega)
          clear h91
          cases hrd : rdA (bs p) with
          | none =>
            rw [hrd] at hcs
            have HC := hide (fun W => check_below p false W hp hcs)
            have HM := hide (fun W => match_below p n false W hp hn (by unfold matchP; rw [readP_of (by rw [bs_len]; omega), hrd]))
            clear hcs hrd hall
            go_wp2_with fail
            refine (unhide HC _).mono ?_
            rintro e w2 ⟨rfl, c2⟩
            have b2 := (unhide B1).trans (c2.mono (unhide B1).size)
            clear c2
            go_wp2_with fail
            refine (unhide HM _).mono ?_
            rintro e w3 ⟨rfl, c3⟩
            go_wp2_with fail
            go_ret
            exact ⟨rfl, b2.trans (c3.mono b2.size)⟩
          | some ts =>
            rw [hrd] at hcs
            have HC := hide (fun W => check_below p true W hp hcs)
            have hR := hide hrd
            have hM : Hid (∀ x : ByteArray, matchP (bs p) (bs x) = mt ts (bs x)) := fun x => match_small _ (by rw [bs_len]; omega) hrd
            clear hcs hrd
            go_wp2_with fail
            refine (unhide HC _).mono ?_
            rintro e w2 ⟨rfl, c2⟩
            have B2 := hide ((unhide B1).trans (c2.mono (unhide B1).size))
            clear c2 B1 HC
            go_wp2_with fail
            go_loopw [6, 7] (fun v6 v7 wr => ∃ (k : Nat) (bg : Bool), k ≤ n.size + 1 ∧ v6 = .bool bg ∧ v7 = .int .i64 k ∧ Hid (bg = true ↔ ∃ i, i < k ∧ mt ts ((bs n).take i) = true) ∧ Hid (Below w.heap.size w wr)) (fun _ v7 _ => n.size + 1 - (intOf v7).toNat)
            case atStart => exact ⟨0, false, by omega, rfl, rfl, by simp [Hid], B2⟩
            case round =>
              clear B2
              obtain ⟨k, bg, hk, rfl, rfl, hbg, hB⟩ := hrel
              by_cases hle : k ≤ n.size
              · cases bg
                · have hMx := hide (fun W => match_below p (n.extract 0 k) (mt ts ((bs n).take k)) W hp (by rw [← bs_len, bs_to, List.length_take]; omega) (by rw [unhide hM, bs_to]))
                  obtain ⟨r, hr⟩ : ∃ r, r = mt ts ((bs n).take k) := ⟨_, rfl⟩
                  rw [← hr] at hMx
                  have hbg' : Hid (r = true ↔ ∃ i, i < k + 1 ∧ mt ts ((bs n).take i) = true) := by
                    constructor
                    · intro h; exact ⟨k, by omega, by rw [← hr]; exact h⟩
                    · rintro ⟨i, hi, h⟩
                      by_cases e : i = k
                      · rw [hr, ← e]; exact h
                      · have := (unhide hbg).2 ⟨i, by omega, h⟩; cases this
                  clear hr hbg
                  go_wp2_with fail
                  refine (unhide hMx _).mono ?_
                  rintro e w5 ⟨rfl, c5⟩
                  have hB5 := hide ((unhide hB).trans (c5.mono (unhide hB).size))
                  clear c5 hB hMx
                  go_wp2_with fail
                  go_roundw
                  case rel => exact ⟨k + 1, r, by omega, rfl, by go_num, hbg', hB5⟩
                  case measure => simp [intOf]; omega
                · have hbg' : Hid (true = true ↔ ∃ i, i < k + 1 ∧ mt ts ((bs n).take i) = true) := by
                    obtain ⟨i, hi, h⟩ := (unhide hbg).1 rfl
                    exact ⟨fun _ => ⟨i, by omega, h⟩, fun _ => rfl⟩
                  clear hbg
                  go_wp2_with fail
                  go_roundw
                  case rel => exact ⟨k + 1, true, by omega, rfl, by go_num, hbg', hB⟩
                  case measure => simp [intOf]; omega
              · have hkn : k = n.size + 1 := by omega
                have hb1 : mt (ts ++ [star]) (bs n) = bg := by
                  rw [Bool.eq_iff_iff, begins_iff _ _ _ mt_star, unhide hbg, hkn]; rfl
                have hb2 : mt (ts ++ [star, star]) (bs n) = bg := by
                  rw [Bool.eq_iff_iff, begins_iff _ _ _ mt_stars, unhide hbg, hkn]; rfl
                have hM1 := hide (fun W => match_below (p ++ { data := #[42] }) n bg W (by rw [size_app, show (ByteArray.mk #[42]).size = 1 from rfl]; omega) hn (by
                  rw [bs_app, ← hb1]
                  exact match_small _ (by rw [List.length_append, bs_len]; simp; omega) (by rw [rdA_app _ _ ts (unhide hall) (unhide hR), show bs { data := #[42] } = [42] from rfl, rdA_star]; rfl)))
                have hM2 := hide (fun W => match_below (p ++ { data := #[42, 42] }) n bg W (by rw [size_app, show (ByteArray.mk #[42, 42]).size = 2 from rfl]; omega) hn (by
                  rw [bs_app, ← hb2]
                  exact match_small _ (by rw [List.length_append, bs_len]; simp; omega) (by rw [rdA_app _ _ ts (unhide hall) (unhide hR), show bs { data := #[42, 42] } = [42, 42] from rfl, rdA_stars]; rfl)))
                have hM3 := hide (fun W => match_below { data := #[42] } n true W (by decide) hn (by
                  exact (match_small _ (by decide) rdA_star).trans (mt_star _)))
                have hc1 : ¬ 9223372036854775807 < p.size + 1 := by omega
                have hc2 : ¬ 9223372036854775807 < p.size + 2 := by omega
                clear hb1 hb2 hbg hkn hM hR hall
                go_wp2_with fail
                refine (unhide hM1 _).mono ?_
                rintro e w5 ⟨rfl, c5⟩
                have b5 := (unhide hB).trans (c5.mono (unhide hB).size)
                clear c5
                cases bg
                · go_wp2_with fail
                  refine (unhide hM2 _).mono ?_
                  rintro e w6 ⟨rfl, c6⟩
                  have b6 := b5.trans (c6.mono b5.size)
                  clear c6
                  go_wp2_with fail
                  refine (unhide hM3 _).mono ?_
                  rintro e w7 ⟨rfl, c7⟩
                  go_wp2_with fail
                  go_ret
                  exact ⟨rfl, b6.trans (c7.mono b6.size)⟩
                · go_wp2_with fail
                  refine (unhide hM2 _).mono ?_
                  rintro e w6 ⟨rfl, c6⟩
                  have b6 := b5.trans (c6.mono b5.size)
                  clear c6
                  go_wp2_with fail
                  refine (unhide hM3 _).mono ?_
                  rintro e w7 ⟨rfl, c7⟩
                  go_wp2_with fail
                  go_ret
                  exact ⟨rfl, b6.trans (c7.mono b6.size)⟩
    · have h1' : ¬ (100 : Int) < (p.size : Int) := by omega
      have h2' : (100 : Int) < (n.size : Int) := by omega
      go_enter Try.func6, Try.ntmps6
      go_wp2_with fail
      refine (unhide HA _).mono ?_
      rintro e w1 ⟨rfl, b1⟩
      go_wp2_with fail
      refine (unhide HA _).mono ?_
      rintro e w2 ⟨rfl, c2⟩
      go_wp2_with fail
      go_ret
      exact ⟨rfl, b1.trans (c2.mono b1.size)⟩
  · have h1' : (100 : Int) < (p.size : Int) := by omega
    go_enter Try.func6, Try.ntmps6
    go_wp2_with fail
    refine (unhide HA _).mono ?_
    rintro e w1 ⟨rfl, b1⟩
    go_wp2_with fail
    refine (unhide HA _).mono ?_
    rintro e w2 ⟨rfl, c2⟩
    go_wp2_with fail
    go_ret
    exact ⟨rfl, b1.trans (c2.mono b1.size)⟩
end Go.Proofs.Ytelijbnamiefcaa.Gl
