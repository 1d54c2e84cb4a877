/- GlobsParts answers true at every two patterns and every name. -/
import Derived.Test.YtelijbnamiefcaaGlMet
namespace Go.Proofs.Ytelijbnamiefcaa.Gl
open Go.RowKit

set_option maxHeartbeats 1000000 in
set_option maxRecDepth 100000 in
theorem globsParts_any (p q n : ByteArray) (w : World) (hp : p.size ≤ 4611686018427387904) (hq : q.size ≤ 4611686018427387904) (hn : n.size ≤ 4611686018427387904) :
    Calls Try.prog 7 #[.string p, .string q, .string n] w fun e w' => e = .returned (.bool true) ∧ Below w.heap.size w w' := by
  have HA := hide alive_any
  by_cases hbig : p.size ≤ 60 ∧ q.size ≤ 60 ∧ n.size ≤ 60
  · obtain ⟨h1, h2, h3⟩ := hbig
    have h1' : ¬ (60 : Int) < (p.size : Int) := by omega
    have h2' : ¬ (60 : Int) < (q.size : Int) := by omega
    have h3' : ¬ (60 : Int) < (n.size : Int) := by omega
    go_enter Try.func7, Try.ntmps7
    go_wp2_with fail
    refine (unhide HA _).mono ?_
    rintro e w1 ⟨rfl, b1⟩
    have B1 := hide b1
    clear b1
    go_wp2_with fail
    go_loopw [7] (fun v7 wr => ∃ k : Nat, k ≤ p.size ∧ v7 = .int .i64 k ∧ wr = w1 ∧ Hid (∀ c ∈ (bs p).take k, c ≠ 91)) (fun v7 _ => p.size - (intOf v7).toNat)
    case atStart => exact ⟨0, Nat.zero_le _, rfl, rfl, by simp [Hid]⟩
    case round =>
      obtain ⟨k, hk, rfl, rfl, h91⟩ := hrel
      by_cases hlt : k < p.size
      · by_cases hc : p[k] = 91
        · have hc' : (p[k].toNat : Int) = 91 := by rw [hc]; rfl
          clear hc
          go_wp2_with fail
          go_ret
          exact ⟨rfl, unhide B1⟩
        · have hc' : ¬ (p[k].toNat : Int) = 91 := fun e => hc (u8_eq e)
          have h91' : Hid (∀ c ∈ (bs p).take (k + 1), c ≠ 91) := mem_take hlt (unhide h91) hc
          clear hc h91
          go_wp2_with fail
          go_roundw
          case rel => exact ⟨k + 1, by omega, by go_num, by trivial, h91'⟩
          case measure => simp [intOf]; omega
      · have hall : Hid (∀ c ∈ bs p, c ≠ 91) := by
          have h := unhide h91
          rw [take_all p k (by omega)] at h
          exact h
        have hcs := check_small (s := bs p) (by rw [bs_len]; omega)
        have hcq := check_small (s := bs q) (by rw [bs_len]; omega)
        clear h91
        cases hrd : rdA (bs p) with
        | none =>
          rw [hrd] at hcs
          have HC := hide (fun W => check_below p false W hp hcs)
          clear hcs hrd hall hcq
          go_wp2_with fail
          refine (unhide HC _).mono ?_
          rintro e w2 ⟨rfl, c2⟩
          have b2 := (unhide B1).trans (c2.mono (unhide B1).size)
          clear c2
          go_wp2_with fail
          go_ret
          exact ⟨rfl, b2⟩
        | some ts =>
          rw [hrd] at hcs
          have HC := hide (fun W => check_below p true W hp hcs)
          have hR := hide hrd
          have hM : Hid (∀ x : ByteArray, matchP (bs p) (bs x) = mt ts (bs x)) := fun x => match_small _ (by rw [bs_len]; omega) hrd
          clear hcs hrd
          cases hrq : rdA (bs q) with
          | none =>
            rw [hrq] at hcq
            have HD := hide (fun W => check_below q false W hq hcq)
            clear hcq hrq hall hM hR
            go_wp2_with fail
            refine (unhide HC _).mono ?_
            rintro e w2 ⟨rfl, c2⟩
            have b2 := (unhide B1).trans (c2.mono (unhide B1).size)
            clear c2
            go_wp2_with fail
            refine (unhide HD _).mono ?_
            rintro e w3 ⟨rfl, c3⟩
            have b3 := b2.trans (c3.mono b2.size)
            clear c3
            go_wp2_with fail
            go_ret
            exact ⟨rfl, b3⟩
          | some us =>
            rw [hrq] at hcq
            have HD := hide (fun W => check_below q true W hq hcq)
            have hRq := hide hrq
            have hMq : Hid (∀ x : ByteArray, matchP (bs q) (bs x) = mt us (bs x)) := fun x => match_small _ (by rw [bs_len]; omega) hrq
            clear hcq hrq
            go_wp2_with fail
            refine (unhide HC _).mono ?_
            rintro e w2 ⟨rfl, c2⟩
            have b2 := (unhide B1).trans (c2.mono (unhide B1).size)
            clear c2 B1 HC
            go_wp2_with fail
            refine (unhide HD _).mono ?_
            rintro e w3 ⟨rfl, c3⟩
            have B3 := hide (b2.trans (c3.mono b2.size))
            clear c3 b2 HD
            go_wp2_with fail
            go_loopw [8, 9] (fun v8 v9 wr => ∃ (k : Nat) (bg : Bool), k ≤ n.size + 1 ∧ v8 = .bool bg ∧ v9 = .int .i64 k ∧ Hid (bg = true ↔ ∃ i, i < k ∧ mt ts ((bs n).take i) = true ∧ mt us ((bs n).drop i) = true) ∧ Hid (Below w.heap.size w wr)) (fun _ v9 _ => n.size + 1 - (intOf v9).toNat)
            case atStart => exact ⟨0, false, by omega, rfl, rfl, by simp [Hid], B3⟩
            case round =>
              clear B3
              obtain ⟨k, bg, hk, rfl, rfl, hbg, hB⟩ := hrel
              by_cases hle : k ≤ n.size
              · cases bg
                · have hMx := hide (fun W => match_below p (n.extract 0 k) (mt ts ((bs n).take k)) W hp (by rw [← bs_len, bs_to, List.length_take]; omega) (by rw [unhide hM, bs_to]))
                  have hMy := hide (fun W => match_below q (n.extract k n.size) (mt us ((bs n).drop k)) W hq (by rw [size_from]; omega) (by rw [unhide hMq, bs_from]))
                  obtain ⟨r, hr⟩ : ∃ r, r = mt ts ((bs n).take k) := ⟨_, rfl⟩
                  obtain ⟨y, hy⟩ : ∃ y, y = mt us ((bs n).drop k) := ⟨_, rfl⟩
                  rw [← hr] at hMx
                  rw [← hy] at hMy
                  have hbg' : Hid ((r && y) = true ↔ ∃ i, i < k + 1 ∧ mt ts ((bs n).take i) = true ∧ mt us ((bs n).drop i) = true) := by
                    constructor
                    · intro h
                      rw [Bool.and_eq_true] at h
                      exact ⟨k, by omega, by rw [← hr]; exact h.1, by rw [← hy]; exact h.2⟩
                    · rintro ⟨i, hi, h, h'⟩
                      by_cases e : i = k
                      · rw [hr, hy, ← e, h, h']; rfl
                      · have := (unhide hbg).2 ⟨i, by omega, h, h'⟩; cases this
                  clear hr hy hbg
                  go_wp2_with fail
                  refine (unhide hMx _).mono ?_
                  rintro e w5 ⟨rfl, c5⟩
                  have hB5 := hide ((unhide hB).trans (c5.mono (unhide hB).size))
                  clear c5 hB hMx
                  cases r
                  · go_wp2_with fail
                    go_roundw
                    case rel => exact ⟨k + 1, false, by omega, rfl, by go_num, hbg', hB5⟩
                    case measure => simp [intOf]; omega
                  · go_wp2_with fail
                    refine (unhide hMy _).mono ?_
                    rintro e w6 ⟨rfl, c6⟩
                    have hB6 := hide ((unhide hB5).trans (c6.mono (unhide hB5).size))
                    clear c6 hB5 hMy
                    rw [Bool.true_and] at hbg'
                    go_wp2_with fail
                    go_roundw
                    case rel => exact ⟨k + 1, y, by omega, rfl, by go_num, hbg', hB6⟩
                    case measure => simp [intOf]; omega
                · have hbg' : Hid (true = true ↔ ∃ i, i < k + 1 ∧ mt ts ((bs n).take i) = true ∧ mt us ((bs n).drop i) = true) := by
                    obtain ⟨i, hi, h⟩ := (unhide hbg).1 rfl
                    exact ⟨fun _ => ⟨i, by omega, h⟩, fun _ => rfl⟩
                  clear hbg
                  go_wp2_with fail
                  go_roundw
                  case rel => exact ⟨k + 1, true, by omega, rfl, by go_num, hbg', hB⟩
                  case measure => simp [intOf]; omega
              · have hkn : k = n.size + 1 := by omega
                have hb1 : mt (ts ++ us) (bs n) = bg := by
                  rw [Bool.eq_iff_iff, mt_app, unhide hbg, hkn, bs_len]
                  constructor
                  · rintro ⟨i, hi, h⟩; exact ⟨i, by omega, h⟩
                  · rintro ⟨i, hi, h⟩; exact ⟨i, by omega, h⟩
                have hM1 := hide (fun W => match_below (p ++ q) n bg W (by rw [size_app]; omega) hn (by
                  rw [bs_app, ← hb1]
                  exact match_small _ (by rw [List.length_append, bs_len, bs_len]; omega) (by rw [rdA_app _ _ ts (unhide hall) (unhide hR), unhide hRq]; rfl)))
                have hc1 : ¬ 9223372036854775807 < p.size + q.size := by omega
                clear hb1 hbg hkn hM hR hall hMq hRq
                go_wp2_with fail
                refine (unhide hM1 _).mono ?_
                rintro e w5 ⟨rfl, c5⟩
                have b5 := (unhide hB).trans (c5.mono (unhide hB).size)
                clear c5
                cases bg
                · go_wp2_with fail
                  go_ret
                  exact ⟨rfl, b5⟩
                · go_wp2_with fail
                  go_ret
                  exact ⟨rfl, b5⟩
  · by_cases h1 : p.size ≤ 60
    · have h1' : ¬ (60 : Int) < (p.size : Int) := by omega
      by_cases h2 : q.size ≤ 60
      · have h2' : ¬ (60 : Int) < (q.size : Int) := by omega
        have h3' : (60 : Int) < (n.size : Int) := by omega
        clear hbig
        go_enter Try.func7, Try.ntmps7
        go_wp2_with fail
        refine (unhide HA _).mono ?_
        rintro e w1 ⟨rfl, b1⟩
        go_wp2_with fail
        refine (unhide HA _).mono ?_
        rintro e w2 ⟨rfl, c2⟩
        go_wp2_with fail
        go_ret
        exact ⟨rfl, b1.trans (c2.mono b1.size)⟩
      · have h2' : (60 : Int) < (q.size : Int) := by omega
        clear hbig
        go_enter Try.func7, Try.ntmps7
        go_wp2_with fail
        refine (unhide HA _).mono ?_
        rintro e w1 ⟨rfl, b1⟩
        go_wp2_with fail
        refine (unhide HA _).mono ?_
        rintro e w2 ⟨rfl, c2⟩
        go_wp2_with fail
        go_ret
        exact ⟨rfl, b1.trans (c2.mono b1.size)⟩
    · have h1' : (60 : Int) < (p.size : Int) := by omega
      clear hbig
      go_enter Try.func7, Try.ntmps7
      go_wp2_with fail
      refine (unhide HA _).mono ?_
      rintro e w1 ⟨rfl, b1⟩
      go_wp2_with fail
      refine (unhide HA _).mono ?_
      rintro e w2 ⟨rfl, c2⟩
      go_wp2_with fail
      go_ret
      exact ⟨rfl, b1.trans (c2.mono b1.size)⟩
end Go.Proofs.Ytelijbnamiefcaa.Gl
