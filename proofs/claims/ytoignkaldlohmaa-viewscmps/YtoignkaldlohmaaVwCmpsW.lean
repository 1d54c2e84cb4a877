/- What the document's Cmp answers: the same; the law ViewsCmps's walk. -/
import Derived.Test.YtoignkaldlohmaaVwCmp
import Derived.Test.YtoignkaldlohmaaBeyond2
set_option linter.unusedVariables false
namespace Go.Proofs.Ytoignkaldlohmaa.Vw
open Go.RowKit Go.Shelf Cu

theorem count_step (a : Bs) (n : Nat) (h : n < a.length) : (a.take (n + 1)).count 10 = (a.take n).count 10 + if a[n].toNat = 10 then 1 else 0 := by
  rw [List.take_succ_eq_append_getElem h, List.count_append]
  congr 1
  by_cases he : a[n].toNat = 10
  · have : a[n] = 10 := UInt8.toNat_inj.1 (by rw [he]; rfl)
    rw [if_pos he, this]; decide
  · rw [if_neg he, List.count_singleton]
    have : ¬ a[n] = 10 := fun e => he (by rw [e]; rfl)
    simp [this]

set_option maxHeartbeats 800000 in
theorem refCmp_any (a b : ByteArray) (w : World) (ha : a.size ≤ 1073741824) (hb : b.size ≤ 1073741824) :
    Calls Try.prog 6 #[.string a, .string b] w fun e w' => e = .returned (cmpV (cmpP (bs a) (bs b))) ∧ Below w.heap.size w w' := by
  have hla : (bs a).length = a.size := rfl
  have hlb : (bs b).length = b.size := rfl
  go_enter Try.func6, Try.ntmps6
  go_wp2_with fail
  go_loopw [7, 8] (fun v5 v6 wr => ∃ n c : Nat, v5 = .int .i64 (c + 1) ∧ v6 = .int .i64 n ∧ n ≤ a.size ∧ n ≤ b.size ∧ c ≤ n ∧ Hid (c = ((bs a).take n).count 10) ∧ Hid (alikeN (bs a) (bs b) = n + alikeN ((bs a).drop n) ((bs b).drop n)) ∧ Hid (Below w.heap.size w wr)) (fun _ v6 _ => a.size - (intOf v6).toNat)
  case atStart => exact ⟨0, 0, rfl, rfl, Nat.zero_le _, Nat.zero_le _, Nat.le_refl _, by show _ = _; simp, by show _ = _; simp, Below.refl _ _⟩
  case round =>
    obtain ⟨n, c, rfl, rfl, hn, hn2, hc, hcc, hinv, hbl⟩ := hrel
    by_cases h1 : n < a.size
    · have h1' : (n : Int) < (a.size : Int) := by omega
      by_cases h2 : n < b.size
      · have h2' : (n : Int) < (b.size : Int) := by omega
        by_cases he : (a[n].toNat : Int) = (b[n].toNat : Int)
        · have hs := hide (alikeN_step _ _ n (unhide hinv) h1 h2 (u8_eq he))
          have hk := count_step (bs a) n h1
          rw [get_bs a n h1] at hk
          clear hinv
          by_cases h10 : (a[n].toNat : Int) = 10
          · rw [if_pos (by omega)] at hk
            have hk' := hide (show c + 1 = ((bs a).take (n + 1)).count 10 by rw [hk, ← unhide hcc])
            clear hk hcc
            go_wp2_with fail
            go_quiet (fail)
            go_wp2_with fail
            go_roundw
            case rel => exact ⟨n + 1, c + 1, by go_num, by go_num, by omega, by omega, by omega, hk', hs, below_drewN (unhide hbl) _⟩
            case measure => simp [intOf]; omega
          · rw [if_neg (by omega)] at hk
            have hk' := hide (show c = ((bs a).take (n + 1)).count 10 by rw [hk, ← unhide hcc]; rfl)
            clear hk hcc
            go_wp2_with fail
            go_quiet (fail)
            go_wp2_with fail
            go_roundw
            case rel => exact ⟨n + 1, c, by go_num, by go_num, by omega, by omega, by omega, hk', hs, below_drewN (unhide hbl) _⟩
            case measure => simp [intOf]; omega
        · have hs := alikeN_stop _ _ n (unhide hinv) h1 h2 (u8_ne he)
          have hp : Hid (cmpP (bs a) (bs b) = (n + 1, c + 1, 0)) := by
            show _ = _
            unfold cmpP
            rw [hs, hla, hlb, if_pos ⟨h1, h2⟩, ← unhide hcc]
          clear hinv hs hcc
          go_wp2_with fail
          go_quiet (fail)
          go_wp2_with fail
          go_ret3
          refine ⟨?_, below_drewN (unhide hbl) _⟩
          rw [unhide hp]
          unfold cmpV
          go_num
      · have hs := alikeN_out _ _ n (unhide hinv) (.inr (by omega))
        have hp : Hid (cmpP (bs a) (bs b) = (0, 0, 2)) := by
          show _ = _
          unfold cmpP
          rw [hs, hla, hlb, if_neg (by omega), if_neg h2, if_pos h1]
        clear hinv hs hcc
        have h3 : ¬ (a.size : Int) < (b.size : Int) := by omega
        have h4 : (b.size : Int) < (a.size : Int) := by omega
        go_wp2_with fail
        go_ret3
        exact ⟨by rw [unhide hp]; rfl, unhide hbl⟩
    · have hs := alikeN_out _ _ n (unhide hinv) (.inl (by omega))
      by_cases h2 : n < b.size
      · have hp : Hid (cmpP (bs a) (bs b) = (0, 0, 1)) := by
          show _ = _
          unfold cmpP
          rw [hs, hla, hlb, if_neg (by omega), if_pos h2]
        clear hinv hs hcc
        have h3 : (a.size : Int) < (b.size : Int) := by omega
        go_wp2_with fail
        go_ret3
        exact ⟨by rw [unhide hp]; rfl, unhide hbl⟩
      · have hp : Hid (cmpP (bs a) (bs b) = (0, 0, 0)) := by
          show _ = _
          unfold cmpP
          rw [hs, hla, hlb, if_neg (by omega), if_neg h2, if_neg h1]
        clear hinv hs hcc
        have h3 : ¬ (a.size : Int) < (b.size : Int) := by omega
        have h4 : ¬ (b.size : Int) < (a.size : Int) := by omega
        go_wp2_with fail
        go_ret3
        exact ⟨by rw [unhide hp]; rfl, unhide hbl⟩

set_option maxHeartbeats 400000 in
theorem viewsCmps_any (a b : ByteArray) (w : World) (ha : a.size ≤ 4611686018427387904) (hb : b.size ≤ 4611686018427387904) :
    Calls Try.prog 3 #[.string a, .string b] w fun e w' => e = .returned (.bool true) ∧ Below w.heap.size w w' := by
  go_enter Try.func3, Try.ntmps3
  go_wp2_with fail
  refine (Pa.beyond_two (a.size : Int) (b.size : Int) w.heap.size _ (by simp) (by simp) (by omega) (by omega) (by omega) (by omega)).mono ?_
  rintro e w' ⟨rfl, rfl⟩
  by_cases hlt : 1048576 < (a.size : Int) + (b.size : Int)
  · go_wp2_with fail
    go_ret
    exact ⟨rfl, (Below.refl _ _).alloc (Nat.le_refl _) _⟩
  · have H1 := hide (fun W => cmp_any a b W (by omega) (by omega))
    have H2 := hide (fun W => refCmp_any a b W (by omega) (by omega))
    generalize cmpP (bs a) (bs b) = p at *
    obtain ⟨x, y, z⟩ := p
    unfold cmpV at *
    go_wp2_with fail
    refine (unhide H1 _).mono ?_
    rintro e w1 ⟨rfl, b1⟩
    have B1 := hide (((Below.refl w.heap.size w).alloc (Nat.le_refl _) _).trans (b1.mono (by simp)))
    clear b1
    go_wp2_with fail
    refine (unhide H2 _).mono ?_
    rintro e w2 ⟨rfl, b2⟩
    have B2 := hide ((unhide B1).trans (b2.mono (unhide B1).size))
    clear b2
    go_wp2_with fail
    go_ret
    exact ⟨rfl, unhide B2⟩
end Go.Proofs.Ytoignkaldlohmaa.Vw
