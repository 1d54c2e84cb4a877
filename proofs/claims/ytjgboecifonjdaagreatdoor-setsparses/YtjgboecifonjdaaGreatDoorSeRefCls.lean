/- What the document's class answers. -/
import Derived.Test.YtjgboecifonjdaaGreatDoorSeRead
import Derived.Test.YtjgboecifonjdaaGreatDoorSeSingle
namespace Go.Proofs.YtjgboecifonjdaaGreatDoor.Se
open Go.RowKit

def clsLen (t : Bs) : Nat := match cutC t with | none => 0 | some (n, _) => n.length + 4
theorem clsLen_no {t : Bs} (h : pre [91, 58] t = false) : clsLen t = 0 := by unfold clsLen; rw [cutC_no h]
theorem clsLen_yes {t : Bs} (h : pre [91, 58] t = true) : clsLen t = if pre [58, 93] ((t.drop 2).dropWhile low) = true then ((t.drop 2).takeWhile low).length + 4 else 0 := by
  unfold clsLen; rw [cutC_yes h, cut2]
  by_cases h2 : pre [58, 93] ((t.drop 2).dropWhile low) = true
  · rw [if_pos h2, if_pos h2]
  · rw [if_neg h2, if_neg h2]
theorem pre_at (a b : UInt8) (s : ByteArray) (i : Nat) : pre [a, b] ((bs s).drop i) = if h : i + 1 < s.size then decide (s[i] = a) && decide (s[i + 1] = b) else false := by
  rw [pre2]
  by_cases h : i + 1 < s.size
  · rw [dif_pos h, bs_at s i (by omega), bs_at s (i + 1) h]
    simp
  · rw [dif_neg h]
    by_cases h2 : i < s.size
    · rw [bs_at s i h2, bs_end s (i + 1) (by omega)]
    · rw [bs_end s i (by omega)]

set_option maxHeartbeats 1000000 in
set_option maxRecDepth 100000 in
theorem class_any (s : ByteArray) (at' : Nat) (w : World) (hs : s.size ≤ 4611686018427387900) (hat : at' ≤ s.size) :
    Calls Tryz.prog 12 #[.string s, .int .i64 at'] w fun e w' => e = .returned (.int .i64 (clsLen ((bs s).drop at'))) ∧ w' = w := by
  have HP := hide (pre_at 91 58 s at')
  by_cases h1 : at' + 1 < s.size
  · have h1' : ¬ (s.size : Int) ≤ (at' : Int) + 1 := by omega
    have g0 : (at' : Int) < (s.size : Int) := by omega
    have g1 : (at' : Int) + 1 < (s.size : Int) := by omega
    have g2 : (0 : Int) ≤ (at' : Int) + 1 := by omega
    by_cases hA : (s[at'].toNat : Int) = 91
    · have tA : ((s[at'].toNat : Int) != 91) = false := by simp [hA]
      by_cases hC : (s[at' + 1].toNat : Int) = 58
      · have tC : ((s[at' + 1].toNat : Int) != 58) = false := by simp [hC]
        have hpre : pre [91, 58] ((bs s).drop at') = true := by
          rw [unhide HP, dif_pos h1, show s[at'] = 91 from u8_eq hA, show s[at' + 1] = 58 from u8_eq hC]; rfl
        have HY := hide (clsLen_yes hpre)
        rw [List.drop_drop] at HY
        clear hA hC hpre HP
        go_enter Tryz.func12, Tryz.ntmps12
        go_wp2_with fail
        go_loopw [5] (fun i wr => ∃ k : Nat, at' + 2 + k ≤ s.size ∧ i = .int .i64 ((at' + 2 + k : Nat) : Int) ∧ wr = w ∧ Hid (((bs s).drop (at' + 2)).takeWhile low = ((bs s).drop (at' + 2)).take k ++ ((bs s).drop (at' + 2 + k)).takeWhile low) ∧ Hid (((bs s).drop (at' + 2)).dropWhile low = ((bs s).drop (at' + 2 + k)).dropWhile low)) (fun i _ => s.size - (intOf i).toNat)
        case atStart => exact ⟨0, by omega, by go_num, by trivial, by simp [Hid], by simp [Hid]⟩
        case round =>
          obtain ⟨k, hk, rfl, rfl, e1, e2⟩ := hrel
          have fin : Hid (((bs s).drop (at' + 2 + k)).takeWhile low = [] → ((bs s).drop (at' + 2 + k)).dropWhile low = (bs s).drop (at' + 2 + k) → clsLen ((bs s).drop at') = if pre [58, 93] ((bs s).drop (at' + 2 + k)) = true then k + 4 else 0) := by
            intro f1 f2
            have a1 := unhide e1
            have a2 := unhide e2
            rw [f1, List.append_nil] at a1
            rw [f2] at a2
            rw [unhide HY, show at' + 2 = at' + 2 from rfl, a1, a2, List.length_take, List.length_drop, bs_len, Nat.min_eq_left (by omega)]
          obtain ⟨i, hi⟩ : ∃ i, i = at' + 2 + k := ⟨_, rfl⟩
          have hP2 := hide (pre_at 58 93 s i)
          have hik : (i : Int) = (at' : Int) + 2 + (k : Int) := by omega
          rw [← hi] at fin e1 e2 ⊢
          by_cases hlt : i < s.size
          · have hlt' : (i : Int) < (s.size : Int) := by omega
            have hat2 := hide (bs_at s i hlt)
            have hL := hide (low_int s[i])
            by_cases ha : 97 ≤ (s[i].toNat : Int)
            · by_cases hb : (s[i].toNat : Int) ≤ 122
              · have hlow : Hid (low s[i] = true) := by rw [unhide hL]; simp [ha, hb, Hid]
                have n1 : Hid (((bs s).drop (at' + 2)).takeWhile low = ((bs s).drop (at' + 2)).take (k + 1) ++ ((bs s).drop (i + 1)).takeWhile low) := by
                  show _ = _
                  rw [unhide e1, unhide hat2, List.takeWhile_cons_of_pos (unhide hlow)]
                  have hlk : k < ((bs s).drop (at' + 2)).length := by rw [List.length_drop, bs_len]; omega
                  have hgk : ((bs s).drop (at' + 2))[k] = s[i] := by rw [List.getElem_drop]; subst hi; rfl
                  rw [List.take_succ_eq_append_getElem hlk, hgk]
                  simp
                have n2 : Hid (((bs s).drop (at' + 2)).dropWhile low = ((bs s).drop (i + 1)).dropWhile low) := by
                  show _ = _
                  rw [unhide e2, unhide hat2, List.dropWhile_cons_of_pos (unhide hlow)]
                have HI := hide hi
                clear e1 e2 fin hP2 hi hik
                go_wp2_with fail
                go_roundw
                case rel => exact ⟨k + 1, by have := unhide HI; omega, by have := unhide HI; go_num, by trivial, by rw [show at' + 2 + (k + 1) = i + 1 from by have := unhide HI; omega]; exact n1, by rw [show at' + 2 + (k + 1) = i + 1 from by have := unhide HI; omega]; exact n2⟩
                case measure => simp [intOf]; omega
              · have hlow : low s[i] = false := by rw [unhide hL]; simp; omega
                have F := hide (unhide fin (by rw [unhide hat2, List.takeWhile_cons_of_neg (by simp [hlow])]) (by rw [unhide hat2, List.dropWhile_cons_of_neg (by simp [hlow])]))
                clear fin e1 e2 hlow hi
                by_cases g3 : i + 1 < s.size
                · have t1 : (i : Int) + 1 < (s.size : Int) := by omega
                  have t0 : (0 : Int) ≤ (i : Int) + 1 := by omega
                  by_cases q1 : (s[i].toNat : Int) = 58
                  · exfalso; omega
                  · have u1 : ((s[i].toNat : Int) == 58) = false := by simp; omega
                    have F2 : Hid (clsLen ((bs s).drop at') = 0) := by
                      rw [unhide F, unhide hP2, dif_pos g3, decide_eq_false (u8_ne (b := 58) q1)]; exact rfl
                    clear F hP2 hik q1
                    go_wp2_with fail
                    go_ret
                    exact ⟨by rw [unhide F2]; rfl, rfl⟩
                · have t1 : ¬ (i : Int) + 1 < (s.size : Int) := by omega
                  have F2 : Hid (clsLen ((bs s).drop at') = 0) := by rw [unhide F, unhide hP2, dif_neg (by omega)]; exact rfl
                  clear F hP2 hik
                  go_wp2_with fail
                  go_ret
                  exact ⟨by rw [unhide F2]; rfl, rfl⟩
            · have hlow : low s[i] = false := by rw [unhide hL]; simp; omega
              have F := hide (unhide fin (by rw [unhide hat2, List.takeWhile_cons_of_neg (by simp [hlow])]) (by rw [unhide hat2, List.dropWhile_cons_of_neg (by simp [hlow])]))
              clear fin e1 e2 hlow hi
              by_cases g3 : i + 1 < s.size
              · have t1 : (i : Int) + 1 < (s.size : Int) := by omega
                have t0 : (0 : Int) ≤ (i : Int) + 1 := by omega
                by_cases q1 : (s[i].toNat : Int) = 58
                · have u1 : ((s[i].toNat : Int) == 58) = true := by simp [q1]
                  by_cases q2 : (s[i + 1].toNat : Int) = 93
                  · have u2 : ((s[i + 1].toNat : Int) == 93) = true := by simp [q2]
                    have F2 : Hid (clsLen ((bs s).drop at') = k + 4) := by
                      rw [unhide F, unhide hP2, dif_pos g3, show s[i] = 58 from u8_eq q1, show s[i + 1] = 93 from u8_eq q2]; exact rfl
                    have HIK := hide hik
                    clear F hP2 hik q1 q2
                    go_wp2_with fail
                    go_ret
                    exact ⟨by rw [unhide F2]; have := unhide HIK; simp; omega, rfl⟩
                  · have u2 : ((s[i + 1].toNat : Int) == 93) = false := by simp; omega
                    have F2 : Hid (clsLen ((bs s).drop at') = 0) := by
                      rw [unhide F, unhide hP2, dif_pos g3, decide_eq_false (u8_ne (b := 93) q2)]; simp [Hid]
                    clear F hP2 hik q1 q2
                    go_wp2_with fail
                    go_ret
                    exact ⟨by rw [unhide F2]; rfl, rfl⟩
                · have u1 : ((s[i].toNat : Int) == 58) = false := by simp; omega
                  have F2 : Hid (clsLen ((bs s).drop at') = 0) := by
                    rw [unhide F, unhide hP2, dif_pos g3, decide_eq_false (u8_ne (b := 58) q1)]; exact rfl
                  clear F hP2 hik q1
                  go_wp2_with fail
                  go_ret
                  exact ⟨by rw [unhide F2]; rfl, rfl⟩
              · have t1 : ¬ (i : Int) + 1 < (s.size : Int) := by omega
                have F2 : Hid (clsLen ((bs s).drop at') = 0) := by rw [unhide F, unhide hP2, dif_neg (by omega)]; exact rfl
                clear F hP2 hik
                go_wp2_with fail
                go_ret
                exact ⟨by rw [unhide F2]; rfl, rfl⟩
          · have hd0 : (bs s).drop i = [] := bs_end s i (by omega)
            have F := hide (unhide fin (by rw [hd0]; rfl) (by rw [hd0]; rfl))
            have hie : i ≤ s.size := by omega
            clear fin e1 e2 hi hd0
            have t1 : ¬ (i : Int) + 1 < (s.size : Int) := by omega
            have F2 : Hid (clsLen ((bs s).drop at') = 0) := by rw [unhide F, unhide hP2, dif_neg (by omega)]; exact rfl
            clear F hP2 hik
            go_wp2_with fail
            go_ret
            exact ⟨by rw [unhide F2]; rfl, rfl⟩
      · have tC : ((s[at' + 1].toNat : Int) != 58) = true := by simp; omega
        have F : Hid (clsLen ((bs s).drop at') = 0) := clsLen_no (by rw [unhide HP, dif_pos h1, decide_eq_false (u8_ne (b := 58) hC)]; simp)
        clear HP
        go_enter Tryz.func12, Tryz.ntmps12
        go_wp2_with fail
        go_ret
        exact ⟨by rw [unhide F]; rfl, rfl⟩
    · have tA : ((s[at'].toNat : Int) != 91) = true := by simp; omega
      have F : Hid (clsLen ((bs s).drop at') = 0) := clsLen_no (by rw [unhide HP, dif_pos h1, decide_eq_false (u8_ne (b := 91) hA)]; rfl)
      clear HP
      go_enter Tryz.func12, Tryz.ntmps12
      go_wp2_with fail
      go_ret
      exact ⟨by rw [unhide F]; rfl, rfl⟩
  · have h1' : (s.size : Int) ≤ (at' : Int) + 1 := by omega
    have F : Hid (clsLen ((bs s).drop at') = 0) := clsLen_no (by rw [unhide HP, dif_neg h1])
    clear HP
    go_enter Tryz.func12, Tryz.ntmps12
    go_wp2_with fail
    go_ret
    exact ⟨by rw [unhide F]; rfl, rfl⟩
end Go.Proofs.YtjgboecifonjdaaGreatDoor.Se
