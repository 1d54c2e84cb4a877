/- The law SetsDropped: walked. -/
import Derived.Test.YtjgboecifonjdabSeAlive
import Derived.Test.YtjgboecifonjdabSeFacts
namespace Go.Proofs.Ytjgboecifonjdab.Se
open Go.RowKit

theorem drop_cons (c : UInt8) (t l : Bs) : drop (c :: t) l = if l.elem c = true then drop t l else c :: drop t l := by
  unfold drop
  by_cases h : c ∈ l <;> simp [h]
theorem bs_of (L : Bs) : bs ⟨L.toArray⟩ = L := rfl
theorem at_drop {D : ByteArray} {k : Nat} {c : UInt8} {t : Bs} (h : (bs D).drop k = c :: t) : ∃ hk : k < D.size, D[k] = c ∧ (bs D).drop (k + 1) = t := by
  have hk : k < D.size := by
    have := congrArg List.length h
    rw [List.length_drop, bs_len] at this; simp at this; omega
  rw [bs_at D k hk] at h
  exact ⟨hk, (List.cons.inj h).1, (List.cons.inj h).2⟩
theorem eq_text {X : Bs} {D : ByteArray} (h : X = bs D) : (⟨X.toArray⟩ : ByteArray) = D := ba_ext (by rw [bs_of, h])

set_option maxHeartbeats 1000000 in
set_option maxRecDepth 100000 in
theorem dropped_walk (s : ByteArray) (a : Option Addr) (n cap : Nat) (l : Bs) (w : World) (h1 : By w a n cap l) :
    Calls Try.prog 3 #[.string s, .slice a n cap] w fun e w' => e = .returned (.bool true) ∧ Below w.heap.size w w' := by
  have H1 := hide h1
  clear h1
  go_enter Try.func3, Try.ntmps3
  go_wp2_with fail
  refine (alive_any w).mono ?_
  rintro e w1 ⟨rfl, hb1⟩
  have B1 := hide hb1
  have Y1 := hide ((unhide H1).below hb1)
  clear hb1 H1
  rcases (show (20000 : Int) < (s.size : Int) ∨ (¬ (20000 : Int) < (s.size : Int) ∧ (300 : Int) < (n : Int)) ∨ (¬ (20000 : Int) < (s.size : Int) ∧ ¬ (300 : Int) < (n : Int)) from by omega) with g1 | ⟨g1, g2⟩ | ⟨g1, g2⟩
  · go_wp2_with fail
    refine (alive_any w1).mono ?_
    rintro e w3 ⟨rfl, hb3⟩
    have B3 := hide ((unhide B1).trans (hb3.mono (unhide B1).size))
    clear hb3
    go_wp2_with fail
    go_ret
    exact ⟨rfl, unhide B3⟩
  · go_wp2_with fail
    refine (alive_any w1).mono ?_
    rintro e w3 ⟨rfl, hb3⟩
    have B3 := hide ((unhide B1).trans (hb3.mono (unhide B1).size))
    clear hb3
    go_wp2_with fail
    go_ret
    exact ⟨rfl, unhide B3⟩
  · have CD : Hid (∀ (x : ByteArray) W, By W a n cap l → x.size ≤ 70368744177664 → Calls Try.prog 7 #[.string x, .slice a n cap] W fun e w' => e = .returned (.string ⟨(drop (bs x) l).toArray⟩) ∧ Below W.heap.size W w') := fun x W hY hx => drop_any x a n cap cap l W hY (by omega) hx
    have CQ : Hid (∀ (x : ByteArray) W, By W a n cap l → x.size ≤ 70368744177664 → Calls Try.prog 8 #[.string x, .slice a n cap] W fun e w' => e = .returned (.string ⟨(squeeze (bs x) l).toArray⟩) ∧ Below W.heap.size W w') := fun x W hY hx => squeeze_any x a n cap cap l W hY (by omega) hx
    have C1 := hide (unhide CD s w1 (unhide Y1) (by omega))
    have C2 := hide (unhide CQ s)
    obtain ⟨D, hD⟩ : ∃ D : ByteArray, D = ⟨(drop (bs s) l).toArray⟩ := ⟨_, rfl⟩
    obtain ⟨Q, hQ⟩ : ∃ Q : ByteArray, Q = ⟨(squeeze (bs s) l).toArray⟩ := ⟨_, rfl⟩
    rw [← hD] at C1
    rw [← hQ] at C2
    have HD : Hid (bs D = drop (bs s) l) := by rw [hD]; exact rfl
    have HQ : Hid (bs Q = squeeze (bs s) l) := by rw [hQ]; exact rfl
    have hDs : D.size ≤ s.size := by rw [← bs_len, unhide HD, ← bs_len s]; exact drop_le _ _
    have hQs : Q.size ≤ s.size := by rw [← bs_len, unhide HQ, ← bs_len s]; exact sq_le _ _ _
    have E1 : Hid ((⟨(drop (bs D) l).toArray⟩ : ByteArray) = D) := eq_text (by rw [unhide HD]; exact drop_drop _ _)
    have E2 : Hid ((⟨(squeeze (bs Q) l).toArray⟩ : ByteArray) = Q) := eq_text (by rw [unhide HQ]; exact sq_sq _ _ _)
    have E3 : Hid ((⟨(drop (bs Q) l).toArray⟩ : ByteArray) = D) := eq_text (by rw [unhide HQ, unhide HD]; exact drop_sq _ _ _)
    have NX : Hid (∀ i (h0 : i < Q.size) (h : i + 1 < Q.size), Q[i + 1] = Q[i] → l.elem Q[i + 1] = false) := fun i h0 h e => by
      refine sq_next l none (bs s) i Q[i + 1] ?_ ?_
      · rw [show sq l none (bs s) = bs Q from (unhide HQ).symm, e]
        exact List.getElem?_eq_getElem (by rw [bs_len]; exact h0)
      · rw [show sq l none (bs s) = bs Q from (unhide HQ).symm]
        exact List.getElem?_eq_getElem (by rw [bs_len]; exact h)
    have C4 := hide (unhide CD D)
    have C5 := hide (unhide CQ Q)
    have C6 := hide (unhide CD Q)
    rw [unhide E1] at C4
    rw [unhide E2] at C5
    rw [unhide E3] at C6
    clear hD hQ CD CQ E1 E2 E3
    go_wp2_with fail
    refine (unhide C1).mono ?_
    rintro e w2 ⟨rfl, hb2⟩
    have B2 := hide ((unhide B1).trans (hb2.mono (unhide B1).size))
    have Y2 := hide ((unhide Y1).below hb2)
    have D2 := hide (unhide C2 w2 (unhide Y2) (by omega))
    clear hb2 B1 Y1 C1 C2
    go_wp2_with fail
    refine (unhide D2).mono ?_
    rintro e w3 ⟨rfl, hb3⟩
    have B3 := hide ((unhide B2).trans (hb3.mono (unhide B2).size))
    have Y3 := hide ((unhide Y2).below hb3)
    clear hb3 B2 Y2 D2
    go_wp2_with fail
    go_loopw [7, 8] (fun kv i wr => ∃ j k q : Nat, j ≤ s.size ∧ k ≤ D.size ∧ kv = .int .i64 k ∧ i = .int .i64 j ∧ wr = w3.drewN q ∧ Hid ((bs D).drop k = drop ((bs s).drop j) l)) (fun _ i _ => s.size - (intOf i).toNat)
    case atStart => exact ⟨0, 0, 0, Nat.zero_le _, Nat.zero_le _, rfl, rfl, rfl, by rw [List.drop_zero, List.drop_zero]; exact unhide HD⟩
    case round =>
      obtain ⟨j, k, q, hj, hk, rfl, rfl, rfl, hR⟩ := hrel
      by_cases hlt : j < s.size
      · have hlt' : (j : Int) < (s.size : Int) := by omega
        have Hh := hide (has_any a n cap cap l s[j] (w3.drewN q) ((unhide Y3).below (below_drew _ _)) (by omega))
        have hR2 : Hid ((bs D).drop k = if l.elem s[j] = true then drop ((bs s).drop (j + 1)) l else s[j] :: drop ((bs s).drop (j + 1)) l) := by
          rw [unhide hR, bs_at s j hlt]; exact drop_cons _ _ _
        cases he : l.elem s[j]
        · rw [he] at Hh
          have hR3 := unhide hR2
          rw [he] at hR3
          obtain ⟨hkD, hDk, hnx⟩ := at_drop hR3
          have HNX := hide hnx
          have hkD' : (k : Int) < (D.size : Int) := by omega
          have t1 : ((k : Int) == (D.size : Int)) = false := by simp; omega
          have t2 : ((D[k].toNat : Int) != (s[j].toNat : Int)) = false := by rw [hDk]; simp
          clear he hR hR2 hR3 hDk hnx
          go_wp2_with fail
          refine (unhide Hh).mono ?_
          rintro e w4 ⟨rfl, rfl⟩
          go_wp2_with fail
          go_quiet (fail)
          go_wp2_with fail
          go_roundw
          case rel => exact ⟨j + 1, k + 1, q + nq, by omega, by omega, by go_num, by go_num, rfl, HNX⟩
          case measure => simp [intOf]; omega
        · rw [he] at Hh
          have hR3 : Hid ((bs D).drop k = drop ((bs s).drop (j + 1)) l) := by rw [unhide hR2, he]; exact rfl
          clear he hR hR2
          go_wp2_with fail
          refine (unhide Hh).mono ?_
          rintro e w4 ⟨rfl, rfl⟩
          go_wp2_with fail
          go_roundw
          case rel => exact ⟨j + 1, k, q, by omega, hk, rfl, by go_num, rfl, hR3⟩
          case measure => simp [intOf]; omega
      · have hkD : k = D.size := by
          have h := unhide hR
          rw [bs_end s j (by omega), show drop [] l = [] from rfl] at h
          have := congrArg List.length h
          rw [List.length_drop, bs_len] at this
          simp at this; omega
        have t0 : ((k : Int) == (D.size : Int)) = true := by simp [hkD]
        clear hkD hR hk
        go_wp2_with fail
        go_loopw [9] (fun i wr => ∃ j q : Nat, 1 ≤ j ∧ (j ≤ Q.size ∨ j = 1) ∧ i = .int .i64 j ∧ wr = w3.drewN q) (fun i _ => Q.size - (intOf i).toNat)
        case atStart => exact ⟨1, q, by omega, .inr rfl, rfl, rfl⟩
        case round =>
          obtain ⟨j2, q, hj1, hjQ, rfl, rfl⟩ := hrel
          by_cases hlt2 : j2 < Q.size
          · obtain ⟨i, rfl⟩ : ∃ i, j2 = i + 1 := ⟨j2 - 1, by omega⟩
            have hy : (i : Int) + 1 < (Q.size : Int) := by omega
            have hy2 : (i : Int) < (Q.size : Int) := by omega
            have hy0 : (0 : Int) ≤ (i : Int) + 1 := by omega
            have htn : ((i : Int) + 1).toNat = i + 1 := by omega
            have hjj : (i : Int) + 1 - 1 = (i : Int) := by omega
            have hi0 : i < Q.size := by omega
            have Hh := hide (fun r => has_any a n cap cap l Q[i + 1] (w3.drewN r) ((unhide Y3).below (below_drew _ _)) (by omega))
            by_cases heq : (Q[i + 1].toNat : Int) = (Q[i].toNat : Int)
            · have t1 : ((Q[i + 1].toNat : Int) == (Q[i].toNat : Int)) = true := by simp [heq]
              have hf := unhide NX i hi0 hlt2 (u8_eq heq)
              rw [hf] at Hh
              clear heq hf
              go_wp2_with fail
              go_quiet (first | ((with_reducible refine Calls.mono (unhide Hh _) ?_); exact fun e w'' h => ⟨h.1, _, h.2⟩))
              go_wp2_with fail
              go_roundw
              case rel => exact ⟨i + 1 + 1, q + nq, by omega, .inl (by omega), by go_num, rfl⟩
              case measure => simp [intOf]; omega
            · have t1 : ((Q[i + 1].toNat : Int) == (Q[i].toNat : Int)) = false := by simp; omega
              clear heq
              go_wp2_with fail
              go_quiet (fail)
              go_wp2_with fail
              go_roundw
              case rel => exact ⟨i + 1 + 1, q + nq, by omega, .inl (by omega), by go_num, rfl⟩
              case measure => simp [intOf]; omega
          · have hlt2' : ¬ (j2 : Int) < (Q.size : Int) := by omega
            have Y4 : Hid (By (w3.drewN q) a n cap l) := (unhide Y3).below (below_drew _ _)
            have B4 : Hid (Below w.heap.size w (w3.drewN q)) := (unhide B3).trans ((below_drew _ _).mono (unhide B3).size)
            generalize (w3.drewN q) = w4 at *
            have D4 := hide (unhide C4 w4 (unhide Y4) (by omega))
            have tD : (D.toList == D.toList) = true := by simp
            have tQ : (Q.toList == Q.toList) = true := by simp
            have tL : (Q.size : Int) ≤ (s.size : Int) := by omega
            clear C4 Y3 B3 hjQ
            go_wp2_with fail
            refine (unhide D4).mono ?_
            rintro e w5 ⟨rfl, hb5⟩
            have B5 := hide ((unhide B4).trans (hb5.mono (unhide B4).size))
            have Y5 := hide ((unhide Y4).below hb5)
            have D5 := hide (unhide C5 w5 (unhide Y5) (by omega))
            clear hb5 B4 Y4 D4 C5
            go_wp2_with fail
            refine (unhide D5).mono ?_
            rintro e w6 ⟨rfl, hb6⟩
            have B6 := hide ((unhide B5).trans (hb6.mono (unhide B5).size))
            have Y6 := hide ((unhide Y5).below hb6)
            have D6 := hide (unhide C6 w6 (unhide Y6) (by omega))
            clear hb6 B5 Y5 D5 C6
            go_wp2_with fail
            refine (unhide D6).mono ?_
            rintro e w7 ⟨rfl, hb7⟩
            have B7 := hide ((unhide B6).trans (hb7.mono (unhide B6).size))
            clear hb7 B6 Y6 D6
            go_wp2_with fail
            go_ret
            exact ⟨rfl, unhide B7⟩
end Go.Proofs.Ytjgboecifonjdab.Se
