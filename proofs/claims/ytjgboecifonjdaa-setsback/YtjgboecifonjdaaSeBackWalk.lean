/- The law SetsBack: walked. -/
import Derived.Test.YtjgboecifonjdaaSeAlive
import Derived.Test.YtjgboecifonjdaaSeFacts
namespace Go.Proofs.Ytjgboecifonjdaa.Se
open Go.RowKit

theorem nodup_snoc {f : Bs} {k : Nat} (h : (f.take k).Nodup) (hk : k < f.length) (hc : (f.take k).elem (f.getD k 0) = false) : (f.take (k + 1)).Nodup := by
  rw [take_snoc f k hk, List.nodup_append]
  refine ⟨h, by simp, ?_⟩
  intro x hx y hy e
  rw [List.mem_singleton.1 hy] at e
  rw [← e, List.elem_iff.2 hx] at hc
  cases hc
theorem size_map (s : ByteArray) (G : UInt8 → UInt8) : (⟨((bs s).map G).toArray⟩ : ByteArray).size = s.size := by
  show ((bs s).map G).toArray.size = _
  simp

set_option maxHeartbeats 1000000 in
set_option maxRecDepth 100000 in
theorem back_walk (s : ByteArray) (a1 a2 : Option Addr) (n c1 m c2 : Nat) (f t : Bs) (w : World) (h1 : By w a1 n c1 f) (h2 : By w a2 m c2 t) :
    Calls Try.prog 6 #[.string s, .slice a1 n c1, .slice a2 m c2] w fun e w' => e = .returned (.bool true) ∧ Below w.heap.size w w' := by
  have H1 := hide h1
  have H2 := hide h2
  clear h1 h2
  go_enter Try.func6, Try.ntmps6
  go_wp2_with fail
  refine (alive_any w).mono ?_
  rintro e w1 ⟨rfl, hb1⟩
  have B1 := hide hb1
  have Y1 := hide ((unhide H1).below hb1)
  have Y2 := hide ((unhide H2).below hb1)
  clear hb1 H1 H2
  rcases (show (20000 : Int) < (s.size : Int) ∨ (¬ (20000 : Int) < (s.size : Int) ∧ (256 : Int) < (n : Int)) ∨ (¬ (20000 : Int) < (s.size : Int) ∧ ¬ (256 : Int) < (n : Int) ∧ ¬ n = m) ∨ (¬ (20000 : Int) < (s.size : Int) ∧ ¬ (256 : Int) < (n : Int) ∧ n = m) from by omega) with g1 | ⟨g1, g2⟩ | ⟨g1, g2, g3⟩ | ⟨g1, g2, rfl⟩
  · go_wp2_with fail
    refine (alive_any w1).mono ?_
    rintro e w3 ⟨rfl, hb3⟩
    have B3 := hide ((unhide B1).trans (hb3.mono (unhide B1).size))
    clear hb3
    go_wp2_with fail
    go_ret
    exact ⟨rfl, unhide B3⟩
  · go_wp2_with fail
    refine (alive_any w1).mono ?_
    rintro e w3 ⟨rfl, hb3⟩
    have B3 := hide ((unhide B1).trans (hb3.mono (unhide B1).size))
    clear hb3
    go_wp2_with fail
    go_ret
    exact ⟨rfl, unhide B3⟩
  · have t1 : ((n : Int) != (m : Int)) = true := by simp; omega
    clear g3
    go_wp2_with fail
    refine (alive_any w1).mono ?_
    rintro e w3 ⟨rfl, hb3⟩
    have B3 := hide ((unhide B1).trans (hb3.mono (unhide B1).size))
    clear hb3
    go_wp2_with fail
    go_ret
    exact ⟨rfl, unhide B3⟩
  · have t1 : ((n : Int) != (n : Int)) = false := by simp
    have hlf := (unhide Y1).len
    have hlt2 := (unhide Y2).len
    have hc1 := (unhide Y1).le
    have hc2 := (unhide Y2).le
    have HLF := hide hlf
    have HLT := hide hlt2
    clear hlf hlt2
    go_wp2_with fail
    go_loopw [7] (fun i wr => ∃ k q : Nat, k ≤ n ∧ i = .int .i64 k ∧ wr = w1.drewN q ∧ Hid ((f.take k).Nodup) ∧ Hid ((t.take k).Nodup)) (fun i _ => n - (intOf i).toNat)
    case atStart => exact ⟨0, 0, Nat.zero_le _, rfl, rfl, by simp [Hid], by simp [Hid]⟩
    case round =>
      obtain ⟨k, q, hk, rfl, rfl, hnf, hnt⟩ := hrel
      by_cases hkn : k < n
      · have hkn' : (k : Int) < (n : Int) := by omega
        have hkc1 : (k : Int) ≤ (c1 : Int) := by omega
        have hkc2 : (k : Int) ≤ (c2 : Int) := by omega
        obtain ⟨b1, o1, rfl, _, hcs1⟩ : ∃ b off, a1 = some ⟨b, off, none⟩ ∧ b < w1.heap.size ∧ ∀ i, i < n → w1.cell? ⟨b, off + i, none⟩ = some (.int .u8 ((f.getD i 0).toNat : Int)) := by
          rcases (unhide Y1).cells with h | h
          · omega
          · exact h
        obtain ⟨b2, o2, rfl, _, hcs2⟩ : ∃ b off, a2 = some ⟨b, off, none⟩ ∧ b < w1.heap.size ∧ ∀ i, i < n → w1.cell? ⟨b, off + i, none⟩ = some (.int .u8 ((t.getD i 0).toNat : Int)) := by
          rcases (unhide Y2).cells with h | h
          · omega
          · exact h
        have hx1 := hcs1 k hkn
        have hx2 := hcs2 k hkn
        have D1 := hide (fun r => has_any (some ⟨b1, o1, none⟩) k c1 c1 (f.take k) (f.getD k 0) (w1.drewN r) (((unhide Y1).below (below_drew _ _)).head k (by omega)) (by omega))
        have D2 := hide (fun r => has_any (some ⟨b2, o2, none⟩) k c2 c2 (t.take k) (t.getD k 0) (w1.drewN r) (((unhide Y2).below (below_drew _ _)).head k (by omega)) (by omega))
        have N1 := hide (fun hc => nodup_snoc (unhide hnf) (by rw [unhide HLF]; exact hkn) hc)
        have N2 := hide (fun hc => nodup_snoc (unhide hnt) (by rw [unhide HLT]; exact hkn) hc)
        cases he1 : (f.take k).elem (f.getD k 0)
        · cases he2 : (t.take k).elem (t.getD k 0)
          · rw [he1] at D1
            rw [he2] at D2
            have M1 := hide (unhide N1 he1)
            have M2 := hide (unhide N2 he2)
            obtain ⟨x, hx⟩ : ∃ x, x = f.getD k 0 := ⟨_, rfl⟩
            obtain ⟨y, hy⟩ : ∃ y, y = t.getD k 0 := ⟨_, rfl⟩
            rw [← hx] at D1 hx1
            rw [← hy] at D2 hx2
            clear hcs1 hcs2 hx hy he1 he2 N1 N2 hnf hnt
            go_wp2_with fail
            go_quiet (first | ((with_reducible refine Calls.mono (unhide D1 _) ?_); exact fun e w'' h => ⟨h.1, _, h.2⟩) | ((with_reducible refine Calls.mono (unhide D2 _) ?_); exact fun e w'' h => ⟨h.1, _, h.2⟩))
            go_wp2_with fail
            go_roundw
            case rel => exact ⟨k + 1, q + nq, by omega, by go_num, rfl, M1, M2⟩
            case measure => simp [intOf]; omega
          · rw [he1] at D1
            rw [he2] at D2
            obtain ⟨x, hx⟩ : ∃ x, x = f.getD k 0 := ⟨_, rfl⟩
            obtain ⟨y, hy⟩ : ∃ y, y = t.getD k 0 := ⟨_, rfl⟩
            rw [← hx] at D1 hx1
            rw [← hy] at D2 hx2
            clear hcs1 hcs2 hx hy he1 he2 N1 N2 hnf hnt
            go_wp2_with fail
            go_quiet (first | ((with_reducible refine Calls.mono (unhide D1 _) ?_); exact fun e w'' h => ⟨h.1, _, h.2⟩) | ((with_reducible refine Calls.mono (unhide D2 _) ?_); exact fun e w'' h => ⟨h.1, _, h.2⟩))
            go_wp2_with fail
            go_ret
            exact ⟨rfl, (unhide B1).trans (((below_drew _ _).trans (below_drew (w1.drewN q) nq)).mono (unhide B1).size)⟩
        · rw [he1] at D1
          obtain ⟨x, hx⟩ : ∃ x, x = f.getD k 0 := ⟨_, rfl⟩
          rw [← hx] at D1 hx1
          clear hcs1 hcs2 hx he1 N1 N2 hnf hnt D2
          go_wp2_with fail
          go_quiet (first | ((with_reducible refine Calls.mono (unhide D1 _) ?_); exact fun e w'' h => ⟨h.1, _, h.2⟩))
          go_wp2_with fail
          go_ret
          exact ⟨rfl, (unhide B1).trans (((below_drew _ _).trans (below_drew (w1.drewN q) nq)).mono (unhide B1).size)⟩
      · have hnt' : Hid (t.Nodup) := by
          have := unhide hnt
          rw [List.take_of_length_le (by rw [unhide HLT]; omega)] at this
          exact this
        have Z1 : Hid (By (w1.drewN q) a1 n c1 f) := (unhide Y1).below (below_drew _ _)
        have Z2 : Hid (By (w1.drewN q) a2 n c2 t) := (unhide Y2).below (below_drew _ _)
        have B2 : Hid (Below w.heap.size w (w1.drewN q)) := (unhide B1).trans ((below_drew _ _).mono (unhide B1).size)
        generalize (w1.drewN q) = w2 at *
        clear hnf hnt Y1 Y2 B1
        go_wp2_with fail
        go_loopw [8] (fun i wr => ∃ k : Nat, k ≤ s.size ∧ i = .int .i64 k ∧ wr = w2 ∧ Hid (∀ c ∈ (bs s).take k, t.elem c = true → f.elem c = true)) (fun i _ => s.size - (intOf i).toNat)
        case atStart => exact ⟨0, Nat.zero_le _, rfl, by trivial, by simp [Hid]⟩
        case round =>
          obtain ⟨i, hi, rfl, rfl, hall⟩ := hrel
          by_cases hlt : i < s.size
          · have hlt' : (i : Int) < (s.size : Int) := by omega
            have D1 := hide (has_any a1 n c1 c1 f s[i] wr (unhide Z1) (by omega))
            have D2 := hide (has_any a2 n c2 c2 t s[i] wr (unhide Z2) (by omega))
            have hnx : Hid ((t.elem s[i] = true → f.elem s[i] = true) → ∀ c ∈ (bs s).take (i + 1), t.elem c = true → f.elem c = true) := by
              intro h c hc
              rw [List.take_succ_eq_append_getElem (by rw [bs_len]; exact hlt)] at hc
              rcases List.mem_append.1 hc with h3 | h3
              · exact unhide hall c h3
              · simp at h3; rw [h3]; exact h
            cases he2 : t.elem s[i]
            · rw [he2] at D2
              have hn2 := hide (unhide hnx (fun h => by rw [he2] at h; cases h))
              clear he2 hnx hall D1
              go_wp2_with fail
              refine (unhide D2).mono ?_
              rintro e w3 ⟨rfl, rfl⟩
              go_wp2_with fail
              go_roundw
              case rel => exact ⟨i + 1, by omega, by go_num, by trivial, hn2⟩
              case measure => simp [intOf]; omega
            · rw [he2] at D2
              cases he1 : f.elem s[i]
              · rw [he1] at D1
                clear he1 he2 hnx hall
                go_wp2_with fail
                refine (unhide D2).mono ?_
                rintro e w3 ⟨rfl, rfl⟩
                go_wp2_with fail
                refine (unhide D1).mono ?_
                rintro e w4 ⟨rfl, rfl⟩
                go_wp2_with fail
                go_ret
                exact ⟨rfl, unhide B2⟩
              · rw [he1] at D1
                have hn2 := hide (unhide hnx (fun _ => he1))
                clear he1 he2 hnx hall
                go_wp2_with fail
                refine (unhide D2).mono ?_
                rintro e w3 ⟨rfl, rfl⟩
                go_wp2_with fail
                refine (unhide D1).mono ?_
                rintro e w4 ⟨rfl, rfl⟩
                go_wp2_with fail
                go_roundw
                case rel => exact ⟨i + 1, by omega, by go_num, by trivial, hn2⟩
                case measure => simp [intOf]; omega
          · have hback : Hid (((bs s).map (becomes f t)).map (becomes t f) = bs s) := by
              refine swap_back (by rw [unhide HLF, unhide HLT]) (unhide hnt') (bs s) (fun c hc => unhide hall c ?_)
              rwa [List.take_of_length_le (by rw [bs_len]; omega)]
            have C1 := hide (swap_any s a1 a2 n c1 c1 n c2 c2 f t wr (unhide Z1) (unhide Z2) (by omega) (by omega) (by omega) (by omega))
            obtain ⟨T, hT⟩ : ∃ T : ByteArray, T = ⟨((bs s).map (becomes f t)).toArray⟩ := ⟨_, rfl⟩
            rw [← hT] at C1
            have hTs : T.size = s.size := by rw [hT]; exact size_map _ _
            have C2 : Hid (∀ W, By W a1 n c1 f → By W a2 n c2 t → Calls Try.prog 9 #[.string T, .slice a2 n c2, .slice a1 n c1] W fun e w' => e = .returned (.tuple #[.string s, .int .i64 0]) ∧ Below W.heap.size W w') := by
              intro W k1 k2
              have := swap_any T a2 a1 n c2 c2 n c1 c1 t f W k2 k1 (by omega) (by omega) (by omega) (by omega)
              have e : (⟨((bs T).map (becomes t f)).toArray⟩ : ByteArray) = s := by
                apply ba_ext
                rw [show bs T = (bs s).map (becomes f t) from by rw [hT]]
                exact unhide hback
              rwa [e] at this
            clear hT hTs hall hback
            go_wp2_with fail
            refine (unhide C1).mono ?_
            rintro e w3 ⟨rfl, hb3⟩
            have D := hide (unhide C2 w3 ((unhide Z1).below hb3) ((unhide Z2).below hb3))
            have B3 := hide ((unhide B2).trans (hb3.mono (unhide B2).size))
            clear hb3 C1 C2
            go_wp2_with fail
            refine (unhide D).mono ?_
            rintro e w4 ⟨rfl, hb4⟩
            have B4 := hide ((unhide B3).trans (hb4.mono (unhide B3).size))
            clear hb4 D
            go_wp2_with fail
            go_ret
            exact ⟨by simp, unhide B4⟩
end Go.Proofs.Ytjgboecifonjdaa.Se
