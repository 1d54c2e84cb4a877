/- The law SetsSwapped: walked. -/
import Derived.Test.YtjgboecifonjdaaSeAlive
import Derived.Test.YtjgboecifonjdaaSeFacts
namespace Go.Proofs.Ytjgboecifonjdaa.Se
open Go.RowKit

theorem idx_take {f : Bs} {k : Nat} {c : UInt8} (h : (f.take k).elem c = false) (hk : k < f.length) (hc : f.getD k 0 = c) : f.elem c = true ∧ f.idxOf c = k := by
  have e : f = f.take k ++ c :: f.drop (k + 1) := by
    conv => lhs; rw [← List.take_append_drop k f]
    rw [List.drop_eq_getElem_cons hk, show f[k] = c from by rw [← hc]; simp [List.getD, List.getElem?_eq_getElem hk]]
  have hn : c ∉ f.take k := fun hm => by rw [List.elem_iff.2 hm] at h; cases h
  constructor
  · rw [e]; simp
  · rw [e, List.idxOf_append, if_neg hn]
    simp; omega
theorem bec_found {f t : Bs} {k : Nat} {c : UInt8} (h : (f.take k).elem c = false) (hk : k < f.length) (hc : f.getD k 0 = c) : becomes f t c = t.getD (min k (t.length - 1)) 0 := by
  obtain ⟨h1, h2⟩ := idx_take h hk hc
  rw [becomes_in h1, h2]
theorem bec_none {f t : Bs} {k : Nat} {c : UInt8} (h : (f.take k).elem c = false) (hk : f.length ≤ k) : becomes f t c = c := by
  rw [List.take_of_length_le hk] at h
  exact becomes_out h
theorem take_not {f : Bs} {k : Nat} {c : UInt8} (h : (f.take k).elem c = false) (hk : k < f.length) (hc : f.getD k 0 ≠ c) : (f.take (k + 1)).elem c = false := by
  rw [take_snoc f k hk]
  have h1 : c ∉ f.take k := fun hm => by rw [List.elem_iff.2 hm] at h; cases h
  have h2 : ¬ c = f.getD k 0 := fun e => hc e.symm
  rw [Bool.eq_false_iff]
  intro hm
  rcases List.mem_append.1 (List.elem_iff.1 hm) with h3 | h3
  · exact h1 h3
  · simp at h3; exact h2 h3
/-- a text turned byte by byte -/
theorem map_text (s : ByteArray) (G : UInt8 → UInt8) : ∃ T : ByteArray, T = ⟨((bs s).map G).toArray⟩ ∧ T.size = s.size ∧ ∀ i (h : i < s.size) (h' : i < T.size), T[i] = G s[i] := by
  refine ⟨_, rfl, ?_, ?_⟩
  · show ((bs s).map G).toArray.size = _
    simp
  · intro i h h'
    show ((bs s).map G).toArray[i] = _
    simp
    rfl

set_option maxHeartbeats 2000000 in
set_option maxRecDepth 100000 in
theorem swapped_walk (s : ByteArray) (a1 a2 : Option Addr) (n c1 m c2 : Nat) (f t : Bs) (w : World) (h1 : By w a1 n c1 f) (h2 : By w a2 m c2 t) :
    Calls Try.prog 5 #[.string s, .slice a1 n c1, .slice a2 m c2] w fun e w' => e = .returned (.bool true) ∧ Below w.heap.size w w' := by
  have H1 := hide h1
  have H2 := hide h2
  clear h1 h2
  go_enter Try.func5, Try.ntmps5
  go_wp2_with fail
  refine (alive_any w).mono ?_
  rintro e w1 ⟨rfl, hb1⟩
  have B1 := hide hb1
  have Y1 := hide ((unhide H1).below hb1)
  have Y2 := hide ((unhide H2).below hb1)
  clear hb1 H1 H2
  rcases (show (20000 : Int) < (s.size : Int) ∨ (¬ (20000 : Int) < (s.size : Int) ∧ (300 : Int) < (n : Int)) ∨ (¬ (20000 : Int) < (s.size : Int) ∧ ¬ (300 : Int) < (n : Int) ∧ (300 : Int) < (m : Int)) ∨ (¬ (20000 : Int) < (s.size : Int) ∧ ¬ (300 : Int) < (n : Int) ∧ ¬ (300 : Int) < (m : Int)) from by omega) with g1 | ⟨g1, g2⟩ | ⟨g1, g2, g3⟩ | ⟨g1, g2, g3⟩
  · go_wp2_with fail
    refine (alive_any w1).mono ?_
    rintro e w3 ⟨rfl, hb3⟩
    have B3 := hide ((unhide B1).trans (hb3.mono (unhide B1).size))
    clear hb3
    go_wp2_with fail
    go_ret
    exact ⟨rfl, unhide B3⟩
  · go_wp2_with fail
    refine (alive_any w1).mono ?_
    rintro e w3 ⟨rfl, hb3⟩
    have B3 := hide ((unhide B1).trans (hb3.mono (unhide B1).size))
    clear hb3
    go_wp2_with fail
    go_ret
    exact ⟨rfl, unhide B3⟩
  · go_wp2_with fail
    refine (alive_any w1).mono ?_
    rintro e w3 ⟨rfl, hb3⟩
    have B3 := hide ((unhide B1).trans (hb3.mono (unhide B1).size))
    clear hb3
    go_wp2_with fail
    go_ret
    exact ⟨rfl, unhide B3⟩
  · by_cases hz : 0 < n ∧ m = 0
    · obtain ⟨hn0, rfl⟩ := hz
      have hn0' : (0 : Int) < (n : Int) := by omega
      go_wp2_with fail
      refine (swap_none s a1 a2 n c1 c2 w1 hn0).mono ?_
      rintro e w2 ⟨rfl, rfl⟩
      go_wp2_with fail
      go_ret
      exact ⟨rfl, unhide B1⟩
    · have C := hide (swap_any s a1 a2 n c1 c1 m c2 c2 f t w1 (unhide Y1) (unhide Y2) (by omega) (by omega) (by omega) (by omega))
      obtain ⟨G, hG⟩ : ∃ G, G = becomes f t := ⟨_, rfl⟩
      obtain ⟨T, hT, hTs, hTg⟩ := map_text s (becomes f t)
      rw [← hT] at C
      have HTS := hide hTs
      have HTG := hide hTg
      clear hT hTs hTg hG
      have hm0 : Hid (0 < n → 0 < m) := by intro h; omega
      clear hz
      go_wp2_with fail
      refine (unhide C).mono ?_
      rintro e w2 ⟨rfl, hb2⟩
      have B2 := hide ((unhide B1).trans (hb2.mono (unhide B1).size))
      have Z1 := hide ((unhide Y1).below hb2)
      have Z2 := hide ((unhide Y2).below hb2)
      have t1 : ((T.size : Int) != (s.size : Int)) = false := by rw [unhide HTS]; simp
      clear hb2 B1 Y1 Y2 C
      go_wp2_with fail
      go_loopw [9] (fun i wr => ∃ k q : Nat, k ≤ s.size ∧ i = .int .i64 k ∧ wr = w2.drewN q) (fun i _ => s.size - (intOf i).toNat)
      case atStart => exact ⟨0, 0, Nat.zero_le _, rfl, rfl⟩
      case round =>
        obtain ⟨i, q, hi, rfl, rfl⟩ := hrel
        by_cases hlt : i < s.size
        · have hlt' : (i : Int) < (s.size : Int) := by omega
          have hTi : i < T.size := by rw [unhide HTS]; exact hlt
          have hTi' : (i : Int) < (T.size : Int) := by omega
          have hgi := hide (unhide HTG i hlt hTi)
          obtain ⟨c, hc⟩ : ∃ c, c = s[i] := ⟨_, rfl⟩
          go_wp2_with fail
          go_loopw [10] (fun x wr => ∃ k q : Nat, k ≤ n ∧ x = .int .i64 k ∧ wr = w2.drewN q ∧ Hid ((f.take k).elem s[i] = false)) (fun x _ => n - (intOf x).toNat)
          case atStart => exact ⟨0, q, Nat.zero_le _, rfl, rfl, by simp [Hid]⟩
          case round =>
            clear hc
            obtain ⟨k, q, hk, rfl, rfl, hno⟩ := hrel
            by_cases hkn : k < n
            · have hkn' : (k : Int) < (n : Int) := by omega
              obtain ⟨b1, o1, rfl, _, hcs1⟩ : ∃ b off, a1 = some ⟨b, off, none⟩ ∧ b < w2.heap.size ∧ ∀ i, i < n → w2.cell? ⟨b, off + i, none⟩ = some (.int .u8 ((f.getD i 0).toNat : Int)) := by
                rcases (unhide Z1).cells with h | h
                · omega
                · exact h
              have hc1 := hcs1 k hkn
              obtain ⟨x, hx⟩ : ∃ x, x = f.getD k 0 := ⟨_, rfl⟩
              rw [← hx] at hc1
              by_cases he : (x.toNat : Int) = (s[i].toNat : Int)
              · have t2 : ((x.toNat : Int) != (s[i].toNat : Int)) = false := by simp [he]
                have hm1 : 0 < m := unhide hm0 (by omega)
                obtain ⟨b2, o2, rfl, _, hcs2⟩ : ∃ b off, a2 = some ⟨b, off, none⟩ ∧ b < w2.heap.size ∧ ∀ i, i < m → w2.cell? ⟨b, off + i, none⟩ = some (.int .u8 ((t.getD i 0).toNat : Int)) := by
                  rcases (unhide Z2).cells with h | h
                  · omega
                  · exact h
                have hmin : min k (t.length - 1) < m := by rw [(unhide Z2).len]; omega
                have hc2 := hcs2 _ hmin
                have hbf := bec_found (t := t) (unhide hno) (by rw [(unhide Z1).len]; exact hkn) (by rw [← hx]; exact u8_eq he)
                obtain ⟨y, hy⟩ : ∃ y, y = t.getD (min k (t.length - 1)) 0 := ⟨_, rfl⟩
                rw [← hy] at hc2 hbf
                rw [(unhide Z2).len] at hc2
                have e2 : (min (k : Int) ((m : Int) - 1)).toNat = min k (m - 1) := by omega
                rw [← e2] at hc2
                have e3 : min (k : Int) ((m : Int) - 1) < (m : Int) := by omega
                have e4 : 0 ≤ min (k : Int) ((m : Int) - 1) := by omega
                have hty : T[i] = y := by rw [unhide hgi, hbf]
                have t3 : ((T[i].toNat : Int) != (y.toNat : Int)) = false := by rw [hty]; simp
                clear e2 hy hbf hmin hcs2 hcs1 hx he hno hty
                go_wp2_with fail
                go_quiet (fail)
                go_wp2_with fail
                go_roundw
                case rel => exact ⟨i + 1, q + nq, by omega, by go_num, rfl⟩
                case measure => simp [intOf]; omega
              · have t2 : ((x.toNat : Int) != (s[i].toNat : Int)) = true := by simp; omega
                have hn2 := hide (take_not (unhide hno) (by rw [(unhide Z1).len]; exact hkn) (by rw [← hx]; exact u8_ne he))
                clear hcs1 hx he hno
                go_wp2_with fail
                go_quiet (fail)
                go_wp2_with fail
                go_roundw
                case rel => exact ⟨k + 1, q + nq, by omega, by go_num, rfl, hn2⟩
                case measure => simp [intOf]; omega
            · have hkn' : decide (k < n) = false := by simp; omega
              have hbn := bec_none (t := t) (unhide hno) (by rw [(unhide Z1).len]; omega)
              have hty : T[i] = s[i] := by rw [unhide hgi, hbn]
              have t3 : ((T[i].toNat : Int) != (s[i].toNat : Int)) = false := by rw [hty]; simp
              clear hbn hno hty
              go_wp2_with fail
              go_quiet (fail)
              go_wp2_with fail
              go_roundw
              case rel => exact ⟨i + 1, q + nq, by omega, by go_num, rfl⟩
              case measure => simp [intOf]; omega
        · go_wp2_with fail
          go_ret
          exact ⟨rfl, (unhide B2).trans ((below_drew _ _).mono (unhide B2).size)⟩
end Go.Proofs.Ytjgboecifonjdaa.Se
