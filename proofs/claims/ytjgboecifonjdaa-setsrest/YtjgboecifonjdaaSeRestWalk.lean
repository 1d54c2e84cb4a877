/- The law SetsRest: walked. -/
import Derived.Test.YtjgboecifonjdaaSeAlive
import Derived.Test.YtjgboecifonjdaaSeFacts
import Derived.Test.YtjgboecifonjdaaBeyond
namespace Go.Proofs.Ytjgboecifonjdaa.Se
open Go.RowKit

theorem rest_by {a : Option Addr} {n cap c' : Nat} {l : Bs} {w : World} (hB : By w a n c' l) (hn : n ≤ 4611686018427387904) :
    Calls Try.prog 13 #[.slice a n cap] w fun e w' => ∃ a' c, e = .returned (.slice a' (rest l).length c) ∧ By w' a' (rest l).length c (rest l) ∧ Below w.heap.size w w' := by
  refine (rest_any a n cap c' l w hB hn).mono ?_
  rintro e w' ⟨v, rfl, hO, hb⟩
  obtain ⟨a', c, rfl, hR⟩ := by_row hO
  exact ⟨a', c, rfl, hR, hb⟩
theorem rises_at {L : Bs} (h : ∀ i (h : i + 1 < L.length), (L[i]).toNat < (L[i + 1]).toNat) (j : Nat) (hj : j + 1 < L.length) : ((L.getD j 0).toNat : Int) < ((L.getD (j + 1) 0).toNat : Int) := by
  have := h j hj
  rw [show L.getD j 0 = L[j] from by simp [List.getD, List.getElem?_eq_getElem (show j < L.length by omega)], show L.getD (j + 1) 0 = L[j + 1] from by simp [List.getD, List.getElem?_eq_getElem hj]]
  omega

set_option maxHeartbeats 1000000 in
set_option maxRecDepth 100000 in
theorem rest_walk (a : Option Addr) (n cap : Nat) (l : Bs) (c : UInt8) (w : World) (hB : By w a n cap l) (hn : n ≤ 9223372036854775807) :
    Calls Try.prog 4 #[.slice a n cap, .int .u8 c.toNat] w fun e w' => e = .returned (.bool true) ∧ Below w.heap.size w w' := by
  have HB := hide hB
  clear hB
  go_enter Try.func4, Try.ntmps4
  go_wp2_with fail
  refine (alive_any w).mono ?_
  rintro e w1 ⟨rfl, hb1⟩
  have B1 := hide hb1
  have Y1 := hide ((unhide HB).below hb1)
  clear hb1 HB
  go_wp2_with fail
  refine (Beyond.beyond_one (n : Int) w1.heap.size _ (by simp) (by omega) (by omega)).mono ?_
  rintro e w' ⟨rfl, rfl⟩
  have hb2 : Below w1.heap.size w1 (w1.alloc (.cells #[.int .i64 n] 3)) := (Below.refl _ _).alloc (Nat.le_refl _) _
  generalize (w1.alloc (.cells #[.int .i64 n] 3)) = w2 at *
  have B2 := hide ((unhide B1).trans (hb2.mono (unhide B1).size))
  have Y2 := hide ((unhide Y1).below hb2)
  clear B1 Y1 hb2
  by_cases hb : 1048576 < (n : Int)
  · go_wp2_with fail
    refine (alive_any w2).mono ?_
    rintro e w3 ⟨rfl, hb3⟩
    have B3 := hide ((unhide B2).trans (hb3.mono (unhide B2).size))
    clear hb3
    go_wp2_with fail
    go_ret
    exact ⟨rfl, unhide B3⟩
  · have C3 := hide (rest_by (cap := cap) (unhide Y2) (by omega))
    have HR := hide (fun j hj => rises_at (rest_rises l) j hj)
    have hrl := rest_le l
    have HE := hide (rest_elem l c)
    have HE2 := hide (rest_rest_elem l c)
    have HL := hide (rest_both l)
    have C4 : Hid (∀ (W : World) a' c', By W a' (rest l).length c' (rest l) → Calls Try.prog 13 #[.slice a' (rest l).length c'] W fun e w' => ∃ a'' c, e = .returned (.slice a'' (rest (rest l)).length c) ∧ By w' a'' (rest (rest l)).length c (rest (rest l)) ∧ Below W.heap.size W w') := fun W a' c' h => rest_by h (by omega)
    generalize rest (rest l) = RR at *
    generalize rest l = R at *
    obtain ⟨m, hm⟩ : ∃ m, m = R.length := ⟨_, rfl⟩
    obtain ⟨k2, hk2⟩ : ∃ m, m = RR.length := ⟨_, rfl⟩
    rw [← hm] at C3 HR hrl HL C4
    rw [← hk2] at C4 HL
    have HM := hide hm
    have HK2 := hide hk2
    clear hm hk2
    go_wp2_with fail
    refine (unhide C3).mono ?_
    rintro e w3 ⟨a3, c3, rfl, hY3, hb3⟩
    have B3 := hide ((unhide B2).trans (hb3.mono (unhide B2).size))
    have Y3 := hide ((unhide Y2).below hb3)
    have Z3 := hide hY3
    clear C3 B2 Y2 hY3 hb3
    go_wp2_with fail
    go_loopw [6] (fun i wr => ∃ k q : Nat, 1 ≤ k ∧ (k ≤ m ∨ k = 1) ∧ i = .int .i64 k ∧ wr = w3.drewN q) (fun i _ => m - (intOf i).toNat)
    case atStart => exact ⟨1, 0, by omega, .inr rfl, rfl, rfl⟩
    case round =>
      obtain ⟨k, q, hk1, hkm, rfl, rfl⟩ := hrel
      by_cases hlt : k < m
      · obtain ⟨j, rfl⟩ : ∃ j, k = j + 1 := ⟨k - 1, by omega⟩
        obtain ⟨b3, o3, rfl, _, hcs⟩ : ∃ b off, a3 = some ⟨b, off, none⟩ ∧ b < w3.heap.size ∧ ∀ i, i < m → w3.cell? ⟨b, off + i, none⟩ = some (.int .u8 ((R.getD i 0).toNat : Int)) := by
          rcases (unhide Z3).cells with h | h
          · omega
          · exact h
        have hc1 := hcs (j + 1) hlt
        have hc2 := hcs j (by omega)
        have hlt1 := unhide HR j hlt
        obtain ⟨x, hx⟩ : ∃ x, x = ((R.getD j 0).toNat : Int) := ⟨_, rfl⟩
        obtain ⟨y, hyy⟩ : ∃ y, y = ((R.getD (j + 1) 0).toNat : Int) := ⟨_, rfl⟩
        rw [← hx] at hc2 hlt1
        rw [← hyy] at hc1 hlt1
        have hxy : ¬ y ≤ x := by omega
        have hy : (j : Int) + 1 < (m : Int) := by omega
        have hy2 : (j : Int) < (m : Int) := by omega
        have hy0 : (0 : Int) ≤ (j : Int) + 1 := by omega
        have htn : ((j : Int) + 1).toNat = j + 1 := by omega
        have hjj : (j : Int) + 1 - 1 = (j : Int) := by omega
        clear hcs hx hlt1 hyy
        go_wp2_with fail
        go_quiet (fail)
        go_wp2_with fail
        go_roundw
        case rel => exact ⟨j + 1 + 1, q + nq, by omega, .inl (by omega), by go_num, rfl⟩
        case measure => simp [intOf]; omega
      · have hlt' : ¬ (k : Int) < (m : Int) := by omega
        have Y4 : Hid (By (w3.drewN q) a n cap l) := (unhide Y3).below (below_drew _ _)
        have Z4 : Hid (By (w3.drewN q) a3 m c3 R) := (unhide Z3).below (below_drew _ _)
        have B4 : Hid (Below w.heap.size w (w3.drewN q)) := (unhide B3).trans ((below_drew _ _).mono (unhide B3).size)
        generalize (w3.drewN q) = w4 at *
        have C5 := hide (unhide C4 w4 a3 c3 (unhide Z4))
        clear C4 hkm Y3 Z3 B3
        go_wp2_with fail
        refine (unhide C5).mono ?_
        rintro e w5 ⟨a5, c5, rfl, hY5, hb5⟩
        have B5 := hide ((unhide B4).trans (hb5.mono (unhide B4).size))
        have Y5 := hide ((unhide Y4).below hb5)
        have Z5 := hide ((unhide Z4).below hb5)
        have X5 := hide hY5
        clear C5 B4 Y4 Z4 hY5 hb5
        have D1 := hide (has_any a n cap cap l c w5 (unhide Y5) (by omega))
        have D2 := hide (has_any a3 m c3 c3 R c w5 (unhide Z5) (by omega))
        have D3 := hide (has_any a5 k2 c5 c5 RR c w5 (unhide X5) (by have := unhide HL; omega))
        rw [unhide HE] at D2
        rw [unhide HE2] at D3
        obtain ⟨x, hx⟩ : ∃ x, x = l.elem c := ⟨_, rfl⟩
        rw [← hx] at D1 D2 D3
        clear hx HE HE2
        have hL : (m : Int) + (k2 : Int) = 256 := by have := unhide HL; omega
        have t9 : (wrap64 ((m : Int) + (k2 : Int)) == 256) = true := by rw [hL]; decide +kernel
        clear hL
        cases x
        all_goals
          go_wp2_with fail
          refine (unhide D1).mono ?_
          rintro e w6 ⟨rfl, rfl⟩
          go_wp2_with fail
          refine (unhide D2).mono ?_
          rintro e w7 ⟨rfl, rfl⟩
          go_wp2_with fail
          refine (unhide D3).mono ?_
          rintro e w8 ⟨rfl, rfl⟩
          go_wp2_with fail
          refine (unhide D1).mono ?_
          rintro e w9 ⟨rfl, rfl⟩
          go_wp2_with fail
          go_ret
          exact ⟨rfl, unhide B5⟩
end Go.Proofs.Ytjgboecifonjdaa.Se
