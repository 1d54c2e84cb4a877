/- The document's Sum; the law CodecSums: walked. -/
import Derived.Test.YtbofidpoajdcmaaCdLives
import Derived.Test.YtbofidpoajdcmaaCdTwin
namespace Go.Proofs.Ytbofidpoajdcmaa.Cd
open Go.RowKit Cu Tr

theorem xor_low (x : U) (d : UInt8) : bits .xor .u32 (x.toNat : Int) ((d.toNat : Int) % 4294967296) = ((x ^^^ low d).toNat : Int) := by
  have := d.toNat_lt
  rw [← bits_u32, low_toNat, Int.emod_eq_of_lt (by omega) (by omega)]
set_option maxHeartbeats 1000000 in
set_option maxRecDepth 100000 in
theorem rsum_any (a : Option Addr) (n cap : Nat) (l : Bs) (w : World) (hB : By w a n cap l) (hn : n ≤ 4611686018427387904) :
    Calls Try.prog 9 #[.slice a n cap] w fun e w' => e = .returned (uv (sumP l)) ∧ w' = w := by
  have HB := hide hB
  clear hB
  go_enter Try.func9, Try.ntmps9
  go_wp2_with fail
  go_loopw [3, 4] (fun v3 v4 wq => ∃ i : Nat, ∃ x : U, i ≤ n ∧ v4 = .int .i64 i ∧ v3 = .int .u32 (x.toNat : Int) ∧ Hid (x = runs (BitVec.allOnes 32) (l.take i)) ∧ wq = w) (fun _ v4 _ => n - (intOf v4).toNat)
  case atStart => exact ⟨0, BitVec.allOnes 32, by omega, rfl, rfl, rfl, rfl⟩
  case round =>
    obtain ⟨i, x, hi, rfl, rfl, hx, rfl⟩ := hrel
    by_cases hlt : i < n
    · have hlt' : (i : Int) < (n : Int) := by omega
      have hll : i < l.length := by rw [(unhide HB).len]; exact hlt
      obtain ⟨b3, o3, rfl, _, hcs⟩ : ∃ b off, a = some ⟨b, off, none⟩ ∧ b < wr.heap.size ∧ ∀ i, i < n → wr.cell? ⟨b, off + i, none⟩ = some (.int .u8 ((l.getD i 0).toNat : Int)) := by
        rcases (unhide HB).cells with h | h
        · omega
        · exact h
      have hc1 := hcs i hlt
      obtain ⟨d, hd⟩ : ∃ d, d = l.getD i 0 := ⟨_, rfl⟩
      have hd2 : d = l[i] := by rw [hd]; simp [List.getD, List.getElem?_eq_getElem hll]
      rw [← hd] at hc1
      have hx2 : Hid (further x d = runs (BitVec.allOnes 32) (l.take (i + 1))) := by
        show _ = _
        rw [List.take_succ_eq_append_getElem hll, runs_snoc, unhide hx, hd2]
      have hE := xor_low x d
      have hfu : Hid (further x d = moves 8 (x ^^^ low d)) := rfl
      generalize x ^^^ low d = y at *
      generalize further x d = z at *
      clear hx hcs hd hd2 hll
      go_wp2_with fail
      go_loopw [3, 5] (fun v3 v5 wq => ∃ j : Nat, ∃ t : U, j ≤ 8 ∧ v5 = .int .i64 j ∧ v3 = .int .u32 (t.toNat : Int) ∧ Hid (t = moves j y) ∧ wq = wr) (fun _ v5 _ => 8 - (intOf v5).toNat)
      case atStart => exact ⟨0, y, by omega, rfl, by first | rfl | rw [hE], rfl, rfl⟩
      case round =>
        clear hE
        obtain ⟨j, t, hj, rfl, rfl, ht, rfl⟩ := hrel
        by_cases hj8 : j < 8
        · have hj8' : (j : Int) < 8 := by omega
          have ht2 : Hid (step t = moves (j + 1) y) := by rw [unhide ht, ← moves_snoc]; rfl
          have hand := and_one t
          by_cases hm : t.toNat % 2 = 0
          · have hm' : bits .and .u32 (t.toNat : Int) 1 = 0 := by rw [hand]; omega
            have hs := hide (step_half t hm)
            clear ht hand
            go_wp2_with fail
            go_roundw
            case rel => exact ⟨j + 1, step t, by omega, by go_num, by rw [unhide hs], ht2, by simp⟩
            case measure => simp [intOf]; omega
          · have hm' : bits .and .u32 (t.toNat : Int) 1 = 1 := by rw [hand]; omega
            have hs := hide (odd_val t (by omega))
            clear ht hand
            go_wp2_with fail
            go_roundw
            case rel => exact ⟨j + 1, step t, by omega, by go_num, by rw [unhide hs], ht2, by simp⟩
            case measure => simp [intOf]; omega
        · obtain rfl : j = 8 := by omega
          have hz : Hid (t = runs (BitVec.allOnes 32) (l.take (i + 1))) := by
            show _ = _
            rw [← unhide hx2, unhide hfu, unhide ht]
          clear ht hx2 hfu
          go_wp2_with fail
          go_roundw
          case rel => exact ⟨i + 1, t, by omega, by go_num, rfl, hz, by simp⟩
          case measure => simp [intOf]; omega
    · have hT : Hid (sumP l = ~~~ x) := by
        show _ = _
        unfold sumP
        rw [unhide hx, List.take_of_length_le (by rw [(unhide HB).len]; omega)]
      clear hx
      go_wp2_with fail
      go_ret
      refine ⟨?_, rfl⟩
      rw [unhide hT]
      show Ending.returned (.int .u32 (bits .xor .u32 IntKind.u32.max (x.toNat : Int))) = _
      rw [not_val]
set_option maxHeartbeats 1000000 in
set_option maxRecDepth 100000 in
theorem sums_walk (a : Option Addr) (n cap : Nat) (l : Bs) (w : World) (hB : By w a n cap l) (hn : n ≤ 9223372036854775807) :
    Calls Try.prog 3 #[.slice a n cap] w fun e w' => e = .returned (.bool true) ∧ Below w.heap.size w w' := by
  have HB := hide hB
  clear hB
  go_enter Try.func3, Try.ntmps3
  by_cases hbig : n ≤ 200000
  · have hbig' : ¬ (200000 : Int) < (n : Int) := by omega
    have T1 := hide (twinB_any a n cap l w (unhide HB) (by omega))
    go_wp2_with fail
    refine (unhide T1).mono ?_
    rintro e w1 ⟨rfl, hT, hb, hlt⟩
    have hl := (unhide HB).len
    have HT1 := hide hT
    have b1 := hide hb
    have B1 := hide ((unhide HB).below hb)
    have Z1 : By w1 (some ⟨w.heap.size, 0, none⟩) n (n + 1) l := by have := hT.bytes hlt; rw [hl] at this; exact this
    have S1 := hide (sum_any _ n (n + 1) l w1 Z1 (by omega))
    have L1 := hide hlt
    clear T1 HB hT hb Z1 hlt
    have R1 : Hid (∀ w2, Below w1.heap.size w1 w2 → Calls Try.prog 9 #[.slice a n cap] w2 fun e w' => e = .returned (uv (sumP l)) ∧ w' = w2) := fun w2 hb => rsum_any a n cap l w2 ((unhide B1).below hb) (by omega)
    generalize sumP l = s at S1 R1
    go_wp2_with fail
    refine (unhide S1).mono ?_
    rintro e w2 ⟨rfl, hb⟩
    have R2 := hide (unhide R1 w2 hb)
    have b2 := hide ((unhide b1).trans (hb.mono (unhide b1).size))
    have LF := hide (leftB_any a w.heap.size n cap cap l w2 ((unhide B1).below hb) ((unhide HT1).below (unhide L1) hb) (by omega))
    clear S1 R1 hb b1 HT1 B1
    go_wp2_with fail
    refine (unhide R2).mono ?_
    rintro e w3 ⟨rfl, rfl⟩
    go_wp2_with fail
    refine (unhide LF).mono ?_
    rintro e w4 ⟨rfl, hb⟩
    have b4 := hide ((unhide b2).trans (hb.mono (unhide b2).size))
    clear R2 LF hb b2
    go_wp2_with fail
    refine (lives_any w4).mono ?_
    rintro e w5 ⟨rfl, hb⟩
    have b5 := hide ((unhide b4).trans (hb.mono (unhide b4).size))
    clear hb b4
    go_wp2_with fail
    go_ret
    exact ⟨rfl, unhide b5⟩
  · have hbig' : (200000 : Int) < (n : Int) := by omega
    go_wp2_with fail
    refine (lives_any w).mono ?_
    rintro e w5 ⟨rfl, hb⟩
    have b5 := hide hb
    clear hb
    go_wp2_with fail
    go_ret
    exact ⟨rfl, unhide b5⟩
end Go.Proofs.Ytbofidpoajdcmaa.Cd
