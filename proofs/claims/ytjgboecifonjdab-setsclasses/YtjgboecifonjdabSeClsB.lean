/- The law SetsClasses: walked, for some bytes. -/
import Derived.Test.YtjgboecifonjdabSeClsBase
namespace Go.Proofs.Ytjgboecifonjdab.Se
open Go.RowKit

set_option maxHeartbeats 4000000 in
set_option maxRecDepth 100000 in
theorem classes_walkB (c : UInt8) (w : World) (hR : ((32 ≤ c.toNat ∧ c.toNat ≤ 32)) ∨ ((33 ≤ c.toNat ∧ c.toNat ≤ 47) ∨ (58 ≤ c.toNat ∧ c.toNat ≤ 64) ∨ (91 ≤ c.toNat ∧ c.toNat ≤ 96) ∨ (123 ≤ c.toNat ∧ c.toNat ≤ 126)) ∨ ((48 ≤ c.toNat ∧ c.toNat ≤ 57))) :
    Calls Try.prog 5 #[.int .u8 c.toNat] w fun e w' => e = .returned (.bool true) ∧ Below w.heap.size w w' := by
  obtain ⟨hzero, _⟩ := zero_of_info infoIn
  rw [← inA_zero c] at hzero
  obtain ⟨z, hz⟩ : ∃ z, z = inA 0 c := ⟨_, rfl⟩
  rw [← hz] at hzero
  have HZ := hide hz
  clear hz
  go_enter Try.func5, Try.ntmps5
  go_wp2_with fail
  obtain ⟨g, hg⟩ : ∃ g, g = w.heap.size := ⟨_, rfl⟩
  have hI0 : Hid (((w.alloc (.cells z 33)).alloc (.cells #[.string { data := #[97, 108, 112, 104, 97] }, .string { data := #[97, 108, 110, 117, 109] }, .string { data := #[98, 108, 97, 110, 107] }, .string { data := #[99, 110, 116, 114, 108] }, .string { data := #[100, 105, 103, 105, 116] }, .string { data := #[103, 114, 97, 112, 104] }, .string { data := #[108, 111, 119, 101, 114] }, .string { data := #[112, 114, 105, 110, 116] }, .string { data := #[112, 117, 110, 99, 116] }, .string { data := #[115, 112, 97, 99, 101] }, .string { data := #[117, 112, 112, 101, 114] }, .string { data := #[120, 100, 105, 103, 105, 116] }] 9)).heap[w.heap.size]? = some (.cells (inA 0 c) 33 (0, 0))) := by
    rw [unhide HZ]
    exact (Below.heap_alloc _ _ _ (by simp)).trans (heap_alloc_new w _)
  have hN0 : Hid (∀ i, i < 12 → ((w.alloc (.cells z 33)).alloc (.cells #[.string { data := #[97, 108, 112, 104, 97] }, .string { data := #[97, 108, 110, 117, 109] }, .string { data := #[98, 108, 97, 110, 107] }, .string { data := #[99, 110, 116, 114, 108] }, .string { data := #[100, 105, 103, 105, 116] }, .string { data := #[103, 114, 97, 112, 104] }, .string { data := #[108, 111, 119, 101, 114] }, .string { data := #[112, 114, 105, 110, 116] }, .string { data := #[112, 117, 110, 99, 116] }, .string { data := #[115, 112, 97, 99, 101] }, .string { data := #[117, 112, 112, 101, 114] }, .string { data := #[120, 100, 105, 103, 105, 116] }] 9)).cell? ⟨w.heap.size + 1, i, none⟩ = some (.string (nm i))) := by
    intro i hi
    have := heap_alloc_new (w.alloc (.cells z 33)) (.cells #[.string { data := #[97, 108, 112, 104, 97] }, .string { data := #[97, 108, 110, 117, 109] }, .string { data := #[98, 108, 97, 110, 107] }, .string { data := #[99, 110, 116, 114, 108] }, .string { data := #[100, 105, 103, 105, 116] }, .string { data := #[103, 114, 97, 112, 104] }, .string { data := #[108, 111, 119, 101, 114] }, .string { data := #[112, 114, 105, 110, 116] }, .string { data := #[112, 117, 110, 99, 116] }, .string { data := #[115, 112, 97, 99, 101] }, .string { data := #[117, 112, 112, 101, 114] }, .string { data := #[120, 100, 105, 103, 105, 116] }] 9)
    rw [World.size_alloc] at this
    rw [cell_of_row _ _ _ _ _ _ this]
    match i, hi with
    | 0, _ | 1, _ | 2, _ | 3, _ | 4, _ | 5, _ | 6, _ | 7, _ | 8, _ | 9, _ | 10, _ | 11, _ => rfl
  have hb0 : Hid (Below w.heap.size w ((w.alloc (.cells z 33)).alloc (.cells #[.string { data := #[97, 108, 112, 104, 97] }, .string { data := #[97, 108, 110, 117, 109] }, .string { data := #[98, 108, 97, 110, 107] }, .string { data := #[99, 110, 116, 114, 108] }, .string { data := #[100, 105, 103, 105, 116] }, .string { data := #[103, 114, 97, 112, 104] }, .string { data := #[108, 111, 119, 101, 114] }, .string { data := #[112, 114, 105, 110, 116] }, .string { data := #[112, 117, 110, 99, 116] }, .string { data := #[115, 112, 97, 99, 101] }, .string { data := #[117, 112, 112, 101, 114] }, .string { data := #[120, 100, 105, 103, 105, 116] }] 9))) := ((Below.refl _ _).alloc (Nat.le_refl _) _).alloc (by simp) _
  have hs0 : ((w.alloc (.cells z 33)).alloc (.cells #[.string { data := #[97, 108, 112, 104, 97] }, .string { data := #[97, 108, 110, 117, 109] }, .string { data := #[98, 108, 97, 110, 107] }, .string { data := #[99, 110, 116, 114, 108] }, .string { data := #[100, 105, 103, 105, 116] }, .string { data := #[103, 114, 97, 112, 104] }, .string { data := #[108, 111, 119, 101, 114] }, .string { data := #[112, 114, 105, 110, 116] }, .string { data := #[112, 117, 110, 99, 116] }, .string { data := #[115, 112, 97, 99, 101] }, .string { data := #[117, 112, 112, 101, 114] }, .string { data := #[120, 100, 105, 103, 105, 116] }] 9)).heap.size = w.heap.size + 2 := by simp
  rw [← hg]
  rw [← hg] at hI0 hN0 hs0
  have HG := hide hg
  clear hg hzero
  go_loopw [5] (fun i wr => ∃ k : Nat, k ≤ 12 ∧ i = .int .i64 k ∧ Hid (wr.heap[g]? = some (.cells (inA k c) 33 (0, 0))) ∧ Hid (∀ i, i < 12 → wr.cell? ⟨g + 1, i, none⟩ = some (.string (nm i))) ∧ Hid (Below w.heap.size w wr) ∧ g + 2 ≤ wr.heap.size) (fun i _ => 12 - (intOf i).toNat)
  case atStart => exact ⟨0, by omega, rfl, hI0, hN0, hb0, by omega⟩
  case round =>
    clear hI0 hN0 hb0 hs0 HZ
    obtain ⟨k, hk, rfl, hI, hN, hnx, hsz⟩ := hrel
    by_cases hlt : k < 12
    · have hlt' : (k : Int) < 12 := by omega
      have hcn := unhide hN k hlt
      have hns := nm_size k hlt
      have HP1 := hide (parse_nm k hlt)
      have HP2 := hide (parse_nm2 k hlt)
      have HEL := hide (elem_filter (clsAt k) c)
      have HST := hide (inA_step k c hlt)
      have hdl := digit_len
      generalize bytes.filter (clsAt 4) = Dg at *
      have hFl : (bytes.filter (clsAt k)).length ≤ 256 := Nat.le_trans (List.length_filter_le _ _) (by rw [bytes_length]; exact Nat.le_refl _)
      generalize bytes.filter (clsAt k) = F at *
      generalize nm k = x at *
      obtain ⟨T1, hT1⟩ : ∃ T, T = (pfx ++ x) ++ sfx := ⟨_, rfl⟩
      obtain ⟨T2, hT2⟩ : ∃ T, T = (pfx ++ x) ++ sfx2 := ⟨_, rfl⟩
      have hs1 : T1.size ≤ 100 := by rw [hT1, ← bs_len, bs_app, bs_app, List.length_append, List.length_append, bs_len, bs_len, bs_len, show pfx.size = 2 from rfl, show sfx.size = 2 from rfl]; omega
      have hs2 : T2.size ≤ 100 := by rw [hT2, ← bs_len, bs_app, bs_app, List.length_append, List.length_append, bs_len, bs_len, bs_len, show pfx.size = 2 from rfl, show sfx2.size = 12 from rfl]; omega
      rw [← hT1] at HP1
      rw [← hT2] at HP2
      have C1 := hide (fun W => parse_by (s := T1) W (by omega) (unhide HP1))
      have C2 := hide (fun W => parse_by (s := T2) W (by omega) (unhide HP2))
      have hmid : Hid ((F ++ 45 :: Dg).getD F.length 0 = 45) := by simp [Hid]
      have hlen2 : Hid ((F ++ 45 :: Dg).length = F.length + 11) := by simp [Hid, hdl]
      generalize F ++ 45 :: Dg = F2 at *
      obtain ⟨m1, hm1⟩ : ∃ m, m = F.length := ⟨_, rfl⟩
      obtain ⟨m2, hm2⟩ : ∃ m, m = F2.length := ⟨_, rfl⟩
      rw [← hm1] at C1 hmid hFl
      rw [← hm2] at C2
      have hm12 : (m2 : Int) = (m1 : Int) + 11 := by rw [hm2, unhide hlen2, hm1]; omega
      have hlt12 : (m1 : Int) < (m2 : Int) := by omega
      have t1 : ((m2 : Int) != (m1 : Int) + 11) = false := by rw [hm12]; simp
      have t2 : ((45 : Int) != 45) = false := by simp
      have HM1 := hide hm1
      have HM2 := hide hm2
      have HT1 : Hid (T1 = { data := #[91, 58] } ++ x ++ { data := #[58, 93] }) := hT1
      have HT2 : Hid (T2 = { data := #[91, 58] } ++ x ++ { data := #[58, 93, 45, 91, 58, 100, 105, 103, 105, 116, 58, 93] }) := hT2
      clear HP1 HP2 hT1 hT2 hm1 hm2 hlen2 hdl
      go_wp2_with fail
      rw [← unhide HT1]
      refine (unhide C1 _).mono ?_
      rintro e w1 ⟨a1, c1, rfl, hY1, _, hb1⟩
      have B1 : Hid (Below w.heap.size w w1) := (unhide hnx).trans (hb1.mono (unhide hnx).size)
      have I1 : Hid (w1.heap[g]? = some (.cells (inA k c) 33 (0, 0))) := (hb1.block g (by omega)).trans (unhide hI)
      have N1 : Hid (∀ i, i < 12 → w1.cell? ⟨g + 1, i, none⟩ = some (.string (nm i))) := fun i hi => (hb1.cell (p := ⟨g + 1, i, none⟩) (show g + 1 < _ by omega)).trans (unhide hN i hi)
      have hcn1 := (hb1.cell (p := ⟨g + 1, k, none⟩) (show g + 1 < _ by omega)).trans hcn
      have Y1 := hide hY1
      have hsz1 : g + 2 ≤ w1.heap.size := Nat.le_trans hsz hb1.size
      clear hb1 hY1 hI hN hnx hcn C1 hsz
      go_wp2_with fail
      rw [← unhide HT2]
      refine (unhide C2 _).mono ?_
      rintro e w2 ⟨a2, c2, rfl, hY2, _, hb2⟩
      have B2 : Hid (Below w.heap.size w w2) := (unhide B1).trans (hb2.mono (unhide B1).size)
      have I2 : Hid (w2.heap[g]? = some (.cells (inA k c) 33 (0, 0))) := (hb2.block g (by omega)).trans (unhide I1)
      have N2 : Hid (∀ i, i < 12 → w2.cell? ⟨g + 1, i, none⟩ = some (.string (nm i))) := fun i hi => (hb2.cell (p := ⟨g + 1, i, none⟩) (show g + 1 < _ by omega)).trans (unhide N1 i hi)
      have Y2 := hide ((unhide Y1).below hb2)
      have Z2 := hide hY2
      have hsz2 : g + 2 ≤ w2.heap.size := Nat.le_trans hsz1 hb2.size
      obtain ⟨b2, o2, rfl, _, hcs⟩ : ∃ b off, a2 = some ⟨b, off, none⟩ ∧ b < w2.heap.size ∧ ∀ i, i < m2 → w2.cell? ⟨b, off + i, none⟩ = some (.int .u8 ((F2.getD i 0).toNat : Int)) := by
        rcases hY2.cells with h | h
        · omega
        · exact h
      have hmc := hcs m1 (by omega)
      rw [unhide hmid] at hmc
      have hmc : w2.cell? ⟨b2, o2 + m1, none⟩ = some (.int .u8 45) := hmc
      have D := hide (has_any a1 m1 c1 c1 F c w2 (unhide Y2) (by omega))
      rw [unhide HEL] at D
      have hgc : w2.cell? ⟨g, k, none⟩ = some (.bool false) := by
        rw [cell_of_row _ _ _ _ _ _ (unhide I2), inA_get k k c hlt, if_neg (by omega)]
      have hgf : w2.frozen? ⟨g, k, none⟩ = false := frozen_of_row _ _ _ _ _ (unhide I2)
      have I3 : Hid ((w2.setCell ⟨g, k, none⟩ (.bool (clsAt k c))).heap[g]? = some (.cells (inA (k + 1) c) 33 (0, 0))) := by
        rw [heap_setCell_same _ _ _ _ _ _ (unhide I2), unhide HST]; exact rfl
      have N3 : Hid (∀ i, i < 12 → (w2.setCell ⟨g, k, none⟩ (.bool (clsAt k c))).cell? ⟨g + 1, i, none⟩ = some (.string (nm i))) := fun i hi => by
        rw [World.cell?_setCell_other _ _ _ _ (by simp)]; exact unhide N2 i hi
      have B3 : Hid (Below w.heap.size w (w2.setCell ⟨g, k, none⟩ (.bool (clsAt k c)))) := (unhide B2).setCell (p := ⟨g, k, none⟩) (by rw [unhide HG]; exact Nat.le_refl _) _
      have S3 : g + 2 ≤ (w2.setCell ⟨g, k, none⟩ (.bool (clsAt k c))).heap.size := Nat.le_trans hsz2 (by simp [World.setCell])
      generalize clsAt k c = v at *
      clear hcs hY2 hb2 Z2 B1 I1 N1 Y1 hcn1 C2 B2 I2 N2 HEL HST hmid hsz1
      go_wp2_with fail
      refine (unhide D).mono ?_
      rintro e w3 ⟨rfl, rfl⟩
      go_wp2_with fail
      go_roundw
      case rel => exact ⟨k + 1, by omega, by go_num, I3, N3, B3, S3⟩
      case measure => simp [intOf]; omega
    · have hge : ¬ (k : Int) < 12 := by omega
      have hk12 : k = 12 := by omega
      rw [hk12, inA_all] at hI
      clear hk12 hN
      have h255 : c.toNat ≤ 255 := by have := c.toNat_lt; omega
      rcases hR with r0 | r0 | r0
      · rw [reg3 c r0] at hI
        have HI := unhide hI
        clear hI
        have q1 : ¬ (32 : Int) < (c.toNat : Int) := by omega
        have q2 : (c.toNat : Int) < 127 := by omega
        have q3 : ((c.toNat : Int) == 32) = true := by simp; omega
        have q4 : (c.toNat : Int) < 128 := by omega
        clear r0 h255 hlt
        go_wp2_with fail
        refine (alive_any wr).mono ?_
        rintro e w1 ⟨rfl, hb1⟩
        have B1 : Hid (Below w.heap.size w w1) := (unhide hnx).trans (hb1.mono (unhide hnx).size)
        have I1 := (hb1.block g (by omega)).trans HI
        have d0 : w1.cell? ⟨g, 0, none⟩ = some (.bool false) := cell_of_row _ _ _ _ _ _ I1
        have d1 : w1.cell? ⟨g, 1, none⟩ = some (.bool false) := cell_of_row _ _ _ _ _ _ I1
        have d2 : w1.cell? ⟨g, 2, none⟩ = some (.bool true) := cell_of_row _ _ _ _ _ _ I1
        have d3 : w1.cell? ⟨g, 3, none⟩ = some (.bool false) := cell_of_row _ _ _ _ _ _ I1
        have d4 : w1.cell? ⟨g, 4, none⟩ = some (.bool false) := cell_of_row _ _ _ _ _ _ I1
        have d5 : w1.cell? ⟨g, 5, none⟩ = some (.bool false) := cell_of_row _ _ _ _ _ _ I1
        have d6 : w1.cell? ⟨g, 6, none⟩ = some (.bool false) := cell_of_row _ _ _ _ _ _ I1
        have d7 : w1.cell? ⟨g, 7, none⟩ = some (.bool true) := cell_of_row _ _ _ _ _ _ I1
        have d8 : w1.cell? ⟨g, 8, none⟩ = some (.bool false) := cell_of_row _ _ _ _ _ _ I1
        have d9 : w1.cell? ⟨g, 9, none⟩ = some (.bool true) := cell_of_row _ _ _ _ _ _ I1
        have d10 : w1.cell? ⟨g, 10, none⟩ = some (.bool false) := cell_of_row _ _ _ _ _ _ I1
        have d11 : w1.cell? ⟨g, 11, none⟩ = some (.bool false) := cell_of_row _ _ _ _ _ _ I1
        clear hb1 I1 HI hnx
        go_wp2_with fail
        go_ret
        exact ⟨rfl, unhide B1⟩
      · rw [reg4 c r0] at hI
        have HI := unhide hI
        clear hI
        have q1 : (32 : Int) < (c.toNat : Int) := by omega
        have q2 : (c.toNat : Int) < 127 := by omega
        have q3 : ((c.toNat : Int) == 32) = false := by simp; omega
        have q4 : (c.toNat : Int) < 128 := by omega
        clear r0 h255 hlt
        go_wp2_with fail
        refine (alive_any wr).mono ?_
        rintro e w1 ⟨rfl, hb1⟩
        have B1 : Hid (Below w.heap.size w w1) := (unhide hnx).trans (hb1.mono (unhide hnx).size)
        have I1 := (hb1.block g (by omega)).trans HI
        have d0 : w1.cell? ⟨g, 0, none⟩ = some (.bool false) := cell_of_row _ _ _ _ _ _ I1
        have d1 : w1.cell? ⟨g, 1, none⟩ = some (.bool false) := cell_of_row _ _ _ _ _ _ I1
        have d2 : w1.cell? ⟨g, 2, none⟩ = some (.bool false) := cell_of_row _ _ _ _ _ _ I1
        have d3 : w1.cell? ⟨g, 3, none⟩ = some (.bool false) := cell_of_row _ _ _ _ _ _ I1
        have d4 : w1.cell? ⟨g, 4, none⟩ = some (.bool false) := cell_of_row _ _ _ _ _ _ I1
        have d5 : w1.cell? ⟨g, 5, none⟩ = some (.bool true) := cell_of_row _ _ _ _ _ _ I1
        have d6 : w1.cell? ⟨g, 6, none⟩ = some (.bool false) := cell_of_row _ _ _ _ _ _ I1
        have d7 : w1.cell? ⟨g, 7, none⟩ = some (.bool true) := cell_of_row _ _ _ _ _ _ I1
        have d8 : w1.cell? ⟨g, 8, none⟩ = some (.bool true) := cell_of_row _ _ _ _ _ _ I1
        have d9 : w1.cell? ⟨g, 9, none⟩ = some (.bool false) := cell_of_row _ _ _ _ _ _ I1
        have d10 : w1.cell? ⟨g, 10, none⟩ = some (.bool false) := cell_of_row _ _ _ _ _ _ I1
        have d11 : w1.cell? ⟨g, 11, none⟩ = some (.bool false) := cell_of_row _ _ _ _ _ _ I1
        clear hb1 I1 HI hnx
        go_wp2_with fail
        go_ret
        exact ⟨rfl, unhide B1⟩
      · rw [reg5 c r0] at hI
        have HI := unhide hI
        clear hI
        have q1 : (32 : Int) < (c.toNat : Int) := by omega
        have q2 : (c.toNat : Int) < 127 := by omega
        have q3 : ((c.toNat : Int) == 32) = false := by simp; omega
        have q4 : (c.toNat : Int) < 128 := by omega
        clear r0 h255 hlt
        go_wp2_with fail
        refine (alive_any wr).mono ?_
        rintro e w1 ⟨rfl, hb1⟩
        have B1 : Hid (Below w.heap.size w w1) := (unhide hnx).trans (hb1.mono (unhide hnx).size)
        have I1 := (hb1.block g (by omega)).trans HI
        have d0 : w1.cell? ⟨g, 0, none⟩ = some (.bool false) := cell_of_row _ _ _ _ _ _ I1
        have d1 : w1.cell? ⟨g, 1, none⟩ = some (.bool true) := cell_of_row _ _ _ _ _ _ I1
        have d2 : w1.cell? ⟨g, 2, none⟩ = some (.bool false) := cell_of_row _ _ _ _ _ _ I1
        have d3 : w1.cell? ⟨g, 3, none⟩ = some (.bool false) := cell_of_row _ _ _ _ _ _ I1
        have d4 : w1.cell? ⟨g, 4, none⟩ = some (.bool true) := cell_of_row _ _ _ _ _ _ I1
        have d5 : w1.cell? ⟨g, 5, none⟩ = some (.bool true) := cell_of_row _ _ _ _ _ _ I1
        have d6 : w1.cell? ⟨g, 6, none⟩ = some (.bool false) := cell_of_row _ _ _ _ _ _ I1
        have d7 : w1.cell? ⟨g, 7, none⟩ = some (.bool true) := cell_of_row _ _ _ _ _ _ I1
        have d8 : w1.cell? ⟨g, 8, none⟩ = some (.bool false) := cell_of_row _ _ _ _ _ _ I1
        have d9 : w1.cell? ⟨g, 9, none⟩ = some (.bool false) := cell_of_row _ _ _ _ _ _ I1
        have d10 : w1.cell? ⟨g, 10, none⟩ = some (.bool false) := cell_of_row _ _ _ _ _ _ I1
        have d11 : w1.cell? ⟨g, 11, none⟩ = some (.bool true) := cell_of_row _ _ _ _ _ _ I1
        clear hb1 I1 HI hnx
        go_wp2_with fail
        go_ret
        exact ⟨rfl, unhide B1⟩
end Go.Proofs.Ytjgboecifonjdab.Se
