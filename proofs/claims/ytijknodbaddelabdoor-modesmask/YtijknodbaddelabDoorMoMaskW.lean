/- The law ModesMask: walked. -/
import Derived.Test.YtijknodbaddelabDoorMoAlive
import Derived.Test.YtijknodbaddelabDoorMoFacts
namespace Go.Proofs.YtijknodbaddelabDoor.Mo
open Go.RowKit Go.Shelf

theorem and_any (x : Int) (n : Nat) (hn : n < 512) : bits .and .i64 x (n : Int) = ((m9 x &&& n : Nat) : Int) := by
  show IntKind.i64.wrap ((BitVec.ofInt 64 x &&& BitVec.ofInt 64 (n : Int)).toNat : Int) = _
  rw [wrap_toInt]
  have h1 : m9 x &&& n < 2 ^ 9 := Nat.lt_of_le_of_lt Nat.and_le_right hn
  refine toInt_of_bits _ _ (by omega) fun i hi => ?_
  rw [Nat.testBit_and, BitVec.getLsbD_and, ofNat_bit n (by omega)]
  by_cases h9 : i < 9
  · rw [ofInt_bit x i h9]
  · rw [bits_of_lt (k := 9) (n := n) hn (by omega)]; simp
theorem mask_in (op cp : UInt8) (bts mask : Int) (dirs dir : Bool) (m : Nat) (hm : m < 512) : (chgP ⟨0, op, bts, cp, dirs⟩ m mask dir &&& m9 mask) = (m &&& m9 mask) := by
  have hc := chgP_lt ⟨0, op, bts, cp, dirs⟩ m mask dir hm
  have hk := m9_lt mask
  refine mode_ext (Nat.lt_of_le_of_lt Nat.and_le_right hk) (Nat.lt_of_le_of_lt Nat.and_le_right hk) fun i hi => ?_
  rw [Nat.testBit_and, Nat.testBit_and, chg_bit _ _ _ _ i hi]
  unfold tch
  simp only
  rw [if_pos (by decide)]
  cases (m9 mask).testBit i
  · simp
  · unfold ob; simp
theorem mask_out (op cp : UInt8) (bts mask : Int) (dirs dir : Bool) (m : Nat) (hm : m < 512) : clr (chgP ⟨0, op, bts, cp, dirs⟩ m mask dir) (m9 mask) = clr (chgP ⟨7, op, bts, cp, dirs⟩ m mask dir) (m9 mask) := by
  have hc := chgP_lt ⟨0, op, bts, cp, dirs⟩ m mask dir hm
  have hd := chgP_lt ⟨7, op, bts, cp, dirs⟩ m mask dir hm
  refine mode_ext (clr_lt (k := 9) hc) (clr_lt (k := 9) hd) fun i hi => ?_
  rw [clr_bit, clr_bit, chg_bit _ _ _ _ i hi, chg_bit _ _ _ _ i hi]
  have hb : bitsP ⟨0, op, bts, cp, dirs⟩ m dir = bitsP ⟨7, op, bts, cp, dirs⟩ m dir := rfl
  rw [hb]
  unfold tch
  simp only
  rw [if_pos (by decide), if_neg (by decide), wb7b _ (by omega)]
  cases (m9 mask).testBit i <;> simp
set_option maxHeartbeats 1000000 in
set_option maxRecDepth 100000 in
theorem mask_walk (c : Ch) (mode mask : Int) (dir : Bool) (w : World) :
    Calls Tryd.prog 4 #[.agg (cc c).toArray, .agg #[.int .i64 mode, .int .i64 mask, .bool dir]] w fun e w' => e = .returned (.bool true) ∧ Below w.heap.size w w' := by
  obtain ⟨who, op, bts, cp, dirs⟩ := c
  unfold cc
  obtain ⟨A, HA⟩ : ∃ A, Hid (A = chgP ⟨0, op, bts, cp, dirs⟩ (m9 mode) mask dir) := ⟨_, rfl⟩
  obtain ⟨B, HB⟩ : ∃ B, Hid (B = chgP ⟨7, op, bts, cp, dirs⟩ (m9 mode) mask dir) := ⟨_, rfl⟩
  obtain ⟨K, HK⟩ : ∃ K, Hid (K = m9 mask) := ⟨_, rfl⟩
  have hA : A < 512 := by rw [unhide HA]; exact chgP_lt _ _ _ _ (m9_lt _)
  have hB : B < 512 := by rw [unhide HB]; exact chgP_lt _ _ _ _ (m9_lt _)
  have hK : K < 512 := by rw [unhide HK]; exact m9_lt _
  have hm5 : bits .and .i64 mask 511 = (K : Int) := by rw [unhide HK, and511, m9_val]
  obtain ⟨P, HP⟩ : ∃ P, Hid (P = m9 mode &&& K) := ⟨_, rfl⟩
  obtain ⟨Q, HQ⟩ : ∃ Q, Hid (Q = clr A K) := ⟨_, rfl⟩
  have p1 : bits .and .i64 (A : Int) (K : Int) = (P : Int) := by
    rw [and_any _ _ hK, m9_nat A hA, unhide HP, unhide HK, unhide HA, mask_in _ _ _ _ _ _ _ (m9_lt _)]
  have p2 : bits .and .i64 mode (K : Int) = (P : Int) := by rw [and_any _ _ hK, unhide HP]
  have p3 : bits .andNot .i64 (A : Int) mask = (Q : Int) := by rw [bits_clr _ _ hA, unhide HQ, unhide HK]
  have p4 : bits .andNot .i64 (B : Int) mask = (Q : Int) := by rw [bits_clr _ _ hB, unhide HQ, unhide HB, unhide HA, unhide HK, mask_out _ _ _ _ _ _ _ (m9_lt _)]
  have p5 : bits .and .i64 (Q : Int) 511 = (Q : Int) := by
    have : Q < 2 ^ 9 := by rw [unhide HQ]; exact clr_lt (k := 9) hA
    rw [and511]; omega
  obtain ⟨W1, HW1⟩ : ∃ W, Hid (W = (w.alloc (.cells #[.int .i64 0, .int .u8 op.toNat, .int .i64 bts, .int .u8 cp.toNat, .bool dirs] 30)).alloc (.cells #[.int .i64 mode, .int .i64 mask, .bool dir] 24)) := ⟨_, rfl⟩
  have hz1 : W1.heap.size = w.heap.size + 1 + 1 := by rw [unhide HW1]; simp
  have HB1 : Hid (Below w.heap.size w W1) := by rw [unhide HW1]; exact ((Below.refl _ _).alloc (Nat.le_refl _) _).alloc (by simp) _
  have HL1 : Hid (W1.heap[w.heap.size]? = some (.cells #[.int .i64 0, .int .u8 op.toNat, .int .i64 bts, .int .u8 cp.toNat, .bool dirs] 30 (0, 0))) := by
    rw [unhide HW1]; exact (Below.heap_alloc _ _ _ (by simp)).trans (heap_alloc_new w _)
  have HL2 : Hid (W1.heap[w.heap.size + 1]? = some (.cells #[.int .i64 mode, .int .i64 mask, .bool dir] 24 (0, 0))) := by
    rw [unhide HW1]
    have := heap_alloc_new (w.alloc (.cells #[.int .i64 0, .int .u8 op.toNat, .int .i64 bts, .int .u8 cp.toNat, .bool dirs] 30)) (.cells #[.int .i64 mode, .int .i64 mask, .bool dir] 24)
    rw [World.size_alloc] at this
    exact this
  have C1 : Hid (Calls Tryd.prog 8 #[.slice (some ⟨w.heap.size + 1 + 1, 0, none⟩) 1 1, .int .i64 mode, .int .i64 mask, .bool dir] (W1.alloc (.cells #[.int .i64 0, .int .u8 op.toNat, .int .i64 bts, .int .u8 cp.toNat, .bool dirs] 30)) fun e w' => e = .returned (.int .i64 (A : Nat)) ∧ Below (W1.alloc (.cells #[.int .i64 0, .int .u8 op.toNat, .int .i64 bts, .int .u8 cp.toNat, .bool dirs] 30)).heap.size (W1.alloc (.cells #[.int .i64 0, .int .u8 op.toNat, .int .i64 bts, .int .u8 cp.toNat, .bool dirs] 30)) w') := by
    rw [unhide HA, ← hz1]
    exact apply_any (some ⟨W1.heap.size, 0, none⟩) 1 1 1 [⟨0, op, bts, cp, dirs⟩] mode mask dir _ (cg_lit W1 [⟨0, op, bts, cp, dirs⟩] 30) (by decide)
  have HX := hide (alive_any)
  go_enter Tryd.func4, Tryd.ntmps4
  go_wp2_with fail
  rw [← unhide HW1]
  clear HW1
  refine (unhide C1).mono ?_
  rintro e w2 ⟨rfl, hb⟩
  have hb2 : Below W1.heap.size W1 w2 := ((Below.refl _ _).alloc (Nat.le_refl _) _).trans (hb.mono (by simp))
  have HB2 : Hid (Below w.heap.size w w2) := (unhide HB1).trans (hb2.mono (by omega))
  have hz2 : w.heap.size + 1 < w2.heap.size := by have := hb2.size; omega
  have hM1 := (hb2.block w.heap.size (by omega)).trans (unhide HL1)
  have hM2 := (hb2.block (w.heap.size + 1) (by omega)).trans (unhide HL2)
  have d0 : w2.cell? ⟨w.heap.size, 0, none⟩ = some (.int .i64 0) := cell_of_row _ _ _ _ _ _ hM1
  have d1 : w2.cell? ⟨w.heap.size, 1, none⟩ = some (.int .u8 op.toNat) := cell_of_row _ _ _ _ _ _ hM1
  have d2 : w2.cell? ⟨w.heap.size, 2, none⟩ = some (.int .i64 bts) := cell_of_row _ _ _ _ _ _ hM1
  have d3 : w2.cell? ⟨w.heap.size, 3, none⟩ = some (.int .u8 cp.toNat) := cell_of_row _ _ _ _ _ _ hM1
  have d4 : w2.cell? ⟨w.heap.size, 4, none⟩ = some (.bool dirs) := cell_of_row _ _ _ _ _ _ hM1
  have f0 : w2.frozen? ⟨w.heap.size, 0, none⟩ = false := by simp [World.frozen?, hM1]
  have e0 : w2.cell? ⟨w.heap.size + 1, 0, none⟩ = some (.int .i64 mode) := cell_of_row _ _ _ _ _ _ hM2
  have e1 : w2.cell? ⟨w.heap.size + 1, 1, none⟩ = some (.int .i64 mask) := cell_of_row _ _ _ _ _ _ hM2
  have e2 : w2.cell? ⟨w.heap.size + 1, 2, none⟩ = some (.bool dir) := cell_of_row _ _ _ _ _ _ hM2
  have hlt0 : w.heap.size < w2.heap.size := by omega
  obtain ⟨W3, HW3⟩ : ∃ W, Hid (W = w2.setCell ⟨w.heap.size, 0, none⟩ (.int .i64 7)) := ⟨_, rfl⟩
  have hz3 : W3.heap.size = w2.heap.size := by rw [unhide HW3]; simp
  have HB3 : Hid (Below w.heap.size w W3) := by rw [unhide HW3]; exact (unhide HB2).setCell (p := ⟨w.heap.size, 0, none⟩) (Nat.le_refl _) _
  have HL3 : Hid (W3.heap[w.heap.size + 1]? = some (.cells #[.int .i64 mode, .int .i64 mask, .bool dir] 24 (0, 0))) := by
    rw [unhide HW3]; exact (heap_setCell_other _ _ _ _ (by simp)).trans hM2
  have C2 : Hid (Calls Tryd.prog 8 #[.slice (some ⟨w2.heap.size, 0, none⟩) 1 1, .int .i64 mode, .int .i64 mask, .bool dir] (W3.alloc (.cells #[.int .i64 7, .int .u8 op.toNat, .int .i64 bts, .int .u8 cp.toNat, .bool dirs] 30)) fun e w' => e = .returned (.int .i64 (B : Nat)) ∧ Below (W3.alloc (.cells #[.int .i64 7, .int .u8 op.toNat, .int .i64 bts, .int .u8 cp.toNat, .bool dirs] 30)).heap.size (W3.alloc (.cells #[.int .i64 7, .int .u8 op.toNat, .int .i64 bts, .int .u8 cp.toNat, .bool dirs] 30)) w') := by
    rw [unhide HB, ← hz3]
    exact apply_any (some ⟨W3.heap.size, 0, none⟩) 1 1 1 [⟨7, op, bts, cp, dirs⟩] mode mask dir _ (cg_lit W3 [⟨7, op, bts, cp, dirs⟩] 30) (by decide)
  clear hb hb2 hM1 hM2 C1 HB1 HB2 HL1 HL2
  go_wp2_with fail
  rw [← unhide HW3]
  clear HW3 d0 d1 d2 d3 d4 f0 e0 e1 e2
  refine (unhide C2).mono ?_
  rintro e w4 ⟨rfl, hb⟩
  have hb4 : Below W3.heap.size W3 w4 := ((Below.refl _ _).alloc (Nat.le_refl _) _).trans (hb.mono (by simp))
  have HB4 : Hid (Below w.heap.size w w4) := (unhide HB3).trans (hb4.mono (by omega))
  have HL4 : Hid (w4.heap[w.heap.size + 1]? = some (.cells #[.int .i64 mode, .int .i64 mask, .bool dir] 24 (0, 0))) := (hb4.block _ (by omega)).trans (unhide HL3)
  have hz4 : w.heap.size + 1 < w4.heap.size := by have := hb4.size; omega
  clear hb hb4 C2 HB3 HL3
  go_wp2_with fail
  refine (unhide HX _).mono ?_
  rintro e w5 ⟨rfl, hb⟩
  have HB5 : Hid (Below w.heap.size w w5) := (unhide HB4).trans (hb.mono (by omega))
  have hM2 := (hb.block _ (by omega)).trans (unhide HL4)
  have e0 : w5.cell? ⟨w.heap.size + 1, 0, none⟩ = some (.int .i64 mode) := cell_of_row _ _ _ _ _ _ hM2
  have e1 : w5.cell? ⟨w.heap.size + 1, 1, none⟩ = some (.int .i64 mask) := cell_of_row _ _ _ _ _ _ hM2
  clear hb hM2 HB4 HL4
  go_wp2_with fail
  go_ret
  exact ⟨by first | rfl | simp, unhide HB5⟩
end Go.Proofs.YtijknodbaddelabDoor.Mo
