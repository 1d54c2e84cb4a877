/- What SameBytes and SameCall say of what is the same. -/
import Derived.Test.YtbofidpoajdcmaaGreatDoorCdGet
namespace Go.Proofs.YtbofidpoajdcmaaGreatDoor.Cd
open Go.RowKit Cu Tr

set_option maxHeartbeats 400000 in
set_option maxRecDepth 100000 in
theorem sameB_yes (a b : Option Addr) (n c1 c2 : Nat) (l : Bs) (w : World) (hA : By w a n c1 l) (hB : By w b n c2 l) (hn : n ≤ 4611686018427387904) :
    Calls Tryz.prog 11 #[.slice a n c1, .slice b n c2] w fun e w' => e = .returned (.bool true) ∧ Below w.heap.size w w' := by
  have HA := hide hA
  have HB := hide hB
  clear hA hB
  go_enter Tryz.func11, Tryz.ntmps11
  go_wp2_with fail
  go_loopw [5] (fun v wr => ∃ i q : Nat, i ≤ n ∧ v = .int .i64 i ∧ wr = w.drewN q) (fun v _ => n - (intOf v).toNat)
  case atStart => exact ⟨0, 0, Nat.zero_le _, rfl, rfl⟩
  case round =>
    obtain ⟨i, q, hi, rfl, rfl⟩ := hrel
    by_cases hlt : i < n
    · have hlt' : (i : Int) < (n : Int) := by omega
      obtain ⟨b3, o3, rfl, _, hcs⟩ : ∃ b off, a = some ⟨b, off, none⟩ ∧ b < w.heap.size ∧ ∀ i, i < n → w.cell? ⟨b, off + i, none⟩ = some (.int .u8 ((l.getD i 0).toNat : Int)) := by
        rcases (unhide HA).cells with h | h
        · omega
        · exact h
      obtain ⟨b4, o4, rfl, _, hcs2⟩ : ∃ b' off, b = some ⟨b', off, none⟩ ∧ b' < w.heap.size ∧ ∀ i, i < n → w.cell? ⟨b', off + i, none⟩ = some (.int .u8 ((l.getD i 0).toNat : Int)) := by
        rcases (unhide HB).cells with h | h
        · omega
        · exact h
      have hc1 := hcs i hlt
      have hc2 := hcs2 i hlt
      generalize ((l.getD i 0).toNat : Int) = z at *
      clear hcs hcs2
      go_wp2_with fail
      go_quiet (fail)
      go_wp2_with fail
      go_roundw
      case rel => exact ⟨i + 1, q + nq, by omega, by go_num, rfl⟩
      case measure => simp [intOf]; omega
    · obtain rfl : i = n := by omega
      go_wp2_with fail
      go_ret
      exact ⟨rfl, below_drew _ _⟩
set_option maxHeartbeats 1000000 in
set_option maxRecDepth 100000 in
theorem sameC_yes (c : Ca) (a b : Option Addr) (c1 c2 : Nat) (w : World) (hA : By w a c.data.length c1 c.data) (hB : By w b c.data.length c2 c.data) (hn : c.data.length ≤ 4611686018427387904) :
    Calls Tryz.prog 19 #[cav c a c1, cav c b c2] w fun e w' => e = .returned (.bool true) ∧ Below w.heap.size w w' := by
  obtain ⟨kind, path, other, mode, user, group, time, data, eu, eg, em, ed⟩ := c
  simp only at hA hB hn
  have b1 := below_new w (.cells (ca ⟨kind, path, other, mode, user, group, time, data, eu, eg, em, ed⟩ (.slice a data.length c1)) 27)
  have b2 := below_new (w.alloc (.cells (ca ⟨kind, path, other, mode, user, group, time, data, eu, eg, em, ed⟩ (.slice a data.length c1)) 27)) (.cells (ca ⟨kind, path, other, mode, user, group, time, data, eu, eg, em, ed⟩ (.slice b data.length c2)) 27)
  have H := hide (sameB_yes a b data.length c1 c2 data _ ((hA.below b1).below b2) ((hB.below b1).below b2) hn)
  have B2 := hide (b1.trans (b2.mono b1.size))
  clear hA hB b1 b2
  go_enter Tryz.func19, Tryz.ntmps19
  go_wp2_with fail
  refine (unhide H).mono ?_
  rintro e w' ⟨rfl, hb⟩
  have B3 := hide ((unhide B2).trans (hb.mono (unhide B2).size))
  have k08 : w'.cell? ⟨w.heap.size, 8, none⟩ = some (.int .i64 eu) := (hb.cell (p := ⟨w.heap.size, 8, none⟩) (by simp; omega)).trans (by simp)
  have k09 : w'.cell? ⟨w.heap.size, 9, none⟩ = some (.int .i64 eg) := (hb.cell (p := ⟨w.heap.size, 9, none⟩) (by simp; omega)).trans (by simp)
  have k010 : w'.cell? ⟨w.heap.size, 10, none⟩ = some (.int .i64 em) := (hb.cell (p := ⟨w.heap.size, 10, none⟩) (by simp; omega)).trans (by simp)
  have k011 : w'.cell? ⟨w.heap.size, 11, none⟩ = some (.int .i64 ed) := (hb.cell (p := ⟨w.heap.size, 11, none⟩) (by simp; omega)).trans (by simp)
  have k18 : w'.cell? ⟨w.heap.size + 1, 8, none⟩ = some (.int .i64 eu) := (hb.cell (p := ⟨w.heap.size + 1, 8, none⟩) (by simp)).trans (by simp)
  have k19 : w'.cell? ⟨w.heap.size + 1, 9, none⟩ = some (.int .i64 eg) := (hb.cell (p := ⟨w.heap.size + 1, 9, none⟩) (by simp)).trans (by simp)
  have k110 : w'.cell? ⟨w.heap.size + 1, 10, none⟩ = some (.int .i64 em) := (hb.cell (p := ⟨w.heap.size + 1, 10, none⟩) (by simp)).trans (by simp)
  have k111 : w'.cell? ⟨w.heap.size + 1, 11, none⟩ = some (.int .i64 ed) := (hb.cell (p := ⟨w.heap.size + 1, 11, none⟩) (by simp)).trans (by simp)
  clear hb H B2
  go_wp2_with fail
  go_ret
  exact ⟨rfl, unhide B3⟩
end Go.Proofs.YtbofidpoajdcmaaGreatDoor.Cd
