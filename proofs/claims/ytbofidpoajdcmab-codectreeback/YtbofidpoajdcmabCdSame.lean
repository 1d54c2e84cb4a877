/- What SameBytes and SameCall say of what is the same. -/
import Derived.Test.YtbofidpoajdcmabCdGet
namespace Go.Proofs.Ytbofidpoajdcmab.Cd
open Go.RowKit Cu Tr

set_option maxHeartbeats 400000 in
set_option maxRecDepth 100000 in
theorem sameB_yes (a b : Option Addr) (n c1 c2 : Nat) (l : Bs) (w : World) (hA : By w a n c1 l) (hB : By w b n c2 l) (hn : n ≤ 4611686018427387904) :
    Calls Try.prog 49 #[.slice a n c1, .slice b n c2] w fun e w' => e = .returned (.bool true) ∧ Below w.heap.size w w' := by
  have HA := hide hA
  have HB := hide hB
  clear hA hB
  go_enter Try.func49, Try.ntmps49
  go_wp2_with fail
  go_loopw [5] (fun v wr => ∃ i q : Nat, i ≤ n ∧ v = .int .i64 i ∧ wr = w.drewN q) (fun v _ => n - (intOf v).toNat)
  case atStart => exact ⟨0, 0, Nat.zero_le _, rfl, rfl⟩
  case round =>
    obtain ⟨i, q, hi, rfl, rfl⟩ := hrel
    by_cases hlt : i < n
    · have hlt' : (i : Int) < (n : Int) := by omega
      obtain ⟨b3, o3, rfl, _, hcs⟩ : ∃ b off, a = some ⟨b, off, none⟩ ∧ b < w.heap.size ∧ ∀ i, i < n → w.cell? ⟨b, off + i, none⟩ = some (.int .u8 ((l.getD i 0).toNat : Int)) := by
        rcases (unhide HA).cells with h | h
        · omega
        · exact h
      obtain ⟨b4, o4, rfl, _, hcs2⟩ : ∃ b' off, b = some ⟨b', off, none⟩ ∧ b' < w.heap.size ∧ ∀ i, i < n → w.cell? ⟨b', off + i, none⟩ = some (.int .u8 ((l.getD i 0).toNat : Int)) := by
        rcases (unhide HB).cells with h | h
        · omega
        · exact h
      have hc1 := hcs i hlt
      have hc2 := hcs2 i hlt
      generalize ((l.getD i 0).toNat : Int) = z at *
      clear hcs hcs2
      go_wp2_with fail
      go_quiet (fail)
      go_wp2_with fail
      go_roundw
      case rel => exact ⟨i + 1, q + nq, by omega, by go_num, rfl⟩
      case measure => simp [intOf]; omega
    · obtain rfl : i = n := by omega
      go_wp2_with fail
      go_ret
      exact ⟨rfl, below_drew _ _⟩
end Go.Proofs.Ytbofidpoajdcmab.Cd
