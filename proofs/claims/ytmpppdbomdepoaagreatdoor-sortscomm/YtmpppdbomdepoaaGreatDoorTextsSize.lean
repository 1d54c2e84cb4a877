/- What TextsSize answers. -/
import Derived.Test.YtmpppdbomdepoaaGreatDoorTwinTexts
namespace Go.Proofs.YtmpppdbomdepoaaGreatDoor.Pa
open Go.RowKit

theorem tot_snoc {ss : List ByteArray} {k : Nat} (h : k < ss.length) : tot (ss.take (k + 1)) = tot (ss.take k) + (ss.getD k ByteArray.empty).size := by
  induction ss generalizing k with
  | nil => simp at h
  | cons s l ih =>
    cases k with
    | zero => simp [tot]
    | succ k =>
      have := ih (k := k) (by simpa using h)
      simp only [List.take_succ_cons, tot, this, List.getD_cons_succ]
      omega

set_option maxHeartbeats 400000 in
theorem textsSize_some (b off len cap : Nat) (ss : List ByteArray) (w : World) (h : ∀ i, i < len → w.cell? ⟨b, off + i, none⟩ = some (.string (ss.getD i ByteArray.empty))) (hl : ss.length = len) (hlen : len ≤ 4611686018427387904)
    (hA : ∀ i, i < len → (ss.getD i ByteArray.empty).size ≤ 4611686018427387904) :
    Calls Tryz.prog 19 #[.slice (some ⟨b, off, none⟩) len cap] w fun e w' => (∃ v : Int, e = .returned (.int .i64 v) ∧ 0 ≤ v ∧ v ≤ 4611686018428436480 ∧ (v ≤ 1048576 → v = ((len + tot ss : Nat) : Int))) ∧ w' = w := by
  have HL := hide hl
  have HH := hide h
  have HA := hide hA
  clear hl h hA
  go_enter Tryz.func19, Tryz.ntmps19
  go_wp2
  go_loop [3, 4] (fun n i => ∃ (k : Nat) (v : Int), k ≤ len ∧ i = .int .i64 k ∧ n = .int .i64 v ∧ Hid (v = ((len + tot (ss.take k) : Nat) : Int)) ∧ 0 ≤ v ∧ v ≤ 4611686018428436480) (fun _ i => len - (intOf i).toNat)
  case atStart => exact ⟨0, len, Nat.zero_le _, rfl, rfl, by simp [tot, Hid], by omega, by omega⟩
  case round =>
    obtain ⟨k, v, hk, rfl, rfl, hv0, hv1, hv2⟩ := hrel
    by_cases hlt : k < len
    · by_cases hv : v ≤ 1048576
      · have hc := unhide HH k hlt
        have hs := unhide HA k hlt
        have hn : Hid (v + ((ss.getD k ByteArray.empty).size : Int) = ((len + tot (ss.take (k + 1)) : Nat) : Int)) := by
          rw [tot_snoc (by rw [unhide HL]; exact hlt), unhide hv0]
          show _ = _
          omega
        obtain ⟨x, hx⟩ : ∃ x, x = ss.getD k ByteArray.empty := ⟨_, rfl⟩
        rw [← hx] at hc hs hn
        clear hx
        go_wp2
        go_round
        case rel => exact ⟨k + 1, _, by omega, by go_num, rfl, hn, by omega, by omega⟩
        case measure => simp [intOf]; omega
      · go_wp2
        go_ret
        exact ⟨⟨v, rfl, by omega, by omega, fun h => by omega⟩, rfl⟩
    · have hv3 := unhide hv0
      rw [List.take_of_length_le (by rw [unhide HL]; omega)] at hv3
      have HV := hide hv3
      clear hv3 hv0
      go_wp2
      go_ret
      exact ⟨⟨v, rfl, by omega, by omega, fun _ => unhide HV⟩, rfl⟩

set_option maxHeartbeats 400000 in
theorem textsSize_none (a : Option Addr) (cap : Nat) (w : World) :
    Calls Tryz.prog 19 #[.slice a 0 cap] w fun e w' => e = .returned (.int .i64 0) ∧ w' = w := by
  go_enter Tryz.func19, Tryz.ntmps19
  go_wp2
  refine wp_loop_rounds 1 ?_
  rw [rounds_succ]
  go_wp2
  go_ret
  exact ⟨rfl, rfl⟩

theorem getD_mem {ss : List ByteArray} {p : ByteArray → Prop} (h : ∀ s ∈ ss, p s) {i : Nat} (hi : i < ss.length) : p (ss.getD i ByteArray.empty) := by
  have : ss.getD i ByteArray.empty = ss[i] := by simp [List.getD, List.getElem?_eq_getElem hi]
  rw [this]
  exact h _ (List.getElem_mem hi)

theorem textsSize_any (a : Option Addr) (len cap : Nat) (ss : List ByteArray) (w : World) (h : Tx w a len cap ss) (hlen : len ≤ 4611686018427387904) (hA : ∀ s ∈ ss, s.size ≤ 4611686018427387904) :
    Calls Tryz.prog 19 #[.slice a len cap] w fun e w' => (∃ v : Int, e = .returned (.int .i64 v) ∧ 0 ≤ v ∧ v ≤ 4611686018428436480 ∧ (v ≤ 1048576 → v = ((len + tot ss : Nat) : Int))) ∧ w' = w := by
  rcases h.cells with rfl | ⟨b, off, rfl, hb, hc⟩
  · obtain rfl : ss = [] := List.eq_nil_of_length_eq_zero h.len
    exact (textsSize_none a cap w).mono fun e w' ⟨h1, h2⟩ => ⟨⟨0, h1, by omega, by omega, fun _ => rfl⟩, h2⟩
  · exact textsSize_some b off len cap ss w hc h.len hlen (fun i hi => getD_mem hA (by rw [h.len]; exact hi))
end Go.Proofs.YtmpppdbomdepoaaGreatDoor.Pa
