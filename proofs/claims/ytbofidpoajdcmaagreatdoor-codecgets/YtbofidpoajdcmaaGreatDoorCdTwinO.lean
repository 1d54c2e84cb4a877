/- TwinBytes' copy, as a row of one's own; calls copied, asked, weighed. -/
import Derived.Test.YtbofidpoajdcmaaGreatDoorCdTwin
import Derived.Test.YtbofidpoajdcmaaGreatDoorCdSame
set_option linter.unusedVariables false
namespace Go.Proofs.YtbofidpoajdcmaaGreatDoor.Cd
open Go.RowKit Cu Tr

theorem own_less2 {w : World} {base g n cap : Nat} {l : Bs} (hl : l.length = n) (h : w.ownsRow base 5 1 (.slice (some ⟨g, 0, none⟩) (n + 1) cap) (n + 1) (bc l ++ [.int .u8 77])) :
    Row base (.slice (some ⟨g, 0, none⟩) n cap) l w := by
  subst hl
  have hb : (bc l).length = l.length := by simp [bc]
  show w.ownsRow base 5 1 (.slice (some ⟨g, 0, none⟩) l.length cap) l.length (bc l)
  refine ⟨by rw [hb, Nat.mul_one], ?_⟩
  rcases h.2 with ⟨h1, _⟩ | ⟨g', cap', cur, hv, hb, hg, h1, h2, h3, h4⟩
  · simp at h1
  · simp at hv
    obtain ⟨rfl, rfl⟩ := hv
    refine .inr ⟨g, cap, cur, rfl, hb, hg, by omega, h2, h3, ?_⟩
    have : (cur.toList.take ((l.length + 1) * 1)).take (l.length * 1) = cur.toList.take (l.length * 1) := by
      rw [List.take_take]; congr 1; omega
    rw [← this, h4, List.take_append_of_le_length (by omega), List.take_of_length_le (by omega)]
set_option maxHeartbeats 1000000 in
set_option maxRecDepth 100000 in
theorem twinO_some (b off len cap : Nat) (l : Bs) (w : World) (h : ∀ i, i < len → w.cell? ⟨b, off + i, none⟩ = some (.int .u8 (l.getD i 0).toNat)) (hb : b < w.heap.size) (hl : l.length = len) (hlen : len ≤ 140737488351232) :
    Calls Tryz.prog 16 #[.slice (some ⟨b, off, none⟩) len cap] w fun e w' => e = .returned (.slice (some ⟨w.heap.size, 0, none⟩) len (len + 1)) ∧ TwB w' w.heap.size l ∧ Row w.heap.size (.slice (some ⟨w.heap.size, 0, none⟩) len (len + 1)) l w' ∧ Below w.heap.size w w' ∧ w.heap.size < w'.heap.size := by
  obtain ⟨i0, hi, hz0, hz1, hz2⟩ := info_parts Tryz.infoB
  have HC := hide h
  have HL := hide hl
  clear h hl
  go_enter Tryz.func16, Tryz.ntmps16
  go_wp2_with (at_make; refine wpList_make_own _ rfl _ _ 23 rfl w.heap.size 5 i0 _ 1 Tryz.underlying23 hi hz0 hz1 _ _ _ (len + 1) rfl rfl (by omega) (by rw [hz2]; omega) (by unfold maxLen; omega) (Nat.le_refl _) ?_; intro w1 hown1 hgrow1)
  have hb1 : Below w.heap.size w w1 := (Below.refl _ _).grown hgrow1 (Nat.le_refl _) (by simp)
  have hs1 : w.heap.size < w1.heap.size := (hown1.lt _ rfl).2
  clear hgrow1
  go_loopw [3, 4] (fun v i wr => ∃ k : Nat, k ≤ len ∧ i = .int .i64 k ∧ v = .slice (some ⟨w.heap.size, 0, none⟩) k (len + 1) ∧
      Hid (wr.ownsRow w.heap.size 5 1 (.slice (some ⟨w.heap.size, 0, none⟩) k (len + 1)) k (bc (l.take k))) ∧ Hid (Below w.heap.size w wr)) (fun _ i _ => len - (intOf i).toNat)
  case atStart => exact ⟨0, Nat.zero_le _, rfl, rfl, hown1, hb1⟩
  case round =>
    clear hown1 hb1 hs1
    obtain ⟨k, hk, rfl, rfl, hown, hnx⟩ := hrel
    have hsz := (unhide hnx).size
    have hlt0 := ((unhide hown).lt _ rfl).2
    by_cases hlt : k < len
    · have hc0 := ((unhide hnx).cell (p := ⟨b, off + k, none⟩) hb).trans (unhide HC k hlt)
      have hd := hide (bs_take l k (by rw [unhide HL]; exact hlt))
      obtain ⟨c, hx⟩ : ∃ c, c = l.getD k 0 := ⟨_, rfl⟩
      rw [← hx] at hd
      rw [← hx] at hc0
      clear hx
      go_wp2_with (at_builtin; refine wpList_append_fits _ rfl _ _ 23 rfl w.heap.size 5 i0 1 Tryz.underlying23 hi hz1 w.heap.size k (len + 1) _ rfl ((unhide hown).alloc _) ⟨wr.heap.size, 0, none⟩ 1 1 [.int .u8 c.toNat] rfl rfl (by exact byte_new _ _ _) (by exact byte_one _) (by omega) ?_)
      intro w2 hown2 hgrow2
      have hb2 : Hid (Below w.heap.size w w2) := ((unhide hnx).alloc hsz _).grown hgrow2 (by simp; omega) (by simp)
      have ho2 : Hid (w2.ownsRow w.heap.size 5 1 (.slice (some ⟨w.heap.size, 0, none⟩) (k + 1) (len + 1)) (k + 1) (bc (l.take (k + 1)))) := by
        have e : bc (l.take (k + 1)) = bc (l.take k) ++ bc [c] := by rw [unhide hd]; simp [bc]
        rw [e]; exact hown2
      clear hgrow2 hown hnx hown2 hd
      go_wp2
      go_roundw
      case rel => exact ⟨k + 1, by omega, by go_num, rfl, ho2, hb2⟩
      case measure => simp [intOf]; omega
    · have e : k = len := by omega
      subst e
      have ht : l.take k = l := List.take_of_length_le (by rw [unhide HL]; omega)
      rw [ht] at hown
      go_wp2_with (at_builtin; refine wpList_append_fits _ rfl _ _ 23 rfl w.heap.size 5 i0 1 Tryz.underlying23 hi hz1 w.heap.size k (k + 1) _ rfl ((unhide hown).alloc _) ⟨wr.heap.size, 0, none⟩ 1 1 [.int .u8 77] rfl rfl (by exact byte_new _ _ _) (by exact byte_one _) (by omega) ?_)
      intro w2 hown2 hgrow2
      have hb2 : Below w.heap.size w w2 := ((unhide hnx).alloc hsz _).grown hgrow2 (by simp; omega) (by simp)
      have hs2 : w.heap.size < w2.heap.size := (hown2.lt _ rfl).2
      have htw := twB_of (unhide HL).symm hown2
      have hrw := own_less2 (unhide HL) hown2
      clear hgrow2 hown2
      go_wp2
      go_ret
      exact ⟨rfl, htw, hrw, hb2, hs2⟩
set_option maxHeartbeats 800000 in
set_option maxRecDepth 100000 in
theorem twinO_none (a : Option Addr) (cap : Nat) (w : World) :
    Calls Tryz.prog 16 #[.slice a 0 cap] w fun e w' => e = .returned (.slice (some ⟨w.heap.size, 0, none⟩) 0 (0 + 1)) ∧ TwB w' w.heap.size [] ∧ Row w.heap.size (.slice (some ⟨w.heap.size, 0, none⟩) 0 (0 + 1)) [] w' ∧ Below w.heap.size w w' ∧ w.heap.size < w'.heap.size := by
  obtain ⟨i0, hi, hz0, hz1, hz2⟩ := info_parts Tryz.infoB
  go_enter Tryz.func16, Tryz.ntmps16
  go_wp2_with (at_make; refine wpList_make_own _ rfl _ _ 23 rfl w.heap.size 5 i0 _ 1 Tryz.underlying23 hi hz0 hz1 _ _ _ (0 + 1) rfl rfl (by omega) (by rw [hz2]; omega) (by unfold maxLen; omega) (Nat.le_refl _) ?_; intro w1 hown1 hgrow1)
  have hb1 : Below w.heap.size w w1 := (Below.refl _ _).grown hgrow1 (Nat.le_refl _) (by simp)
  have hs1 : w.heap.size < w1.heap.size := (hown1.lt _ rfl).2
  clear hgrow1
  refine wp_loop_rounds 1 ?_
  rw [rounds_succ]
  go_wp2_with (at_builtin; refine wpList_append_fits _ rfl _ _ 23 rfl w.heap.size 5 i0 1 Tryz.underlying23 hi hz1 w.heap.size 0 (0 + 1) _ rfl (hown1.alloc _) ⟨w1.heap.size, 0, none⟩ 1 1 [.int .u8 77] rfl rfl (by exact byte_new _ _ _) (by exact byte_one _) (by omega) ?_)
  intro w2 hown2 hgrow2
  have hb2 : Below w.heap.size w w2 := (hb1.alloc hb1.size _).grown hgrow2 (by simp; omega) (by simp)
  have hs2 : w.heap.size < w2.heap.size := (hown2.lt _ rfl).2
  have htw := twB_of (l := []) rfl hown2
  have hrw := own_less2 (l := []) rfl hown2
  clear hgrow2 hown2
  go_wp2
  go_ret
  exact ⟨rfl, htw, hrw, hb2, hs2⟩
theorem twinO_any (a : Option Addr) (len cap : Nat) (l : Bs) (w : World) (h : By w a len cap l) (hlen : len ≤ 140737488351232) :
    Calls Tryz.prog 16 #[.slice a len cap] w fun e w' => e = .returned (.slice (some ⟨w.heap.size, 0, none⟩) len (len + 1)) ∧ TwB w' w.heap.size l ∧ Row w.heap.size (.slice (some ⟨w.heap.size, 0, none⟩) len (len + 1)) l w' ∧ Below w.heap.size w w' ∧ w.heap.size < w'.heap.size := by
  rcases h.cells with rfl | ⟨b, off, rfl, hb, hc⟩
  · obtain rfl : l = [] := List.eq_nil_of_length_eq_zero h.len
    exact twinO_none a cap w
  · exact twinO_some b off len cap l w hc hb h.len hlen


set_option maxHeartbeats 400000 in
set_option maxRecDepth 100000 in
theorem bytesSize_any (a : Option Addr) (n cap : Nat) (w : World) : Calls Tryz.prog 30 #[.slice a n cap] w fun e w' => e = .returned (.int .i64 n) ∧ w' = w := by
  go_enter Tryz.func30, Tryz.ntmps30
  go_wp2
  go_ret
  exact ⟨rfl, rfl⟩
set_option maxHeartbeats 1000000 in
set_option maxRecDepth 100000 in
theorem callSize_any (c : Ca) (a : Option Addr) (cap : Nat) (w : World) (h1 : c.path.size ≤ 281474976710656) (h2 : c.other.size ≤ 281474976710656) (h3 : c.data.length ≤ 281474976710656) :
    Calls Tryz.prog 6 #[cav c a cap] w fun e w' => (∃ r : Nat, e = .returned (.int .i64 r) ∧ (r ≤ 1048576 → r = 1 + c.path.size + c.other.size + c.data.length)) ∧ Below w.heap.size w w' := by
  obtain ⟨kind, path, other, mode, user, group, time, data, eu, eg, em, ed⟩ := c
  simp only at h1 h2 h3 ⊢
  have b1 := hide (below_new w (.cells (ca ⟨kind, path, other, mode, user, group, time, data, eu, eg, em, ed⟩ (.slice a data.length cap)) 27))
  have HB := hide (bytesSize_any a data.length cap)
  by_cases a2 : 1 + (path.size : Int) + (other.size : Int) ≤ 1048576
  · go_enter Tryz.func6, Tryz.ntmps6
    go_wp2_with fail
    refine (unhide HB _).mono ?_
    rintro e w' ⟨rfl, rfl⟩
    go_wp2_with fail
    go_ret
    exact ⟨⟨1 + path.size + other.size + data.length, by go_num, fun _ => rfl⟩, unhide b1⟩
  · go_enter Tryz.func6, Tryz.ntmps6
    go_wp2_with fail
    go_ret
    exact ⟨⟨1 + path.size + other.size, by go_num, fun h => by omega⟩, unhide b1⟩
end Go.Proofs.YtbofidpoajdcmaaGreatDoor.Cd
