/- What lookByte answers where every list is all marks. -/
import Derived.Test.YtbofidpoajdcmaaGreatDoorBookLook
import Derived.Test.YtbofidpoajdcmaaGreatDoorBookGrowB
namespace Go.Proofs.YtbofidpoajdcmaaGreatDoor.Bk
open Go.RowKit

set_option maxHeartbeats 1000000 in
set_option maxRecDepth 100000 in
theorem lookByte_any (P k : Nat) (u : Value) (cur : List Value) (V G : Nat → Value) (M N : Nat → Nat) (w : World) (hB : Own w P cur) (h3 : cur[1]? = some u) (hu : w.ownsRow 0 114 3 u k (held V G M k))
    (hV : ∀ j, j < k → w.ownsRow 0 5 1 (V j) (N j) (marks [.int .u8 (bm (M j))] (N j))) (hG : ∀ j, j < k → w.ownsRow 0 5 1 (G j) (N j + 40) (marks [.int .u8 (bm (M j))] (N j + 40)))
    (hM : ∀ i, i < k → M i < 100) (hN : ∀ i, i < k → N i ≤ 140737488351232) (hk : k ≤ 1000000) :
    Calls Tryz.prog 65 #[.pointer (some ⟨P, 0, none⟩)] w fun e w' => e = .returned (.bool true) ∧ Touch (fun _ => False) w w' := by
  have c3 : w.cell? ⟨P, 1, none⟩ = some u := (hB.cellAt 1 (by omega)).trans h3
  have hPlt : P < w.heap.size := (own_block hB P rfl).1
  have HU := hide hu
  have HV := hide hV
  have HG := hide hG
  have HM := hide hM
  have HN := hide hN
  obtain ⟨ua, uc, rfl⟩ := own_shape hu
  clear hB hu hV hG hM hN h3
  go_enter Tryz.func65, Tryz.ntmps65
  go_wp2
  go_loopw [3] (fun s2 wr => ∃ i : Nat, i ≤ k ∧ s2 = .int .i64 i ∧ Hid (Touch (fun _ => False) w wr)) (fun s2 _ => k - (intOf s2).toNat)
  case atStart => exact ⟨0, Nat.zero_le _, rfl, Touch.refl _ _⟩
  case round =>
    obtain ⟨i, hik, rfl, hTo⟩ := hrel
    obtain ⟨wo, hwo⟩ : ∃ wo : World, wo = wr := ⟨_, rfl⟩
    subst hwo
    have c3r : wo.cell? ⟨P, 1, none⟩ = some (.slice ua k uc) := (unhide hTo).cell c3 (fun h => h)
    by_cases hlt : i < k
    · obtain ⟨gu, rfl, _⟩ := row_at (unhide HU) (by omega)
      have hur := (unhide hTo).own (unhide HU) (fun b hb h => h)
      obtain ⟨e1, e2, e3⟩ := held_get V G M k i hlt
      obtain ⟨va, vc, hv⟩ := own_shape (unhide HV i hlt)
      obtain ⟨ga, gc, hg⟩ := own_shape (unhide HG i hlt)
      have d1 : wo.cell? ⟨gu, i * 3, none⟩ = some (.slice va (N i) vc) := (hur.cellAt (i * 3) (by omega)).trans (hv ▸ e1)
      have d2 : wo.cell? ⟨gu, i * 3 + 1, none⟩ = some (.slice ga (N i + 40) gc) := (hur.cellAt (i * 3 + 1) (by omega)).trans (hg ▸ e2)
      have d3 : wo.cell? ⟨gu, i * 3 + 2, none⟩ = some (.int .i64 (M i)) := (hur.cellAt (i * 3 + 2) (by omega)).trans e3
      have hn := unhide HN i hlt
      have oV : Hid (wo.ownsRow 0 5 1 (.slice va (N i) vc) (N i) (marks [.int .u8 (bm (M i))] (N i))) := by
        have := (unhide hTo).own (unhide HV i hlt) (fun b hb h => h)
        rw [hv] at this
        exact this
      have oG : Hid (wo.ownsRow 0 5 1 (.slice ga (N i + 40) gc) (N i + 40) (marks [.int .u8 (bm (M i))] (N i + 40))) := by
        have := (unhide hTo).own (unhide HG i hlt) (fun b hb h => h)
        rw [hg] at this
        exact this
      clear hur e1 e2 e3 hv hg
      go_wp2
      obtain ⟨wH, hwH⟩ : ∃ wH, wH = wo.alloc (.cells #[.slice va (N i) vc, .slice ga (N i + 40) gc, .int .i64 (M i)] 114) := ⟨_, rfl⟩
      have q0 : wH.cell? ⟨wo.heap.size, 0, none⟩ = some (.slice va (N i) vc) := by rw [hwH]; simp
      have q1 : wH.cell? ⟨wo.heap.size, 1, none⟩ = some (.slice ga (N i + 40) gc) := by rw [hwH]; simp
      have q2 : wH.cell? ⟨wo.heap.size, 2, none⟩ = some (.int .i64 (M i)) := by rw [hwH]; simp
      have TH : Hid (Touch (fun _ => False) w wH) := by rw [hwH]; exact (unhide hTo).alloc _
      have hV' : Hid (wH.ownsRow 0 5 1 (.slice va (N i) vc) (N i) (marks [.int .u8 (bm (M i))] (N i))) := by rw [hwH]; exact (unhide oV).alloc _
      have hG' : Hid (wH.ownsRow 0 5 1 (.slice ga (N i + 40) gc) (N i + 40) (marks [.int .u8 (bm (M i))] (N i + 40))) := by rw [hwH]; exact (unhide oG).alloc _
      rw [← hwH]
      clear hwH d1 d2 d3 c3r oV oG
      go_loopw [5] (fun s4 wy => ∃ q : Nat, q ≤ N i + 40 ∧ s4 = .int .i64 q ∧ Hid (Touch (fun _ => False) wH wy)) (fun s4 _ => N i + 40 - (intOf s4).toNat)
      case atStart => exact ⟨0, Nat.zero_le _, rfl, Touch.refl _ _⟩
      case round =>
        obtain ⟨q, hq, rfl, hTy⟩ := hrel
        have q0' : wr.cell? ⟨wo.heap.size, 0, none⟩ = some (.slice va (N i) vc) := (unhide hTy).cell q0 (fun h => h)
        have q1' : wr.cell? ⟨wo.heap.size, 1, none⟩ = some (.slice ga (N i + 40) gc) := (unhide hTy).cell q1 (fun h => h)
        have q2' : wr.cell? ⟨wo.heap.size, 2, none⟩ = some (.int .i64 (M i)) := (unhide hTy).cell q2 (fun h => h)
        by_cases hqn : q < N i + 40
        · obtain ⟨x, hx⟩ : ∃ x, bm (M i) = x := ⟨_, rfl⟩
          have HC : Hid (∀ w, Calls Tryz.prog 110 #[.int .u8 x, .int .i64 (M i)] w fun e w' => e = .returned (.bool true) ∧ w' = w) := fun w => hx ▸ isByte_any (M i) w (unhide HM i hlt)
          have gG := unhide hG'
          have gV := unhide hV'
          rw [hx] at gG gV
          obtain ⟨g, rfl, _⟩ := row_at gG (by omega)
          have cg : wr.cell? ⟨g, q, none⟩ = some (.int .u8 x) := (unhide hTy).cell ((gG.cellAt q (by omega)).trans (by have := marks_get [.int .u8 x] (N i + 40) q 0 hqn (by simp); simpa using this)) (fun h => h)
          by_cases hqv : q < N i
          · obtain ⟨g', rfl, _⟩ := row_at gV (by omega)
            have cv : wr.cell? ⟨g', q, none⟩ = some (.int .u8 x) := (unhide hTy).cell ((gV.cellAt q (by omega)).trans (by have := marks_get [.int .u8 x] (N i) q 0 hqv (by simp); simpa using this)) (fun h => h)
            have hqv' : (q : Int) < (N i : Int) := by omega
            clear gG gV hx
            go_wp2
            go_quiet ((go_at_call 110; exact Calls.quiet_of_same (unhide HC _)))
            go_wp2
            go_roundw
            case rel => exact ⟨q + 1, by omega, by go_num, by exact (unhide hTy).drewN _⟩
            case measure => simp [intOf]; omega
          · have hqv' : ¬ (q : Int) < (N i : Int) := by omega
            clear gG gV hx
            go_wp2
            go_quiet ((go_at_call 110; exact Calls.quiet_of_same (unhide HC _)))
            go_wp2
            go_roundw
            case rel => exact ⟨q + 1, by omega, by go_num, by exact (unhide hTy).drewN _⟩
            case measure => simp [intOf]; omega
        · obtain rfl : q = N i + 40 := by omega
          have hTo2 : Hid (Touch (fun _ => False) w wr) := by
            show Touch _ _ _
            exact (unhide TH).trans (unhide hTy) (fun j _ hj => hj)
          clear hTy TH
          go_wp2
          go_roundw
          case rel => exact ⟨i + 1, by omega, by go_num, hTo2⟩
          case measure => simp [intOf]; omega
    · obtain rfl : i = k := by omega
      go_wp2
      go_ret
      exact ⟨rfl, unhide hTo⟩
end Go.Proofs.YtbofidpoajdcmaaGreatDoor.Bk
