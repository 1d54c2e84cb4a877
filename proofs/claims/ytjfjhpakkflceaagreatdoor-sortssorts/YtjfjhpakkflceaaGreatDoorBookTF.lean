import Derived.Test.YtjfjhpakkflceaaGreatDoorBookLook
import Derived.Test.YtjfjhpakkflceaaGreatDoorBookGrowF
import Derived.Test.YtjfjhpakkflceaaGreatDoorCalm
import Derived.Test.YtjfjhpakkflceaaGreatDoorBookKd
import Derived.Test.YtjfjhpakkflceaaGreatDoorBookWord
import Derived.Test.YtjfjhpakkflceaaGreatDoorRows
import Derived.Test.YtjfjhpakkflceaaGreatDoorBookPlain
import Derived.WalkLawsBesides
import Derived.BigQuiet
import Derived.Test.YtjfjhpakkflceaaGreatDoorBookKdT
import Derived.Test.YtjfjhpakkflceaaGreatDoorBookKeep
/- What lookFlag answers where every list is all marks. -/
namespace Go.Proofs.YtjfjhpakkflceaaGreatDoor.Bk
open Go.RowKit

set_option maxHeartbeats 1000000 in
set_option maxRecDepth 100000 in
theorem lookFlag_any (P k : Nat) (u : Value) (cur : List Value) (V G : Nat → Value) (M N : Nat → Nat) (w : World) (hB : Own w P cur) (h3 : cur[6]? = some u) (hu : w.ownsRow 0 116 3 u k (held V G M k))
    (hV : ∀ j, j < k → w.ownsRow 0 118 2 (V j) (N j) (marks [.int .u8 0, .string (wd (M j))] (N j))) (hG : ∀ j, j < k → w.ownsRow 0 118 2 (G j) (N j + 40) (marks [.int .u8 0, .string (wd (M j))] (N j + 40)))
    (hM : ∀ i, i < k → M i < 10) (hN : ∀ i, i < k → N i ≤ 4194304) (hk : k ≤ 1000000) :
    Calls Tryz.prog 67 #[.pointer (some ⟨P, 0, none⟩)] w fun e w' => e = .returned (.bool true) ∧ Touch (fun _ => False) w w' := by
  have c3 : w.cell? ⟨P, 6, none⟩ = some u := (hB.cellAt 6 (by omega)).trans h3
  have hPlt : P < w.heap.size := (own_block hB P rfl).1
  have HU := hide hu
  have HV := hide hV
  have HG := hide hG
  have HM := hide hM
  have HN := hide hN
  obtain ⟨ua, uc, rfl⟩ := own_shape hu
  clear hB hu hV hG hM hN h3
  go_enter Tryz.func67, Tryz.ntmps67
  go_wp2
  go_loopw [3] (fun s2 wr => ∃ i : Nat, i ≤ k ∧ s2 = .int .i64 i ∧ Hid (Touch (fun _ => False) w wr)) (fun s2 _ => k - (intOf s2).toNat)
  case atStart => exact ⟨0, Nat.zero_le _, rfl, Touch.refl _ _⟩
  case round =>
    obtain ⟨i, hik, rfl, hTo⟩ := hrel
    obtain ⟨wo, hwo⟩ : ∃ wo : World, wo = wr := ⟨_, rfl⟩
    subst hwo
    have c3r : wo.cell? ⟨P, 6, none⟩ = some (.slice ua k uc) := (unhide hTo).cell c3 (fun h => h)
    by_cases hlt : i < k
    · obtain ⟨gu, rfl, _⟩ := row_at (unhide HU) (by omega)
      have hur := (unhide hTo).own (unhide HU) (fun b hb h => h)
      obtain ⟨e1, e2, e3⟩ := held_get V G M k i hlt
      obtain ⟨va, vc, hv⟩ := own_shape (unhide HV i hlt)
      obtain ⟨ga, gc, hg⟩ := own_shape (unhide HG i hlt)
      have d1 : wo.cell? ⟨gu, i * 3, none⟩ = some (.slice va (N i) vc) := (hur.cellAt (i * 3) (by omega)).trans (hv ▸ e1)
      have d2 : wo.cell? ⟨gu, i * 3 + 1, none⟩ = some (.slice ga (N i + 40) gc) := (hur.cellAt (i * 3 + 1) (by omega)).trans (hg ▸ e2)
      have d3 : wo.cell? ⟨gu, i * 3 + 2, none⟩ = some (.int .i64 (M i)) := (hur.cellAt (i * 3 + 2) (by omega)).trans e3
      have hn := unhide HN i hlt
      have oV : Hid (wo.ownsRow 0 118 2 (.slice va (N i) vc) (N i) (marks [.int .u8 0, .string (wd (M i))] (N i))) := by
        have := (unhide hTo).own (unhide HV i hlt) (fun b hb h => h)
        rw [hv] at this
        exact this
      have oG : Hid (wo.ownsRow 0 118 2 (.slice ga (N i + 40) gc) (N i + 40) (marks [.int .u8 0, .string (wd (M i))] (N i + 40))) := by
        have := (unhide hTo).own (unhide HG i hlt) (fun b hb h => h)
        rw [hg] at this
        exact this
      clear hur e1 e2 e3 hv hg
      go_wp2
      obtain ⟨wH, hwH⟩ : ∃ wH, wH = wo.alloc (.cells #[.slice va (N i) vc, .slice ga (N i + 40) gc, .int .i64 (M i)] 116) := ⟨_, rfl⟩
      have q0 : wH.cell? ⟨wo.heap.size, 0, none⟩ = some (.slice va (N i) vc) := by rw [hwH]; simp
      have q1 : wH.cell? ⟨wo.heap.size, 1, none⟩ = some (.slice ga (N i + 40) gc) := by rw [hwH]; simp
      have q2 : wH.cell? ⟨wo.heap.size, 2, none⟩ = some (.int .i64 (M i)) := by rw [hwH]; simp
      have TH : Hid (Touch (fun _ => False) w wH) := by rw [hwH]; exact (unhide hTo).alloc _
      have hV' : Hid (wH.ownsRow 0 118 2 (.slice va (N i) vc) (N i) (marks [.int .u8 0, .string (wd (M i))] (N i))) := by rw [hwH]; exact (unhide oV).alloc _
      have hG' : Hid (wH.ownsRow 0 118 2 (.slice ga (N i + 40) gc) (N i + 40) (marks [.int .u8 0, .string (wd (M i))] (N i + 40))) := by rw [hwH]; exact (unhide oG).alloc _
      rw [← hwH]
      clear hwH d1 d2 d3 c3r oV oG
      go_loopw [5] (fun s4 wy => ∃ q : Nat, q ≤ N i + 40 ∧ s4 = .int .i64 q ∧ Hid (Touch (fun _ => False) wH wy)) (fun s4 _ => N i + 40 - (intOf s4).toNat)
      case atStart => exact ⟨0, Nat.zero_le _, rfl, Touch.refl _ _⟩
      case round =>
        obtain ⟨q, hq, rfl, hTy⟩ := hrel
        have q0' : wr.cell? ⟨wo.heap.size, 0, none⟩ = some (.slice va (N i) vc) := (unhide hTy).cell q0 (fun h => h)
        have q1' : wr.cell? ⟨wo.heap.size, 1, none⟩ = some (.slice ga (N i + 40) gc) := (unhide hTy).cell q1 (fun h => h)
        have q2' : wr.cell? ⟨wo.heap.size, 2, none⟩ = some (.int .i64 (M i)) := (unhide hTy).cell q2 (fun h => h)
        by_cases hqn : q < N i + 40
        · obtain ⟨x, hx⟩ : ∃ x, wd (M i) = x := ⟨_, rfl⟩
          have HC : Hid (∀ W, Touch (fun _ => False) wH W → Calls Tryz.prog 114 #[.agg #[.int .u8 0, .string x], .int .i64 (M i)] W fun e w' => e = .returned (.bool true) ∧ Touch (fun _ => False) wH w') := fun W hW => (hx ▸ isFlag_any (M i) W (unhide HM i hlt)).mono (fun _ _ h => ⟨h.1, hW.below h.2⟩)
          have gG := unhide hG'
          have gV := unhide hV'
          rw [hx] at gG gV
          obtain ⟨g, rfl, _⟩ := row_at gG (by omega)
          have cg1 : wH.cell? ⟨g, q * 2, none⟩ = some (.int .u8 0) := (gG.cellAt (q * 2) (by omega)).trans (by have := marks_get [.int .u8 0, .string x] (N i + 40) q 0 hqn (by simp); simpa using this)
          have cg2 : wH.cell? ⟨g, q * 2 + 1, none⟩ = some (.string x) := (gG.cellAt (q * 2 + 1) (by omega)).trans (by have := marks_get [.int .u8 0, .string x] (N i + 40) q 1 hqn (by simp); simpa using this)
          have cg1' := (unhide hTy).cell cg1 (fun h => h)
          have cg2' := (unhide hTy).cell cg2 (fun h => h)
          by_cases hqv : q < N i
          · obtain ⟨g', rfl, _⟩ := row_at gV (by omega)
            have cv1 : wH.cell? ⟨g', q * 2, none⟩ = some (.int .u8 0) := (gV.cellAt (q * 2) (by omega)).trans (by have := marks_get [.int .u8 0, .string x] (N i) q 0 hqv (by simp); simpa using this)
            have cv2 : wH.cell? ⟨g', q * 2 + 1, none⟩ = some (.string x) := (gV.cellAt (q * 2 + 1) (by omega)).trans (by have := marks_get [.int .u8 0, .string x] (N i) q 1 hqv (by simp); simpa using this)
            have cv1' := (unhide hTy).cell cv1 (fun h => h)
            have cv2' := (unhide hTy).cell cv2 (fun h => h)
            have hqv' : (q : Int) < (N i : Int) := by omega
            clear gG gV hx
            go_wp2
            have q0c : ∀ v : CW (Touch (fun _ => False) wH), v.W.cell? ⟨wo.heap.size, 0, none⟩ = some (.slice (some ⟨g', 0, none⟩) (N i) vc) := fun v => v.ok.cell q0 (fun h => h)
            have q1c : ∀ v : CW (Touch (fun _ => False) wH), v.W.cell? ⟨wo.heap.size, 1, none⟩ = some (.slice (some ⟨g, 0, none⟩) (N i + 40) gc) := fun v => v.ok.cell q1 (fun h => h)
            have q2c : ∀ v : CW (Touch (fun _ => False) wH), v.W.cell? ⟨wo.heap.size, 2, none⟩ = some (.int .i64 (M i)) := fun v => v.ok.cell q2 (fun h => h)
            have cg1c : ∀ v : CW (Touch (fun _ => False) wH), v.W.cell? ⟨g, q * 2, none⟩ = some (.int .u8 0) := fun v => v.ok.cell cg1 (fun h => h)
            have cg2c : ∀ v : CW (Touch (fun _ => False) wH), v.W.cell? ⟨g, q * 2 + 1, none⟩ = some (.string x) := fun v => v.ok.cell cg2 (fun h => h)
            have cv1c : ∀ v : CW (Touch (fun _ => False) wH), v.W.cell? ⟨g', q * 2, none⟩ = some (.int .u8 0) := fun v => v.ok.cell cv1 (fun h => h)
            have cv2c : ∀ v : CW (Touch (fun _ => False) wH), v.W.cell? ⟨g', q * 2 + 1, none⟩ = some (.string x) := fun v => v.ok.cell cv2 (fun h => h)
            clear q0' q1' q2' q0 q1 q2
            haveI : Nonempty (CW (Touch (fun _ => False) wH)) := ⟨⟨_, unhide hTy⟩⟩
            refine wp_region_calm (Touch (fun _ => False) wH) (by kernel_rfl) (by kernel_rfl) (unhide hTy).drew ?_
            repeat (go_big_quiet_step ((go_at_call 114; exact calm_of (unhide HC _ (CW.ok _)))))
            refine wpQuiet_nil ?_
            intro _ hw'
            obtain ⟨v, hw''⟩ := hw'
            subst hw''
            go_wp2
            go_roundw
            case rel => exact ⟨q + 1, by omega, by go_num, by exact v.ok⟩
            case measure => simp [intOf]; omega
          · have hqv' : ¬ (q : Int) < (N i : Int) := by omega
            clear gG gV hx
            go_wp2
            have q0c : ∀ v : CW (Touch (fun _ => False) wH), v.W.cell? ⟨wo.heap.size, 0, none⟩ = some (.slice va (N i) vc) := fun v => v.ok.cell q0 (fun h => h)
            have q1c : ∀ v : CW (Touch (fun _ => False) wH), v.W.cell? ⟨wo.heap.size, 1, none⟩ = some (.slice (some ⟨g, 0, none⟩) (N i + 40) gc) := fun v => v.ok.cell q1 (fun h => h)
            have q2c : ∀ v : CW (Touch (fun _ => False) wH), v.W.cell? ⟨wo.heap.size, 2, none⟩ = some (.int .i64 (M i)) := fun v => v.ok.cell q2 (fun h => h)
            have cg1c : ∀ v : CW (Touch (fun _ => False) wH), v.W.cell? ⟨g, q * 2, none⟩ = some (.int .u8 0) := fun v => v.ok.cell cg1 (fun h => h)
            have cg2c : ∀ v : CW (Touch (fun _ => False) wH), v.W.cell? ⟨g, q * 2 + 1, none⟩ = some (.string x) := fun v => v.ok.cell cg2 (fun h => h)
            clear q0' q1' q2' q0 q1 q2
            haveI : Nonempty (CW (Touch (fun _ => False) wH)) := ⟨⟨_, unhide hTy⟩⟩
            refine wp_region_calm (Touch (fun _ => False) wH) (by kernel_rfl) (by kernel_rfl) (unhide hTy).drew ?_
            repeat (go_big_quiet_step ((go_at_call 114; exact calm_of (unhide HC _ (CW.ok _)))))
            refine wpQuiet_nil ?_
            intro _ hw'
            obtain ⟨v, hw''⟩ := hw'
            subst hw''
            go_wp2
            go_roundw
            case rel => exact ⟨q + 1, by omega, by go_num, by exact v.ok⟩
            case measure => simp [intOf]; omega
        · obtain rfl : q = N i + 40 := by omega
          have hTo2 : Hid (Touch (fun _ => False) w wr) := by
            show Touch _ _ _
            exact (unhide TH).trans (unhide hTy) (fun j _ hj => hj)
          clear hTy TH
          go_wp2
          go_roundw
          case rel => exact ⟨i + 1, by omega, by go_num, hTo2⟩
          case measure => simp [intOf]; omega
    · obtain rfl : i = k := by omega
      go_wp2
      go_ret
      exact ⟨rfl, unhide hTo⟩
end Go.Proofs.YtjfjhpakkflceaaGreatDoor.Bk

/- fill, grow and look of flags, as steps of their kind. -/
namespace Go.Proofs.YtjfjhpakkflceaaGreatDoor.Bk
open Go.RowKit
/-- flags -/
abbrev kdF (u : Value) (k : Nat) (V : Nat → Value) (M N : Nat → Nat) (X : Nat → List Value) : Kd := ⟨116, 118, 2, fun m => [.int .u8 0, .string (wd m)], u, k, V, M, N, X⟩
theorem fillFlag_st (P k : Nat) (u : Value) (cur : List Value) (V : Nat → Value) (M N : Nat → Nat) (X : Nat → List Value) (w : World) (hB : Own w P cur) (h3 : cur[6]? = some u) (hd : (kdF u k V M N X).st 0 w) (ho : (kdF u k V M N X).ok) :
    Calls Tryz.prog 43 #[.pointer (some ⟨P, 0, none⟩)] w fun e w' => e = .returned (.tuple #[]) ∧ (kdF u k V M N X).st 1 w' ∧ Touch (kdF u k V M N X).bl w w' := by
  refine (fillFlag_any P k u cur V M N X w hB h3 hd.1 hd.2 ho.2.1 ho.2.2 ho.1).mono ?_
  rintro e w' ⟨rfl, h1, h2⟩
  exact ⟨rfl, ⟨h2.own hd.1 (fun b hb ⟨i, hi, e⟩ => own_ne (hd.2.own i hi) hd.1 (show (118 : Nat) ≠ 116 from by decide) b e hb), h1⟩, h2.mono (fun b _ h => .inl h)⟩
theorem growFlag_st (P k : Nat) (u : Value) (cur : List Value) (V : Nat → Value) (M N : Nat → Nat) (X : Nat → List Value) (w : World) (hB : Own w P cur) (h3 : cur[6]? = some u) (hd : (kdF u k V M N X).st 1 w) (ho : (kdF u k V M N X).ok) :
    Calls Tryz.prog 55 #[.pointer (some ⟨P, 0, none⟩)] w fun e w' => e = .returned (.tuple #[]) ∧ (kdF u k V M N X).st 2 w' ∧ Touch (kdF u k V M N X).bl w w' := by
  refine (growFlag_any P k u cur V M N w hB h3 hd.1 hd.2 ho.2.1 ho.2.2 ho.1).mono ?_
  rintro e w' ⟨rfl, ⟨G, h1, h2⟩, h3, h4⟩
  exact ⟨rfl, ⟨G, h1, h2, h3⟩, h4⟩
theorem lookFlag_st (P k : Nat) (u : Value) (cur : List Value) (V : Nat → Value) (M N : Nat → Nat) (X : Nat → List Value) (w : World) (hB : Own w P cur) (h3 : cur[6]? = some u) (hd : (kdF u k V M N X).st 2 w) (ho : (kdF u k V M N X).ok) :
    Calls Tryz.prog 67 #[.pointer (some ⟨P, 0, none⟩)] w fun e w' => e = .returned (.bool true) ∧ Touch (fun _ => False) w w' := by
  obtain ⟨G, h1, h2, h4⟩ := hd
  exact lookFlag_any P k u cur V G M N w hB h3 h1 h4 h2 ho.2.1 ho.2.2 ho.1
end Go.Proofs.YtjfjhpakkflceaaGreatDoor.Bk

/- fill, grow and look of a kind of which the Book holds no list. -/
namespace Go.Proofs.YtjfjhpakkflceaaGreatDoor.Bk
open Go.RowKit

theorem fillByte_none (P : Nat) (w : World) (h : w.cell? ⟨P, 1, none⟩ = some (.slice none 0 0)) :
    Calls Tryz.prog 38 #[.pointer (some ⟨P, 0, none⟩)] w fun e w' => e = .returned (.tuple #[]) ∧ w' = w := by
  go_enter Tryz.func38, Tryz.ntmps38
  go_wp2
  refine wp_loop_rounds 1 ?_
  rw [rounds_succ]
  go_wp2
  go_end0
  exact ⟨rfl, rfl⟩
theorem growByte_none (P : Nat) (w : World) (h : w.cell? ⟨P, 1, none⟩ = some (.slice none 0 0)) :
    Calls Tryz.prog 50 #[.pointer (some ⟨P, 0, none⟩)] w fun e w' => e = .returned (.tuple #[]) ∧ w' = w := by
  go_enter Tryz.func50, Tryz.ntmps50
  go_wp2
  refine wp_loop_rounds 1 ?_
  rw [rounds_succ]
  go_wp2
  go_end0
  exact ⟨rfl, rfl⟩
theorem lookByte_none (P : Nat) (w : World) (h : w.cell? ⟨P, 1, none⟩ = some (.slice none 0 0)) :
    Calls Tryz.prog 62 #[.pointer (some ⟨P, 0, none⟩)] w fun e w' => e = .returned (.bool true) ∧ w' = w := by
  go_enter Tryz.func62, Tryz.ntmps62
  go_wp2
  refine wp_loop_rounds 1 ?_
  rw [rounds_succ]
  go_wp2
  go_ret
  exact ⟨rfl, rfl⟩
theorem fillInt_none (P : Nat) (w : World) (h : w.cell? ⟨P, 2, none⟩ = some (.slice none 0 0)) :
    Calls Tryz.prog 39 #[.pointer (some ⟨P, 0, none⟩)] w fun e w' => e = .returned (.tuple #[]) ∧ w' = w := by
  go_enter Tryz.func39, Tryz.ntmps39
  go_wp2
  refine wp_loop_rounds 1 ?_
  rw [rounds_succ]
  go_wp2
  go_end0
  exact ⟨rfl, rfl⟩
theorem growInt_none (P : Nat) (w : World) (h : w.cell? ⟨P, 2, none⟩ = some (.slice none 0 0)) :
    Calls Tryz.prog 51 #[.pointer (some ⟨P, 0, none⟩)] w fun e w' => e = .returned (.tuple #[]) ∧ w' = w := by
  go_enter Tryz.func51, Tryz.ntmps51
  go_wp2
  refine wp_loop_rounds 1 ?_
  rw [rounds_succ]
  go_wp2
  go_end0
  exact ⟨rfl, rfl⟩
theorem lookInt_none (P : Nat) (w : World) (h : w.cell? ⟨P, 2, none⟩ = some (.slice none 0 0)) :
    Calls Tryz.prog 63 #[.pointer (some ⟨P, 0, none⟩)] w fun e w' => e = .returned (.bool true) ∧ w' = w := by
  go_enter Tryz.func63, Tryz.ntmps63
  go_wp2
  refine wp_loop_rounds 1 ?_
  rw [rounds_succ]
  go_wp2
  go_ret
  exact ⟨rfl, rfl⟩
theorem fillText_none (P : Nat) (w : World) (h : w.cell? ⟨P, 3, none⟩ = some (.slice none 0 0)) :
    Calls Tryz.prog 40 #[.pointer (some ⟨P, 0, none⟩)] w fun e w' => e = .returned (.tuple #[]) ∧ w' = w := by
  go_enter Tryz.func40, Tryz.ntmps40
  go_wp2
  refine wp_loop_rounds 1 ?_
  rw [rounds_succ]
  go_wp2
  go_end0
  exact ⟨rfl, rfl⟩
theorem growText_none (P : Nat) (w : World) (h : w.cell? ⟨P, 3, none⟩ = some (.slice none 0 0)) :
    Calls Tryz.prog 52 #[.pointer (some ⟨P, 0, none⟩)] w fun e w' => e = .returned (.tuple #[]) ∧ w' = w := by
  go_enter Tryz.func52, Tryz.ntmps52
  go_wp2
  refine wp_loop_rounds 1 ?_
  rw [rounds_succ]
  go_wp2
  go_end0
  exact ⟨rfl, rfl⟩
theorem lookText_none (P : Nat) (w : World) (h : w.cell? ⟨P, 3, none⟩ = some (.slice none 0 0)) :
    Calls Tryz.prog 64 #[.pointer (some ⟨P, 0, none⟩)] w fun e w' => e = .returned (.bool true) ∧ w' = w := by
  go_enter Tryz.func64, Tryz.ntmps64
  go_wp2
  refine wp_loop_rounds 1 ?_
  rw [rounds_succ]
  go_wp2
  go_ret
  exact ⟨rfl, rfl⟩
theorem fillBlob_none (P : Nat) (w : World) (h : w.cell? ⟨P, 4, none⟩ = some (.slice none 0 0)) :
    Calls Tryz.prog 41 #[.pointer (some ⟨P, 0, none⟩)] w fun e w' => e = .returned (.tuple #[]) ∧ w' = w := by
  go_enter Tryz.func41, Tryz.ntmps41
  go_wp2
  refine wp_loop_rounds 1 ?_
  rw [rounds_succ]
  go_wp2
  go_end0
  exact ⟨rfl, rfl⟩
theorem growBlob_none (P : Nat) (w : World) (h : w.cell? ⟨P, 4, none⟩ = some (.slice none 0 0)) :
    Calls Tryz.prog 53 #[.pointer (some ⟨P, 0, none⟩)] w fun e w' => e = .returned (.tuple #[]) ∧ w' = w := by
  go_enter Tryz.func53, Tryz.ntmps53
  go_wp2
  refine wp_loop_rounds 1 ?_
  rw [rounds_succ]
  go_wp2
  go_end0
  exact ⟨rfl, rfl⟩
theorem lookBlob_none (P : Nat) (w : World) (h : w.cell? ⟨P, 4, none⟩ = some (.slice none 0 0)) :
    Calls Tryz.prog 65 #[.pointer (some ⟨P, 0, none⟩)] w fun e w' => e = .returned (.bool true) ∧ w' = w := by
  go_enter Tryz.func65, Tryz.ntmps65
  go_wp2
  refine wp_loop_rounds 1 ?_
  rw [rounds_succ]
  go_wp2
  go_ret
  exact ⟨rfl, rfl⟩
theorem fillRow_none (P : Nat) (w : World) (h : w.cell? ⟨P, 5, none⟩ = some (.slice none 0 0)) :
    Calls Tryz.prog 42 #[.pointer (some ⟨P, 0, none⟩)] w fun e w' => e = .returned (.tuple #[]) ∧ w' = w := by
  go_enter Tryz.func42, Tryz.ntmps42
  go_wp2
  refine wp_loop_rounds 1 ?_
  rw [rounds_succ]
  go_wp2
  go_end0
  exact ⟨rfl, rfl⟩
theorem growRow_none (P : Nat) (w : World) (h : w.cell? ⟨P, 5, none⟩ = some (.slice none 0 0)) :
    Calls Tryz.prog 54 #[.pointer (some ⟨P, 0, none⟩)] w fun e w' => e = .returned (.tuple #[]) ∧ w' = w := by
  go_enter Tryz.func54, Tryz.ntmps54
  go_wp2
  refine wp_loop_rounds 1 ?_
  rw [rounds_succ]
  go_wp2
  go_end0
  exact ⟨rfl, rfl⟩
theorem lookRow_none (P : Nat) (w : World) (h : w.cell? ⟨P, 5, none⟩ = some (.slice none 0 0)) :
    Calls Tryz.prog 66 #[.pointer (some ⟨P, 0, none⟩)] w fun e w' => e = .returned (.bool true) ∧ w' = w := by
  go_enter Tryz.func66, Tryz.ntmps66
  go_wp2
  refine wp_loop_rounds 1 ?_
  rw [rounds_succ]
  go_wp2
  go_ret
  exact ⟨rfl, rfl⟩
theorem fillFlag_none (P : Nat) (w : World) (h : w.cell? ⟨P, 6, none⟩ = some (.slice none 0 0)) :
    Calls Tryz.prog 43 #[.pointer (some ⟨P, 0, none⟩)] w fun e w' => e = .returned (.tuple #[]) ∧ w' = w := by
  go_enter Tryz.func43, Tryz.ntmps43
  go_wp2
  refine wp_loop_rounds 1 ?_
  rw [rounds_succ]
  go_wp2
  go_end0
  exact ⟨rfl, rfl⟩
theorem growFlag_none (P : Nat) (w : World) (h : w.cell? ⟨P, 6, none⟩ = some (.slice none 0 0)) :
    Calls Tryz.prog 55 #[.pointer (some ⟨P, 0, none⟩)] w fun e w' => e = .returned (.tuple #[]) ∧ w' = w := by
  go_enter Tryz.func55, Tryz.ntmps55
  go_wp2
  refine wp_loop_rounds 1 ?_
  rw [rounds_succ]
  go_wp2
  go_end0
  exact ⟨rfl, rfl⟩
theorem lookFlag_none (P : Nat) (w : World) (h : w.cell? ⟨P, 6, none⟩ = some (.slice none 0 0)) :
    Calls Tryz.prog 67 #[.pointer (some ⟨P, 0, none⟩)] w fun e w' => e = .returned (.bool true) ∧ w' = w := by
  go_enter Tryz.func67, Tryz.ntmps67
  go_wp2
  refine wp_loop_rounds 1 ?_
  rw [rounds_succ]
  go_wp2
  go_ret
  exact ⟨rfl, rfl⟩
theorem fillRange_none (P : Nat) (w : World) (h : w.cell? ⟨P, 7, none⟩ = some (.slice none 0 0)) :
    Calls Tryz.prog 44 #[.pointer (some ⟨P, 0, none⟩)] w fun e w' => e = .returned (.tuple #[]) ∧ w' = w := by
  go_enter Tryz.func44, Tryz.ntmps44
  go_wp2
  refine wp_loop_rounds 1 ?_
  rw [rounds_succ]
  go_wp2
  go_end0
  exact ⟨rfl, rfl⟩
theorem growRange_none (P : Nat) (w : World) (h : w.cell? ⟨P, 7, none⟩ = some (.slice none 0 0)) :
    Calls Tryz.prog 56 #[.pointer (some ⟨P, 0, none⟩)] w fun e w' => e = .returned (.tuple #[]) ∧ w' = w := by
  go_enter Tryz.func56, Tryz.ntmps56
  go_wp2
  refine wp_loop_rounds 1 ?_
  rw [rounds_succ]
  go_wp2
  go_end0
  exact ⟨rfl, rfl⟩
theorem lookRange_none (P : Nat) (w : World) (h : w.cell? ⟨P, 7, none⟩ = some (.slice none 0 0)) :
    Calls Tryz.prog 68 #[.pointer (some ⟨P, 0, none⟩)] w fun e w' => e = .returned (.bool true) ∧ w' = w := by
  go_enter Tryz.func68, Tryz.ntmps68
  go_wp2
  refine wp_loop_rounds 1 ?_
  rw [rounds_succ]
  go_wp2
  go_ret
  exact ⟨rfl, rfl⟩
theorem fillChange_none (P : Nat) (w : World) (h : w.cell? ⟨P, 8, none⟩ = some (.slice none 0 0)) :
    Calls Tryz.prog 45 #[.pointer (some ⟨P, 0, none⟩)] w fun e w' => e = .returned (.tuple #[]) ∧ w' = w := by
  go_enter Tryz.func45, Tryz.ntmps45
  go_wp2
  refine wp_loop_rounds 1 ?_
  rw [rounds_succ]
  go_wp2
  go_end0
  exact ⟨rfl, rfl⟩
theorem growChange_none (P : Nat) (w : World) (h : w.cell? ⟨P, 8, none⟩ = some (.slice none 0 0)) :
    Calls Tryz.prog 57 #[.pointer (some ⟨P, 0, none⟩)] w fun e w' => e = .returned (.tuple #[]) ∧ w' = w := by
  go_enter Tryz.func57, Tryz.ntmps57
  go_wp2
  refine wp_loop_rounds 1 ?_
  rw [rounds_succ]
  go_wp2
  go_end0
  exact ⟨rfl, rfl⟩
theorem lookChange_none (P : Nat) (w : World) (h : w.cell? ⟨P, 8, none⟩ = some (.slice none 0 0)) :
    Calls Tryz.prog 69 #[.pointer (some ⟨P, 0, none⟩)] w fun e w' => e = .returned (.bool true) ∧ w' = w := by
  go_enter Tryz.func69, Tryz.ntmps69
  go_wp2
  refine wp_loop_rounds 1 ?_
  rw [rounds_succ]
  go_wp2
  go_ret
  exact ⟨rfl, rfl⟩
theorem fillEntry_none (P : Nat) (w : World) (h : w.cell? ⟨P, 9, none⟩ = some (.slice none 0 0)) :
    Calls Tryz.prog 46 #[.pointer (some ⟨P, 0, none⟩)] w fun e w' => e = .returned (.tuple #[]) ∧ w' = w := by
  go_enter Tryz.func46, Tryz.ntmps46
  go_wp2
  refine wp_loop_rounds 1 ?_
  rw [rounds_succ]
  go_wp2
  go_end0
  exact ⟨rfl, rfl⟩
theorem growEntry_none (P : Nat) (w : World) (h : w.cell? ⟨P, 9, none⟩ = some (.slice none 0 0)) :
    Calls Tryz.prog 58 #[.pointer (some ⟨P, 0, none⟩)] w fun e w' => e = .returned (.tuple #[]) ∧ w' = w := by
  go_enter Tryz.func58, Tryz.ntmps58
  go_wp2
  refine wp_loop_rounds 1 ?_
  rw [rounds_succ]
  go_wp2
  go_end0
  exact ⟨rfl, rfl⟩
theorem lookEntry_none (P : Nat) (w : World) (h : w.cell? ⟨P, 9, none⟩ = some (.slice none 0 0)) :
    Calls Tryz.prog 70 #[.pointer (some ⟨P, 0, none⟩)] w fun e w' => e = .returned (.bool true) ∧ w' = w := by
  go_enter Tryz.func70, Tryz.ntmps70
  go_wp2
  refine wp_loop_rounds 1 ?_
  rw [rounds_succ]
  go_wp2
  go_ret
  exact ⟨rfl, rfl⟩
theorem fillNode_none (P : Nat) (w : World) (h : w.cell? ⟨P, 10, none⟩ = some (.slice none 0 0)) :
    Calls Tryz.prog 47 #[.pointer (some ⟨P, 0, none⟩)] w fun e w' => e = .returned (.tuple #[]) ∧ w' = w := by
  go_enter Tryz.func47, Tryz.ntmps47
  go_wp2
  refine wp_loop_rounds 1 ?_
  rw [rounds_succ]
  go_wp2
  go_end0
  exact ⟨rfl, rfl⟩
theorem growNode_none (P : Nat) (w : World) (h : w.cell? ⟨P, 10, none⟩ = some (.slice none 0 0)) :
    Calls Tryz.prog 59 #[.pointer (some ⟨P, 0, none⟩)] w fun e w' => e = .returned (.tuple #[]) ∧ w' = w := by
  go_enter Tryz.func59, Tryz.ntmps59
  go_wp2
  refine wp_loop_rounds 1 ?_
  rw [rounds_succ]
  go_wp2
  go_end0
  exact ⟨rfl, rfl⟩
theorem lookNode_none (P : Nat) (w : World) (h : w.cell? ⟨P, 10, none⟩ = some (.slice none 0 0)) :
    Calls Tryz.prog 71 #[.pointer (some ⟨P, 0, none⟩)] w fun e w' => e = .returned (.bool true) ∧ w' = w := by
  go_enter Tryz.func71, Tryz.ntmps71
  go_wp2
  refine wp_loop_rounds 1 ?_
  rw [rounds_succ]
  go_wp2
  go_ret
  exact ⟨rfl, rfl⟩
theorem fillCall_none (P : Nat) (w : World) (h : w.cell? ⟨P, 11, none⟩ = some (.slice none 0 0)) :
    Calls Tryz.prog 48 #[.pointer (some ⟨P, 0, none⟩)] w fun e w' => e = .returned (.tuple #[]) ∧ w' = w := by
  go_enter Tryz.func48, Tryz.ntmps48
  go_wp2
  refine wp_loop_rounds 1 ?_
  rw [rounds_succ]
  go_wp2
  go_end0
  exact ⟨rfl, rfl⟩
theorem growCall_none (P : Nat) (w : World) (h : w.cell? ⟨P, 11, none⟩ = some (.slice none 0 0)) :
    Calls Tryz.prog 60 #[.pointer (some ⟨P, 0, none⟩)] w fun e w' => e = .returned (.tuple #[]) ∧ w' = w := by
  go_enter Tryz.func60, Tryz.ntmps60
  go_wp2
  refine wp_loop_rounds 1 ?_
  rw [rounds_succ]
  go_wp2
  go_end0
  exact ⟨rfl, rfl⟩
theorem lookCall_none (P : Nat) (w : World) (h : w.cell? ⟨P, 11, none⟩ = some (.slice none 0 0)) :
    Calls Tryz.prog 72 #[.pointer (some ⟨P, 0, none⟩)] w fun e w' => e = .returned (.bool true) ∧ w' = w := by
  go_enter Tryz.func72, Tryz.ntmps72
  go_wp2
  refine wp_loop_rounds 1 ?_
  rw [rounds_succ]
  go_wp2
  go_ret
  exact ⟨rfl, rfl⟩
theorem fillStep_none (P : Nat) (w : World) (h : w.cell? ⟨P, 12, none⟩ = some (.slice none 0 0)) :
    Calls Tryz.prog 49 #[.pointer (some ⟨P, 0, none⟩)] w fun e w' => e = .returned (.tuple #[]) ∧ w' = w := by
  go_enter Tryz.func49, Tryz.ntmps49
  go_wp2
  refine wp_loop_rounds 1 ?_
  rw [rounds_succ]
  go_wp2
  go_end0
  exact ⟨rfl, rfl⟩
theorem growStep_none (P : Nat) (w : World) (h : w.cell? ⟨P, 12, none⟩ = some (.slice none 0 0)) :
    Calls Tryz.prog 61 #[.pointer (some ⟨P, 0, none⟩)] w fun e w' => e = .returned (.tuple #[]) ∧ w' = w := by
  go_enter Tryz.func61, Tryz.ntmps61
  go_wp2
  refine wp_loop_rounds 1 ?_
  rw [rounds_succ]
  go_wp2
  go_end0
  exact ⟨rfl, rfl⟩
theorem lookStep_none (P : Nat) (w : World) (h : w.cell? ⟨P, 12, none⟩ = some (.slice none 0 0)) :
    Calls Tryz.prog 73 #[.pointer (some ⟨P, 0, none⟩)] w fun e w' => e = .returned (.bool true) ∧ w' = w := by
  go_enter Tryz.func73, Tryz.ntmps73
  go_wp2
  refine wp_loop_rounds 1 ?_
  rw [rounds_succ]
  go_wp2
  go_ret
  exact ⟨rfl, rfl⟩
end Go.Proofs.YtjfjhpakkflceaaGreatDoor.Bk

/- Apart, from what fill, grow and look of the twelve kinds leave. -/
namespace Go.Proofs.YtjfjhpakkflceaaGreatDoor.Bk
open Go.RowKit

set_option maxHeartbeats 2000000 in
set_option maxRecDepth 100000 in
theorem apart_any (P : Nat) (S : Nat → World → Prop) (w : World) (hs : S 0 w)
    (h0 : ∀ w, S 0 w → Calls Tryz.prog 38 #[.pointer (some ⟨P, 0, none⟩)] w fun e w' => e = .returned (.tuple #[]) ∧ S 1 w')
    (h1 : ∀ w, S 1 w → Calls Tryz.prog 39 #[.pointer (some ⟨P, 0, none⟩)] w fun e w' => e = .returned (.tuple #[]) ∧ S 2 w')
    (h2 : ∀ w, S 2 w → Calls Tryz.prog 40 #[.pointer (some ⟨P, 0, none⟩)] w fun e w' => e = .returned (.tuple #[]) ∧ S 3 w')
    (h3 : ∀ w, S 3 w → Calls Tryz.prog 41 #[.pointer (some ⟨P, 0, none⟩)] w fun e w' => e = .returned (.tuple #[]) ∧ S 4 w')
    (h4 : ∀ w, S 4 w → Calls Tryz.prog 42 #[.pointer (some ⟨P, 0, none⟩)] w fun e w' => e = .returned (.tuple #[]) ∧ S 5 w')
    (h5 : ∀ w, S 5 w → Calls Tryz.prog 43 #[.pointer (some ⟨P, 0, none⟩)] w fun e w' => e = .returned (.tuple #[]) ∧ S 6 w')
    (h6 : ∀ w, S 6 w → Calls Tryz.prog 44 #[.pointer (some ⟨P, 0, none⟩)] w fun e w' => e = .returned (.tuple #[]) ∧ S 7 w')
    (h7 : ∀ w, S 7 w → Calls Tryz.prog 45 #[.pointer (some ⟨P, 0, none⟩)] w fun e w' => e = .returned (.tuple #[]) ∧ S 8 w')
    (h8 : ∀ w, S 8 w → Calls Tryz.prog 46 #[.pointer (some ⟨P, 0, none⟩)] w fun e w' => e = .returned (.tuple #[]) ∧ S 9 w')
    (h9 : ∀ w, S 9 w → Calls Tryz.prog 47 #[.pointer (some ⟨P, 0, none⟩)] w fun e w' => e = .returned (.tuple #[]) ∧ S 10 w')
    (h10 : ∀ w, S 10 w → Calls Tryz.prog 48 #[.pointer (some ⟨P, 0, none⟩)] w fun e w' => e = .returned (.tuple #[]) ∧ S 11 w')
    (h11 : ∀ w, S 11 w → Calls Tryz.prog 49 #[.pointer (some ⟨P, 0, none⟩)] w fun e w' => e = .returned (.tuple #[]) ∧ S 12 w')
    (h12 : ∀ w, S 12 w → Calls Tryz.prog 50 #[.pointer (some ⟨P, 0, none⟩)] w fun e w' => e = .returned (.tuple #[]) ∧ S 13 w')
    (h13 : ∀ w, S 13 w → Calls Tryz.prog 51 #[.pointer (some ⟨P, 0, none⟩)] w fun e w' => e = .returned (.tuple #[]) ∧ S 14 w')
    (h14 : ∀ w, S 14 w → Calls Tryz.prog 52 #[.pointer (some ⟨P, 0, none⟩)] w fun e w' => e = .returned (.tuple #[]) ∧ S 15 w')
    (h15 : ∀ w, S 15 w → Calls Tryz.prog 53 #[.pointer (some ⟨P, 0, none⟩)] w fun e w' => e = .returned (.tuple #[]) ∧ S 16 w')
    (h16 : ∀ w, S 16 w → Calls Tryz.prog 54 #[.pointer (some ⟨P, 0, none⟩)] w fun e w' => e = .returned (.tuple #[]) ∧ S 17 w')
    (h17 : ∀ w, S 17 w → Calls Tryz.prog 55 #[.pointer (some ⟨P, 0, none⟩)] w fun e w' => e = .returned (.tuple #[]) ∧ S 18 w')
    (h18 : ∀ w, S 18 w → Calls Tryz.prog 56 #[.pointer (some ⟨P, 0, none⟩)] w fun e w' => e = .returned (.tuple #[]) ∧ S 19 w')
    (h19 : ∀ w, S 19 w → Calls Tryz.prog 57 #[.pointer (some ⟨P, 0, none⟩)] w fun e w' => e = .returned (.tuple #[]) ∧ S 20 w')
    (h20 : ∀ w, S 20 w → Calls Tryz.prog 58 #[.pointer (some ⟨P, 0, none⟩)] w fun e w' => e = .returned (.tuple #[]) ∧ S 21 w')
    (h21 : ∀ w, S 21 w → Calls Tryz.prog 59 #[.pointer (some ⟨P, 0, none⟩)] w fun e w' => e = .returned (.tuple #[]) ∧ S 22 w')
    (h22 : ∀ w, S 22 w → Calls Tryz.prog 60 #[.pointer (some ⟨P, 0, none⟩)] w fun e w' => e = .returned (.tuple #[]) ∧ S 23 w')
    (h23 : ∀ w, S 23 w → Calls Tryz.prog 61 #[.pointer (some ⟨P, 0, none⟩)] w fun e w' => e = .returned (.tuple #[]) ∧ S 24 w')
    (h24 : ∀ w, S 24 w → Calls Tryz.prog 62 #[.pointer (some ⟨P, 0, none⟩)] w fun e w' => e = .returned (.bool true) ∧ S 25 w')
    (h25 : ∀ w, S 25 w → Calls Tryz.prog 63 #[.pointer (some ⟨P, 0, none⟩)] w fun e w' => e = .returned (.bool true) ∧ S 26 w')
    (h26 : ∀ w, S 26 w → Calls Tryz.prog 64 #[.pointer (some ⟨P, 0, none⟩)] w fun e w' => e = .returned (.bool true) ∧ S 27 w')
    (h27 : ∀ w, S 27 w → Calls Tryz.prog 65 #[.pointer (some ⟨P, 0, none⟩)] w fun e w' => e = .returned (.bool true) ∧ S 28 w')
    (h28 : ∀ w, S 28 w → Calls Tryz.prog 66 #[.pointer (some ⟨P, 0, none⟩)] w fun e w' => e = .returned (.bool true) ∧ S 29 w')
    (h29 : ∀ w, S 29 w → Calls Tryz.prog 67 #[.pointer (some ⟨P, 0, none⟩)] w fun e w' => e = .returned (.bool true) ∧ S 30 w')
    (h30 : ∀ w, S 30 w → Calls Tryz.prog 68 #[.pointer (some ⟨P, 0, none⟩)] w fun e w' => e = .returned (.bool true) ∧ S 31 w')
    (h31 : ∀ w, S 31 w → Calls Tryz.prog 69 #[.pointer (some ⟨P, 0, none⟩)] w fun e w' => e = .returned (.bool true) ∧ S 32 w')
    (h32 : ∀ w, S 32 w → Calls Tryz.prog 70 #[.pointer (some ⟨P, 0, none⟩)] w fun e w' => e = .returned (.bool true) ∧ S 33 w')
    (h33 : ∀ w, S 33 w → Calls Tryz.prog 71 #[.pointer (some ⟨P, 0, none⟩)] w fun e w' => e = .returned (.bool true) ∧ S 34 w')
    (h34 : ∀ w, S 34 w → Calls Tryz.prog 72 #[.pointer (some ⟨P, 0, none⟩)] w fun e w' => e = .returned (.bool true) ∧ S 35 w')
    (h35 : ∀ w, S 35 w → Calls Tryz.prog 73 #[.pointer (some ⟨P, 0, none⟩)] w fun e w' => e = .returned (.bool true) ∧ S 36 w') :
    Calls Tryz.prog 13 #[.pointer (some ⟨P, 0, none⟩)] w fun e w' => e = .returned (.bool true) ∧ S 36 w' := by
  have H0 := hide h0
  have H1 := hide h1
  have H2 := hide h2
  have H3 := hide h3
  have H4 := hide h4
  have H5 := hide h5
  have H6 := hide h6
  have H7 := hide h7
  have H8 := hide h8
  have H9 := hide h9
  have H10 := hide h10
  have H11 := hide h11
  have H12 := hide h12
  have H13 := hide h13
  have H14 := hide h14
  have H15 := hide h15
  have H16 := hide h16
  have H17 := hide h17
  have H18 := hide h18
  have H19 := hide h19
  have H20 := hide h20
  have H21 := hide h21
  have H22 := hide h22
  have H23 := hide h23
  have H24 := hide h24
  have H25 := hide h25
  have H26 := hide h26
  have H27 := hide h27
  have H28 := hide h28
  have H29 := hide h29
  have H30 := hide h30
  have H31 := hide h31
  have H32 := hide h32
  have H33 := hide h33
  have H34 := hide h34
  have H35 := hide h35
  have HS := hide hs
  clear hs h0 h1 h2 h3 h4 h5 h6 h7 h8 h9 h10 h11 h12 h13 h14 h15 h16 h17 h18 h19 h20 h21 h22 h23 h24 h25 h26 h27 h28 h29 h30 h31 h32 h33 h34 h35
  go_enter Tryz.func13, Tryz.ntmps13
  go_wp2_with fail
  refine (unhide H0 _ (unhide HS)).mono ?_
  clear HS H0
  rintro e w' ⟨rfl, hs⟩
  have HS := hide hs
  clear hs
  go_wp2_with fail
  refine (unhide H1 _ (unhide HS)).mono ?_
  clear HS H1
  rintro e w' ⟨rfl, hs⟩
  have HS := hide hs
  clear hs
  go_wp2_with fail
  refine (unhide H2 _ (unhide HS)).mono ?_
  clear HS H2
  rintro e w' ⟨rfl, hs⟩
  have HS := hide hs
  clear hs
  go_wp2_with fail
  refine (unhide H3 _ (unhide HS)).mono ?_
  clear HS H3
  rintro e w' ⟨rfl, hs⟩
  have HS := hide hs
  clear hs
  go_wp2_with fail
  refine (unhide H4 _ (unhide HS)).mono ?_
  clear HS H4
  rintro e w' ⟨rfl, hs⟩
  have HS := hide hs
  clear hs
  go_wp2_with fail
  refine (unhide H5 _ (unhide HS)).mono ?_
  clear HS H5
  rintro e w' ⟨rfl, hs⟩
  have HS := hide hs
  clear hs
  go_wp2_with fail
  refine (unhide H6 _ (unhide HS)).mono ?_
  clear HS H6
  rintro e w' ⟨rfl, hs⟩
  have HS := hide hs
  clear hs
  go_wp2_with fail
  refine (unhide H7 _ (unhide HS)).mono ?_
  clear HS H7
  rintro e w' ⟨rfl, hs⟩
  have HS := hide hs
  clear hs
  go_wp2_with fail
  refine (unhide H8 _ (unhide HS)).mono ?_
  clear HS H8
  rintro e w' ⟨rfl, hs⟩
  have HS := hide hs
  clear hs
  go_wp2_with fail
  refine (unhide H9 _ (unhide HS)).mono ?_
  clear HS H9
  rintro e w' ⟨rfl, hs⟩
  have HS := hide hs
  clear hs
  go_wp2_with fail
  refine (unhide H10 _ (unhide HS)).mono ?_
  clear HS H10
  rintro e w' ⟨rfl, hs⟩
  have HS := hide hs
  clear hs
  go_wp2_with fail
  refine (unhide H11 _ (unhide HS)).mono ?_
  clear HS H11
  rintro e w' ⟨rfl, hs⟩
  have HS := hide hs
  clear hs
  go_wp2_with fail
  refine (unhide H12 _ (unhide HS)).mono ?_
  clear HS H12
  rintro e w' ⟨rfl, hs⟩
  have HS := hide hs
  clear hs
  go_wp2_with fail
  refine (unhide H13 _ (unhide HS)).mono ?_
  clear HS H13
  rintro e w' ⟨rfl, hs⟩
  have HS := hide hs
  clear hs
  go_wp2_with fail
  refine (unhide H14 _ (unhide HS)).mono ?_
  clear HS H14
  rintro e w' ⟨rfl, hs⟩
  have HS := hide hs
  clear hs
  go_wp2_with fail
  refine (unhide H15 _ (unhide HS)).mono ?_
  clear HS H15
  rintro e w' ⟨rfl, hs⟩
  have HS := hide hs
  clear hs
  go_wp2_with fail
  refine (unhide H16 _ (unhide HS)).mono ?_
  clear HS H16
  rintro e w' ⟨rfl, hs⟩
  have HS := hide hs
  clear hs
  go_wp2_with fail
  refine (unhide H17 _ (unhide HS)).mono ?_
  clear HS H17
  rintro e w' ⟨rfl, hs⟩
  have HS := hide hs
  clear hs
  go_wp2_with fail
  refine (unhide H18 _ (unhide HS)).mono ?_
  clear HS H18
  rintro e w' ⟨rfl, hs⟩
  have HS := hide hs
  clear hs
  go_wp2_with fail
  refine (unhide H19 _ (unhide HS)).mono ?_
  clear HS H19
  rintro e w' ⟨rfl, hs⟩
  have HS := hide hs
  clear hs
  go_wp2_with fail
  refine (unhide H20 _ (unhide HS)).mono ?_
  clear HS H20
  rintro e w' ⟨rfl, hs⟩
  have HS := hide hs
  clear hs
  go_wp2_with fail
  refine (unhide H21 _ (unhide HS)).mono ?_
  clear HS H21
  rintro e w' ⟨rfl, hs⟩
  have HS := hide hs
  clear hs
  go_wp2_with fail
  refine (unhide H22 _ (unhide HS)).mono ?_
  clear HS H22
  rintro e w' ⟨rfl, hs⟩
  have HS := hide hs
  clear hs
  go_wp2_with fail
  refine (unhide H23 _ (unhide HS)).mono ?_
  clear HS H23
  rintro e w' ⟨rfl, hs⟩
  have HS := hide hs
  clear hs
  go_wp2_with fail
  refine (unhide H24 _ (unhide HS)).mono ?_
  clear HS H24
  rintro e w' ⟨rfl, hs⟩
  have HS := hide hs
  clear hs
  go_wp2_with fail
  refine (unhide H25 _ (unhide HS)).mono ?_
  clear HS H25
  rintro e w' ⟨rfl, hs⟩
  have HS := hide hs
  clear hs
  go_wp2_with fail
  refine (unhide H26 _ (unhide HS)).mono ?_
  clear HS H26
  rintro e w' ⟨rfl, hs⟩
  have HS := hide hs
  clear hs
  go_wp2_with fail
  refine (unhide H27 _ (unhide HS)).mono ?_
  clear HS H27
  rintro e w' ⟨rfl, hs⟩
  have HS := hide hs
  clear hs
  go_wp2_with fail
  refine (unhide H28 _ (unhide HS)).mono ?_
  clear HS H28
  rintro e w' ⟨rfl, hs⟩
  have HS := hide hs
  clear hs
  go_wp2_with fail
  refine (unhide H29 _ (unhide HS)).mono ?_
  clear HS H29
  rintro e w' ⟨rfl, hs⟩
  have HS := hide hs
  clear hs
  go_wp2_with fail
  refine (unhide H30 _ (unhide HS)).mono ?_
  clear HS H30
  rintro e w' ⟨rfl, hs⟩
  have HS := hide hs
  clear hs
  go_wp2_with fail
  refine (unhide H31 _ (unhide HS)).mono ?_
  clear HS H31
  rintro e w' ⟨rfl, hs⟩
  have HS := hide hs
  clear hs
  go_wp2_with fail
  refine (unhide H32 _ (unhide HS)).mono ?_
  clear HS H32
  rintro e w' ⟨rfl, hs⟩
  have HS := hide hs
  clear hs
  go_wp2_with fail
  refine (unhide H33 _ (unhide HS)).mono ?_
  clear HS H33
  rintro e w' ⟨rfl, hs⟩
  have HS := hide hs
  clear hs
  go_wp2_with fail
  refine (unhide H34 _ (unhide HS)).mono ?_
  clear HS H34
  rintro e w' ⟨rfl, hs⟩
  have HS := hide hs
  clear hs
  go_wp2_with fail
  refine (unhide H35 _ (unhide HS)).mono ?_
  clear HS H35
  rintro e w' ⟨rfl, hs⟩
  have HS := hide hs
  clear hs
  go_wp2_with fail
  go_ret
  exact ⟨rfl, unhide HS⟩
end Go.Proofs.YtjfjhpakkflceaaGreatDoor.Bk

/- Apart of a Book that holds lists of these kinds alone: Text Flag. -/
namespace Go.Proofs.YtjfjhpakkflceaaGreatDoor.Bk
open Go.RowKit

/-- what holds ahead of call number c of Apart -/
structure Aps (P : Nat) (cur : List Value) (dT dF : Kd) (w0 : World) (c : Nat) (w : World) : Prop where
  book : Own w P cur
  touch : Touch (fun b => dT.bl b ∨ dF.bl b) w0 w
  kT : dT.st (if c ≤ 2 then 0 else if c ≤ 14 then 1 else 2) w
  kF : dF.st (if c ≤ 5 then 0 else if c ≤ 17 then 1 else 2) w

set_option maxHeartbeats 1000000 in
theorem apart_ok (P : Nat) (cur : List Value) (uT : Value) (kT : Nat) (VT : Nat → Value) (MT NT : Nat → Nat) (XT : Nat → List Value) (uF : Value) (kF : Nat) (VF : Nat → Value) (MF NF : Nat → Nat) (XF : Nat → List Value) (w0 : World) (hB : Own w0 P cur)
    (cByte : cur[1]? = some (.slice none 0 0))
    (cInt : cur[2]? = some (.slice none 0 0))
    (cBlob : cur[4]? = some (.slice none 0 0))
    (cRow : cur[5]? = some (.slice none 0 0))
    (cRange : cur[7]? = some (.slice none 0 0))
    (cChange : cur[8]? = some (.slice none 0 0))
    (cEntry : cur[9]? = some (.slice none 0 0))
    (cNode : cur[10]? = some (.slice none 0 0))
    (cCall : cur[11]? = some (.slice none 0 0))
    (cStep : cur[12]? = some (.slice none 0 0))
    (cText : cur[3]? = some uT) (oT : (kdT uT kT VT MT NT XT).ok) (sT : (kdT uT kT VT MT NT XT).st 0 w0)
    (cFlag : cur[6]? = some uF) (oF : (kdF uF kF VF MF NF XF).ok) (sF : (kdF uF kF VF MF NF XF).st 0 w0)
    : Calls Tryz.prog 13 #[.pointer (some ⟨P, 0, none⟩)] w0 fun e w' => e = .returned (.bool true) ∧ Touch (fun b => (kdT uT kT VT MT NT XT).bl b ∨ (kdF uF kF VF MF NF XF).bl b) w0 w' := by
  refine (apart_any P (fun c w => Aps P cur (kdT uT kT VT MT NT XT) (kdF uF kF VF MF NF XF) w0 c w) w0 ⟨hB, Touch.refl _ _, sT, sF⟩
    (fun w h => (fillByte_none P w ((h.book.cellAt 1 (by decide)).trans cByte)).mono (fun e w' hr => ⟨hr.1, by rw [hr.2]; exact ⟨h.book, h.touch, h.kT, h.kF⟩⟩))
    (fun w h => (fillInt_none P w ((h.book.cellAt 2 (by decide)).trans cInt)).mono (fun e w' hr => ⟨hr.1, by rw [hr.2]; exact ⟨h.book, h.touch, h.kT, h.kF⟩⟩))
    (fun w h => (fillText_st P kT uT cur VT MT NT XT w h.book cText h.kT oT).mono (fun e w' hr => ⟨hr.1, (Kd.bl_ty h.kT).own hr.2.2 h.book (by simp), h.touch.trans hr.2.2 (fun b _ hb => .inl (hb)), hr.2.1, Kd.keep (Kd.bl_ty h.kT) hr.2.2 (by simp) (by simp) h.kF⟩))
    (fun w h => (fillBlob_none P w ((h.book.cellAt 4 (by decide)).trans cBlob)).mono (fun e w' hr => ⟨hr.1, by rw [hr.2]; exact ⟨h.book, h.touch, h.kT, h.kF⟩⟩))
    (fun w h => (fillRow_none P w ((h.book.cellAt 5 (by decide)).trans cRow)).mono (fun e w' hr => ⟨hr.1, by rw [hr.2]; exact ⟨h.book, h.touch, h.kT, h.kF⟩⟩))
    (fun w h => (fillFlag_st P kF uF cur VF MF NF XF w h.book cFlag h.kF oF).mono (fun e w' hr => ⟨hr.1, (Kd.bl_ty h.kF).own hr.2.2 h.book (by simp), h.touch.trans hr.2.2 (fun b _ hb => .inr (hb)), Kd.keep (Kd.bl_ty h.kF) hr.2.2 (by simp) (by simp) h.kT, hr.2.1⟩))
    (fun w h => (fillRange_none P w ((h.book.cellAt 7 (by decide)).trans cRange)).mono (fun e w' hr => ⟨hr.1, by rw [hr.2]; exact ⟨h.book, h.touch, h.kT, h.kF⟩⟩))
    (fun w h => (fillChange_none P w ((h.book.cellAt 8 (by decide)).trans cChange)).mono (fun e w' hr => ⟨hr.1, by rw [hr.2]; exact ⟨h.book, h.touch, h.kT, h.kF⟩⟩))
    (fun w h => (fillEntry_none P w ((h.book.cellAt 9 (by decide)).trans cEntry)).mono (fun e w' hr => ⟨hr.1, by rw [hr.2]; exact ⟨h.book, h.touch, h.kT, h.kF⟩⟩))
    (fun w h => (fillNode_none P w ((h.book.cellAt 10 (by decide)).trans cNode)).mono (fun e w' hr => ⟨hr.1, by rw [hr.2]; exact ⟨h.book, h.touch, h.kT, h.kF⟩⟩))
    (fun w h => (fillCall_none P w ((h.book.cellAt 11 (by decide)).trans cCall)).mono (fun e w' hr => ⟨hr.1, by rw [hr.2]; exact ⟨h.book, h.touch, h.kT, h.kF⟩⟩))
    (fun w h => (fillStep_none P w ((h.book.cellAt 12 (by decide)).trans cStep)).mono (fun e w' hr => ⟨hr.1, by rw [hr.2]; exact ⟨h.book, h.touch, h.kT, h.kF⟩⟩))
    (fun w h => (growByte_none P w ((h.book.cellAt 1 (by decide)).trans cByte)).mono (fun e w' hr => ⟨hr.1, by rw [hr.2]; exact ⟨h.book, h.touch, h.kT, h.kF⟩⟩))
    (fun w h => (growInt_none P w ((h.book.cellAt 2 (by decide)).trans cInt)).mono (fun e w' hr => ⟨hr.1, by rw [hr.2]; exact ⟨h.book, h.touch, h.kT, h.kF⟩⟩))
    (fun w h => (growText_st P kT uT cur VT MT NT XT w h.book cText h.kT oT).mono (fun e w' hr => ⟨hr.1, (Kd.bl_ty h.kT).own hr.2.2 h.book (by simp), h.touch.trans hr.2.2 (fun b _ hb => .inl (hb)), hr.2.1, Kd.keep (Kd.bl_ty h.kT) hr.2.2 (by simp) (by simp) h.kF⟩))
    (fun w h => (growBlob_none P w ((h.book.cellAt 4 (by decide)).trans cBlob)).mono (fun e w' hr => ⟨hr.1, by rw [hr.2]; exact ⟨h.book, h.touch, h.kT, h.kF⟩⟩))
    (fun w h => (growRow_none P w ((h.book.cellAt 5 (by decide)).trans cRow)).mono (fun e w' hr => ⟨hr.1, by rw [hr.2]; exact ⟨h.book, h.touch, h.kT, h.kF⟩⟩))
    (fun w h => (growFlag_st P kF uF cur VF MF NF XF w h.book cFlag h.kF oF).mono (fun e w' hr => ⟨hr.1, (Kd.bl_ty h.kF).own hr.2.2 h.book (by simp), h.touch.trans hr.2.2 (fun b _ hb => .inr (hb)), Kd.keep (Kd.bl_ty h.kF) hr.2.2 (by simp) (by simp) h.kT, hr.2.1⟩))
    (fun w h => (growRange_none P w ((h.book.cellAt 7 (by decide)).trans cRange)).mono (fun e w' hr => ⟨hr.1, by rw [hr.2]; exact ⟨h.book, h.touch, h.kT, h.kF⟩⟩))
    (fun w h => (growChange_none P w ((h.book.cellAt 8 (by decide)).trans cChange)).mono (fun e w' hr => ⟨hr.1, by rw [hr.2]; exact ⟨h.book, h.touch, h.kT, h.kF⟩⟩))
    (fun w h => (growEntry_none P w ((h.book.cellAt 9 (by decide)).trans cEntry)).mono (fun e w' hr => ⟨hr.1, by rw [hr.2]; exact ⟨h.book, h.touch, h.kT, h.kF⟩⟩))
    (fun w h => (growNode_none P w ((h.book.cellAt 10 (by decide)).trans cNode)).mono (fun e w' hr => ⟨hr.1, by rw [hr.2]; exact ⟨h.book, h.touch, h.kT, h.kF⟩⟩))
    (fun w h => (growCall_none P w ((h.book.cellAt 11 (by decide)).trans cCall)).mono (fun e w' hr => ⟨hr.1, by rw [hr.2]; exact ⟨h.book, h.touch, h.kT, h.kF⟩⟩))
    (fun w h => (growStep_none P w ((h.book.cellAt 12 (by decide)).trans cStep)).mono (fun e w' hr => ⟨hr.1, by rw [hr.2]; exact ⟨h.book, h.touch, h.kT, h.kF⟩⟩))
    (fun w h => (lookByte_none P w ((h.book.cellAt 1 (by decide)).trans cByte)).mono (fun e w' hr => ⟨hr.1, by rw [hr.2]; exact ⟨h.book, h.touch, h.kT, h.kF⟩⟩))
    (fun w h => (lookInt_none P w ((h.book.cellAt 2 (by decide)).trans cInt)).mono (fun e w' hr => ⟨hr.1, by rw [hr.2]; exact ⟨h.book, h.touch, h.kT, h.kF⟩⟩))
    (fun w h => (lookText_st P kT uT cur VT MT NT XT w h.book cText h.kT oT).mono (fun e w' hr => ⟨hr.1, (Tys.none _).own hr.2 h.book (fun h => h), h.touch.trans hr.2 (fun b _ hb => hb.elim), Kd.keep (Tys.none _) hr.2 (fun h => h) (fun h => h) h.kT, Kd.keep (Tys.none _) hr.2 (fun h => h) (fun h => h) h.kF⟩))
    (fun w h => (lookBlob_none P w ((h.book.cellAt 4 (by decide)).trans cBlob)).mono (fun e w' hr => ⟨hr.1, by rw [hr.2]; exact ⟨h.book, h.touch, h.kT, h.kF⟩⟩))
    (fun w h => (lookRow_none P w ((h.book.cellAt 5 (by decide)).trans cRow)).mono (fun e w' hr => ⟨hr.1, by rw [hr.2]; exact ⟨h.book, h.touch, h.kT, h.kF⟩⟩))
    (fun w h => (lookFlag_st P kF uF cur VF MF NF XF w h.book cFlag h.kF oF).mono (fun e w' hr => ⟨hr.1, (Tys.none _).own hr.2 h.book (fun h => h), h.touch.trans hr.2 (fun b _ hb => hb.elim), Kd.keep (Tys.none _) hr.2 (fun h => h) (fun h => h) h.kT, Kd.keep (Tys.none _) hr.2 (fun h => h) (fun h => h) h.kF⟩))
    (fun w h => (lookRange_none P w ((h.book.cellAt 7 (by decide)).trans cRange)).mono (fun e w' hr => ⟨hr.1, by rw [hr.2]; exact ⟨h.book, h.touch, h.kT, h.kF⟩⟩))
    (fun w h => (lookChange_none P w ((h.book.cellAt 8 (by decide)).trans cChange)).mono (fun e w' hr => ⟨hr.1, by rw [hr.2]; exact ⟨h.book, h.touch, h.kT, h.kF⟩⟩))
    (fun w h => (lookEntry_none P w ((h.book.cellAt 9 (by decide)).trans cEntry)).mono (fun e w' hr => ⟨hr.1, by rw [hr.2]; exact ⟨h.book, h.touch, h.kT, h.kF⟩⟩))
    (fun w h => (lookNode_none P w ((h.book.cellAt 10 (by decide)).trans cNode)).mono (fun e w' hr => ⟨hr.1, by rw [hr.2]; exact ⟨h.book, h.touch, h.kT, h.kF⟩⟩))
    (fun w h => (lookCall_none P w ((h.book.cellAt 11 (by decide)).trans cCall)).mono (fun e w' hr => ⟨hr.1, by rw [hr.2]; exact ⟨h.book, h.touch, h.kT, h.kF⟩⟩))
    (fun w h => (lookStep_none P w ((h.book.cellAt 12 (by decide)).trans cStep)).mono (fun e w' hr => ⟨hr.1, by rw [hr.2]; exact ⟨h.book, h.touch, h.kT, h.kF⟩⟩))).mono ?_
  rintro e w' ⟨rfl, h⟩
  exact ⟨rfl, h.touch⟩
end Go.Proofs.YtjfjhpakkflceaaGreatDoor.Bk

/- What Texts leaves: the Book holds one list of texts more. -/
namespace Go.Proofs.YtjfjhpakkflceaaGreatDoor.Bk
open Go.RowKit

set_option maxHeartbeats 400000 in
theorem Texts_any (B P : Nat) (n k : Nat) (u : Value) (cur hc : List Value) (la : Option Addr) (ll lc : Nat) (w : World) (hB : Own w P cur) (h0 : cur[0]? = some (.int .i64 n)) (h3 : cur[3]? = some u) (hu : w.ownsRow B 97 3 u k hc)
    (hBs : B ≤ w.heap.size) (hn : n ≤ 1000000) (hk : k ≤ 1000000) :
    Calls Tryz.prog 12 #[.pointer (some ⟨P, 0, none⟩), .slice la ll lc] w fun e w' => e = .returned (.tuple #[]) ∧ ∃ u', Own w' P ((cur.set 0 (.int .i64 ((n + 1 : Nat) : Int))).set 3 u') ∧
      w'.ownsRow B 97 3 u' (k + 1) (hc ++ [.slice la ll lc, .slice none 0 0, .int .i64 ((n + 1 : Nat) : Int)]) ∧ Touch (fun b => b = P ∨ u.ownBlock = some b) w w' := by
  have HC := hide (keepText_any B P n k u cur hc la ll lc w hB h0 h3 hu hBs hn hk)
  clear hB h0 h3 hu
  go_enter Tryz.func12, Tryz.ntmps12
  go_wp2_with fail
  refine (unhide HC).mono ?_
  rintro e w' ⟨rfl, h⟩
  have H := hide h
  clear h
  go_wp2_with fail
  go_end0
  exact ⟨rfl, unhide H⟩
end Go.Proofs.YtjfjhpakkflceaaGreatDoor.Bk

/- A Book that is given lists of texts and of flags, one behind the other, and then asked whether they are apart. -/
namespace Go.Proofs.YtjfjhpakkflceaaGreatDoor.Bk
open Go.RowKit

/-- a list that was given: itself, its mark, its length, its cells -/
structure Kept where
  v : Value
  m : Nat
  n : Nat
  xs : List Value
def kz : Kept := ⟨.slice none 0 0, 0, 0, []⟩
abbrev kv (L : List Kept) (i : Nat) : Value := (L.getD i kz).v
abbrev km (L : List Kept) (i : Nat) : Nat := (L.getD i kz).m
abbrev kn (L : List Kept) (i : Nat) : Nat := (L.getD i kz).n
abbrev kx (L : List Kept) (i : Nat) : List Value := (L.getD i kz).xs
abbrev kh (L : List Kept) : List Value := held (kv L) (fun _ => .slice none 0 0) (km L) L.length

theorem held_congr {V V' G G' : Nat → Value} {M M' : Nat → Nat} {k : Nat} (h : ∀ i, i < k → V i = V' i ∧ G i = G' i ∧ M i = M' i) : held V G M k = held V' G' M' k := by
  induction k with
  | zero => rfl
  | succ k ih =>
    obtain ⟨h1, h2, h3⟩ := h k (by omega)
    simp only [held, h1, h2, h3, ih (fun i hi => h i (by omega))]
theorem kh_snoc (L : List Kept) (x : Kept) : kh (L ++ [x]) = kh L ++ [x.v, .slice none 0 0, .int .i64 (x.m : Int)] := by
  have hg : ∀ i, i < L.length → (L ++ [x]).getD i kz = L.getD i kz := fun i hi => by simp [List.getD, List.getElem?_append_left hi]
  have hl : (L ++ [x]).getD L.length kz = x := by simp [List.getD]
  show held _ _ _ (L ++ [x]).length = _
  rw [List.length_append]
  show held _ _ _ L.length ++ _ = _
  rw [held_congr (V' := kv L) (G' := fun _ => .slice none 0 0) (M' := km L) (fun i hi => ⟨by rw [kv, hg i hi], rfl, by rw [km, hg i hi]⟩)]
  rw [kv, km, hl]

/-- w' is w but for the Book's own blocks, all of them at B or above -/
def Kp (B : Nat) (w w' : World) : Prop := ∃ S, Touch S w w' ∧ Tys (fun e => e = 44 ∨ e = 97 ∨ e = 116) S w ∧ ∀ b, S b → B ≤ b
theorem Kp.text {B : Nat} {w w' : World} {base s n : Nat} {v : Value} {xs : List Value} (h : Kp B w w') (ho : w.ownsRow base 9 s v n xs) : w'.ownsRow base 9 s v n xs := by
  obtain ⟨S, h1, h2, _⟩ := h
  exact h2.own h1 ho (by decide)
theorem Kp.flag {B : Nat} {w w' : World} {base s n : Nat} {v : Value} {xs : List Value} (h : Kp B w w') (ho : w.ownsRow base 118 s v n xs) : w'.ownsRow base 118 s v n xs := by
  obtain ⟨S, h1, h2, _⟩ := h
  exact h2.own h1 ho (by decide)
theorem Kp.below {B : Nat} {w w' : World} (h : Kp B w w') (hB : B ≤ w.heap.size) : Below B w w' := by
  obtain ⟨S, h1, _, h3⟩ := h
  exact h1.toBelow (fun k hk hs => by have := h3 k hs; omega) hB

/-- a Book at P that was given the texts LT and the flags LF -/
structure BTF (B P n : Nat) (LT LF : List Kept) (w : World) : Prop where
  lo : B ≤ P
  hi : B ≤ w.heap.size
  bk : ∃ cur uT uF, Own w P cur ∧ cur[0]? = some (.int .i64 n) ∧ (∀ j, j < 13 → j ≠ 0 → j ≠ 3 → j ≠ 6 → cur[j]? = some (.slice none 0 0)) ∧ cur[3]? = some uT ∧ cur[6]? = some uF ∧
    w.ownsRow B 97 3 uT LT.length (kh LT) ∧ w.ownsRow B 116 3 uF LF.length (kh LF)

theorem own_lo {w : World} {base : Nat} {e : TypeId} {s : Nat} {v : Value} {n : Nat} {xs : List Value} (h : w.ownsRow base e s v n xs) : ∀ k, v.ownBlock = some k → base ≤ k := by
  intro k hk
  rcases h.2 with ⟨rfl, _⟩ | ⟨g, cap, cur, rfl, hb, _⟩
  · simp [Value.ownBlock] at hk
  · simp [Value.ownBlock] at hk
    subst hk
    exact hb

theorem own_nil (w : World) (B : Nat) (e : TypeId) (s : Nat) : w.ownsRow B e s (.slice none 0 0) 0 [] := ⟨by simp, .inl ⟨rfl, rfl⟩⟩

theorem own_new (w : World) (P : Nat) (hP : P = w.heap.size) : Own (w.alloc (Obj.cells #[.int .i64 0, .slice none 0 0, .slice none 0 0, .slice none 0 0, .slice none 0 0, .slice none 0 0, .slice none 0 0, .slice none 0 0, .slice none 0 0, .slice none 0 0, .slice none 0 0, .slice none 0 0, .slice none 0 0] 44)) P
    [.int .i64 0, .slice none 0 0, .slice none 0 0, .slice none 0 0, .slice none 0 0, .slice none 0 0, .slice none 0 0, .slice none 0 0, .slice none 0 0, .slice none 0 0, .slice none 0 0, .slice none 0 0, .slice none 0 0] := by
  subst hP
  exact World.ownsRow_lit w _ 1 (Nat.zero_le _) (by unfold maxLen; omega) rfl

theorem BTF.start {B P : Nat} {w : World} (hB : Own w P [.int .i64 0, .slice none 0 0, .slice none 0 0, .slice none 0 0, .slice none 0 0, .slice none 0 0, .slice none 0 0, .slice none 0 0, .slice none 0 0, .slice none 0 0, .slice none 0 0, .slice none 0 0, .slice none 0 0]) (hP : B ≤ P) (hw : B ≤ w.heap.size) : BTF B P 0 [] [] w := by
  refine ⟨hP, hw, _, .slice none 0 0, .slice none 0 0, hB, rfl, ?_, rfl, rfl, own_nil _ _ _ _, own_nil _ _ _ _⟩
  intro j hj h0 h3 h6
  match j, hj with
  | 1, _ | 2, _ | 4, _ | 5, _ | 7, _ | 8, _ | 9, _ | 10, _ | 11, _ | 12, _ => rfl
  | 0, _ => exact absurd rfl h0
  | 3, _ => exact absurd rfl h3
  | 6, _ => exact absurd rfl h6

theorem texts_step (B P n : Nat) (LT LF : List Kept) (w : World) (h : BTF B P n LT LF w) (v : Value) (ln : Nat) (xs : List Value) (e : TypeId) (s : Nat) (hv : w.ownsRow B e s v ln xs) (hn : n ≤ 1000) (hl : LT.length ≤ 1000) :
    Calls Tryz.prog 12 #[.pointer (some ⟨P, 0, none⟩), v] w fun e w' => e = .returned (.tuple #[]) ∧ BTF B P (n + 1) (LT ++ [⟨v, n + 1, ln, xs⟩]) LF w' ∧ Kp B w w' := by
  obtain ⟨lo, hi, cur, uT, uF, hO, h0, hj, h3, h6, rT, rF⟩ := h
  obtain ⟨a, cap, rfl⟩ := own_shape hv
  refine (Texts_any B P n LT.length uT cur (kh LT) a ln cap w hO h0 h3 rT hi (by omega) (by omega)).mono ?_
  rintro e w' ⟨rfl, u', hO', rT', ht⟩
  have hty : Tys (fun e => e = 44 ∨ e = 97 ∨ e = 116) (fun b => b = P ∨ uT.ownBlock = some b) w := by
    rintro b (rfl | hb)
    · obtain ⟨_, c, hc⟩ := own_block hO b rfl
      exact ⟨c, _, .inl rfl, hc⟩
    · obtain ⟨_, c, hc⟩ := own_block rT b hb
      exact ⟨c, _, .inr (.inl rfl), hc⟩
  have hlen : cur.length = 13 := hO.1
  refine ⟨rfl, ⟨lo, Nat.le_trans hi ht.size, _, u', uF, hO', ?_, ?_, ?_, ?_, ?_, ?_⟩, _, ht, hty, ?_⟩
  · rw [List.getElem?_set_ne (by decide), List.getElem?_set_self (by omega)]
  · intro j h1 h2 h4 h5
    rw [List.getElem?_set_ne (by omega), List.getElem?_set_ne (by omega)]
    exact hj j h1 h2 h4 h5
  · rw [List.getElem?_set_self (by simp; omega)]
  · rw [List.getElem?_set_ne (by decide), List.getElem?_set_ne (by decide)]
    exact h6
  · rw [kh_snoc, List.length_append]
    exact rT'
  · refine ht.own rF (fun b hb hs => ?_)
    rcases hs with rfl | hs
    · exact own_ne rF hO (by decide) b hb rfl
    · exact own_ne rF rT (by decide) b hb hs
  · rintro b (rfl | hb)
    · exact lo
    · exact own_lo rT b hb

/-- the lists that were given are rows at B or above, no two of them in one block, and not too long -/
structure Given (B : Nat) (e : TypeId) (s : Nat) (L : List Kept) (w : World) : Prop where
  own : ∀ x ∈ L, w.ownsRow B e s x.v x.n x.xs ∧ x.m < 10 ∧ x.n ≤ 4194304
  ap : L.Pairwise (fun x y => ∀ b, x.v.ownBlock = some b → y.v.ownBlock = some b → False)

theorem kz_mem (L : List Kept) (i : Nat) (h : i < L.length) : L.getD i kz ∈ L := by
  rw [List.getD, List.getElem?_eq_getElem h]
  exact List.getElem_mem h
theorem Given.rows {B : Nat} {e : TypeId} {s : Nat} {L : List Kept} {w : World} (h : Given B e s L w) : Rows1 w e s L.length (kv L) (kn L) (kx L) := by
  refine ⟨fun i hi => own_base (h.own _ (kz_mem L i hi)).1 (Nat.zero_le _), fun i j hi hj hne b h1 h2 => ?_⟩
  have hp := List.pairwise_iff_getElem.1 h.ap
  simp only [kv, List.getD, List.getElem?_eq_getElem hi, List.getElem?_eq_getElem hj, Option.getD_some] at h1 h2
  rcases Nat.lt_or_gt_of_ne hne with hlt | hgt
  · exact hp i j hi hj hlt b h1 h2
  · exact hp j i hj hi hgt b h2 h1

theorem apart_step (B P n : Nat) (LT LF : List Kept) (w : World) (h : BTF B P n LT LF w) (gT : Given B 9 1 LT w) (gF : Given B 118 2 LF w) (hT : LT.length ≤ 1000) (hF : LF.length ≤ 1000) :
    Calls Tryz.prog 13 #[.pointer (some ⟨P, 0, none⟩)] w fun e w' => e = .returned (.bool true) ∧ Below B w w' := by
  obtain ⟨lo, hi, cur, uT, uF, hO, h0, hj, h3, h6, rT, rF⟩ := h
  refine (apart_ok P cur uT LT.length (kv LT) (km LT) (kn LT) (kx LT) uF LF.length (kv LF) (km LF) (kn LF) (kx LF) w hO
    (hj 1 (by decide) (by decide) (by decide) (by decide)) (hj 2 (by decide) (by decide) (by decide) (by decide)) (hj 4 (by decide) (by decide) (by decide) (by decide)) (hj 5 (by decide) (by decide) (by decide) (by decide)) (hj 7 (by decide) (by decide) (by decide) (by decide)) (hj 8 (by decide) (by decide) (by decide) (by decide)) (hj 9 (by decide) (by decide) (by decide) (by decide)) (hj 10 (by decide) (by decide) (by decide) (by decide)) (hj 11 (by decide) (by decide) (by decide) (by decide)) (hj 12 (by decide) (by decide) (by decide) (by decide))
    h3 ⟨by show LT.length ≤ _; omega, fun i hi => (gT.own _ (kz_mem LT i hi)).2.1, fun i hi => (gT.own _ (kz_mem LT i hi)).2.2⟩ ⟨own_base rT (Nat.zero_le _), gT.rows⟩
    h6 ⟨by show LF.length ≤ _; omega, fun i hi => (gF.own _ (kz_mem LF i hi)).2.1, fun i hi => (gF.own _ (kz_mem LF i hi)).2.2⟩ ⟨own_base rF (Nat.zero_le _), gF.rows⟩).mono ?_
  rintro e w' ⟨rfl, ht⟩
  refine ⟨rfl, ht.toBelow (fun b hb hs => ?_) hi⟩
  rcases hs with (⟨i, hi, e⟩ | e) | (⟨i, hi, e⟩ | e)
  · have := own_lo (gT.own _ (kz_mem LT i hi)).1 b e; omega
  · have := own_lo rT b e; omega
  · have := own_lo (gF.own _ (kz_mem LF i hi)).1 b e; omega
  · have := own_lo rF b e; omega
end Go.Proofs.YtjfjhpakkflceaaGreatDoor.Bk
