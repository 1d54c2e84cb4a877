/- What the document's bracket and closing answer. -/
import Derived.Test.YtelijbnamiefcaaGlRefT
namespace Go.Proofs.Ytelijbnamiefcaa.Gl
open Go.RowKit

/-- so far as the others are turned -/
def turned (p : UInt8 → Bool) (k : Nat) (d : UInt8) : Bool := if d.toNat < k then !p d else p d
theorem turned_step (p : UInt8 → Bool) (k : Nat) (hk : k < 256) (d : UInt8) : (if d = UInt8.ofNat k then !p (UInt8.ofNat k) else turned p k d) = turned p (k + 1) d := by
  have hn : (UInt8.ofNat k).toNat = k := by simp; omega
  unfold turned
  by_cases e : d = UInt8.ofNat k
  · rw [if_pos e, if_pos (by rw [e, hn]; omega), e]
  · rw [if_neg e]
    have : d.toNat ≠ k := fun e2 => e (by rw [← e2]; simp)
    by_cases h : d.toNat < k
    · rw [if_pos h, if_pos (by omega)]
    · rw [if_neg h, if_neg (by omega)]
theorem turned_at (p : UInt8 → Bool) (k : Nat) (hk : k < 256) : turned p k (UInt8.ofNat k) = p (UInt8.ofNat k) := by
  have hn : (UInt8.ofNat k).toNat = k := by simp; omega
  unfold turned
  rw [hn, if_neg (by omega)]
set_option maxHeartbeats 1000000 in
set_option maxRecDepth 100000 in
theorem rbracket_any (s : ByteArray) (not : Bool) (w : World) (hs : s.size ≤ 5000) :
    Calls Try.prog 29 #[.string s, .bool not] w fun e w' => e = .returned (.agg (rcs false (fun c => ins (bs s) c != not))) ∧ Below w.heap.size w w' := by
  obtain ⟨hzero, hinf⟩ := zero_of_info Try.infoRT2
  obtain ⟨z, hz⟩ : ∃ z, z = rcs false zp := ⟨_, rfl⟩
  rw [← hz] at hzero
  have H0 := hide (rt_two w z hz)
  clear hinf hz
  go_enter Try.func29, Try.ntmps29
  go_wp2_with fail
  go_loopw [6] (fun v6 wr => ∃ (k : Nat) (p : UInt8 → Bool), k ≤ s.size ∧ v6 = .int .i64 k ∧ Hid (∀ c, ins (bs s) c = (p c || ins ((bs s).drop k) c)) ∧ Hid (Rt wr (w.heap.size + 1) false p) ∧ Hid (Rt wr w.heap.size false zp) ∧ Hid (Below w.heap.size w wr)) (fun v6 _ => s.size - (intOf v6).toNat)
  case atStart => exact ⟨0, zp, Nat.zero_le _, rfl, fun c => by simp [zp], (unhide H0).2.1, (unhide H0).1, (unhide H0).2.2⟩
  case round =>
    clear H0 hzero
    obtain ⟨k, p, hk, rfl, hI, hT, hR, hB⟩ := hrel
    by_cases hlt : k < s.size
    · have hlt' : (k : Int) < (s.size : Int) := by omega
      have ea := hide (bs_at s k hlt)
      have one : Hid ((∀ m b t, (bs s).drop (k + 1) = m :: b :: t → m ≠ 45) → ∀ c, ins (bs s) c = ((if c = s[k] then true else p c) || ins ((bs s).drop (k + 1)) c)) := fun h c => by
        rw [unhide hI, unhide ea, ins_one _ _ _ h, ← Bool.or_assoc]
        congr 1
        by_cases e : c = s[k]
        · rw [if_pos e, decide_eq_true e.symm]; simp
        · rw [if_neg e, decide_eq_false (fun e2 => e e2.symm)]; simp
      have hcell := (unhide hT).cell s[k]
      have hfz := (unhide hT).frozen (1 + s[k].toNat)
      have h256 : (s[k].toNat : Int) < 256 := by have := s[k].toNat_lt; omega
      have hT1 := hide ((unhide hT).set s[k] true)
      have hR1 : Hid (Rt (wr.setCell ⟨w.heap.size + 1, 1 + s[k].toNat, none⟩ (.bool true)) w.heap.size false zp) := (unhide hR).other _ _ (by simp)
      have hB1 : Hid (Below w.heap.size w (wr.setCell ⟨w.heap.size + 1, 1 + s[k].toNat, none⟩ (.bool true))) := (unhide hB).setCell (p := ⟨w.heap.size + 1, 1 + s[k].toNat, none⟩) (Nat.le_succ _) _
      by_cases h3 : k + 2 < s.size
      · have h3' : (k : Int) + 2 < (s.size : Int) := by omega
        by_cases h45 : s[k + 1] = 45
        · have hJ : Hid (∀ c, ins (bs s) c = ((p c || bt (s[k]) (s[k + 2]) c) || ins ((bs s).drop (k + 3)) c)) := fun c => by
            rw [unhide hI, unhide ea, bs_at s (k + 1) (by omega), bs_at s (k + 2) h3, h45, ins_range, Bool.or_assoc]
          have hc1 : (s[k + 1].toNat : Int) = 45 := by rw [h45]; rfl
          have hw0 := wrap_b s[k]
          have hwb := wrap_b s[k + 2]
          clear h45 one hcell hfz hT1 hR1 hB1 ea hI
          go_wp2_with fail
          go_loopw [7] (fun v7 wq => ∃ j : Nat, (s[k]).toNat ≤ j ∧ (j ≤ (s[k + 2]).toNat + 1 ∨ j = (s[k]).toNat) ∧ v7 = .int .i64 j ∧ Hid (Rt wq (w.heap.size + 1) false (upto p (s[k]) j)) ∧ Hid (Rt wq w.heap.size false zp) ∧ Hid (Below w.heap.size w wq)) (fun v7 _ => 256 - (intOf v7).toNat)
          case atStart => exact ⟨(s[k]).toNat, Nat.le_refl _, .inr rfl, by first | rfl | rw [wrap_b], ((unhide hT).eq fun c => upto_start p (s[k]) c), hR, hB⟩
          case round =>
            clear hT hR hB
            obtain ⟨j, hj1, hj2, rfl, hT, hR, hB⟩ := hrel
            have hb256 := (s[k + 2]).toNat_lt
            have ha256 := (s[k]).toNat_lt
            by_cases hjl : j ≤ (s[k + 2]).toNat
            · have j256 : (j : Int) < 256 := by omega
              have hle : (j : Int) ≤ ((s[k + 2]).toNat : Int) := by omega
              have hjn : (UInt8.ofNat j).toNat = j := by simp; omega
              have hcell := (unhide hT).cell (UInt8.ofNat j)
              rw [hjn] at hcell
              have hfz := (unhide hT).frozen (1 + j)
              have hT2 : Hid (Rt (wr.setCell ⟨w.heap.size + 1, 1 + j, none⟩ (.bool true)) (w.heap.size + 1) false (upto p (s[k]) (j + 1))) := by
                have h := (unhide hT).set (UInt8.ofNat j) true
                rw [hjn] at h
                exact h.eq fun d => upto_step p (s[k]) j (by omega) hj1 d
              have hR2 : Hid (Rt (wr.setCell ⟨w.heap.size + 1, 1 + j, none⟩ (.bool true)) w.heap.size false zp) := (unhide hR).other _ _ (by simp)
              have hB2 : Hid (Below w.heap.size w (wr.setCell ⟨w.heap.size + 1, 1 + j, none⟩ (.bool true))) := (unhide hB).setCell (p := ⟨w.heap.size + 1, 1 + j, none⟩) (Nat.le_succ _) _
              clear hjn hT hR hB
              go_wp2_with fail
              go_roundw
              case rel => exact ⟨j + 1, by omega, by omega, by go_num, hT2, hR2, hB2⟩
              case measure => simp [intOf]; omega
            · have hle : ¬ (j : Int) ≤ ((s[k + 2]).toNat : Int) := by omega
              have hT2 : Hid (Rt wr (w.heap.size + 1) false (fun d => p d || bt (s[k]) (s[k + 2]) d)) := (unhide hT).eq fun d => upto_end p (s[k]) (s[k + 2]) j (by omega) hj2 d
              clear hT
              go_wp2_with fail
              go_roundw
              case rel => exact ⟨k + 3, _, by omega, by go_num, hJ, hT2, hR, hB⟩
              case measure => simp [intOf]; omega
        · have hJ := hide (unhide one fun m b t e => by
            rw [bs_at s (k + 1) (by omega)] at e
            intro e45
            injection e with e3 e4
            exact h45 (e3.trans e45))
          have hc1 : ¬ (s[k + 1].toNat : Int) = 45 := fun e => h45 (u8_eq e)
          clear h45 one hT hR hB ea hI
          go_wp2_with fail
          go_roundw
          case rel => exact ⟨k + 1, _, by omega, by go_num, hJ, hT1, hR1, hB1⟩
          case measure => simp [intOf]; omega
      · have h3' : ¬ (k : Int) + 2 < (s.size : Int) := by omega
        have hJ := hide (unhide one fun m b t e => by
          have e2 := congrArg List.length e
          rw [List.length_drop, bs_len] at e2
          simp at e2
          omega)
        clear one hT hR hB ea hI
        go_wp2_with fail
        go_roundw
        case rel => exact ⟨k + 1, _, by omega, by go_num, hJ, hT1, hR1, hB1⟩
        case measure => simp [intOf]; omega
    · have hlt' : ¬ (k : Int) < (s.size : Int) := by omega
      have hP : Hid (∀ c, p c = ins (bs s) c) := fun c => by rw [unhide hI, bs_end s k (by omega)]; simp [ins]
      clear hI
      cases not
      · have hT9 : Rt wr (w.heap.size + 1) false (fun c => ins (bs s) c != false) := (unhide hT).eq fun d => by rw [unhide hP]; simp
        obtain ⟨C, w9, hC, hld, hst, hld9, hb9⟩ := rt_ret hT9 (unhide hR) (unhide hB)
        have HC := hide hC
        have HLD := hide hld
        have HST := hide hst
        have HL9 := hide hld9
        clear hC hld hst hld9 hT hR hB hT9 hP
        go_wp2_with fail
        go_loopw [8] (fun v8 wq => v8 = .int .i64 0 ∧ wq = wr) (fun _ _ => 0)
        case atStart => exact ⟨rfl, rfl⟩
        case round =>
          obtain ⟨rfl, rfl⟩ := hrel
          go_wp2_with (first | (refine wpList_load_arr _ rfl _ 49 rfl _ rfl _ (by exact unhide HLD) ?_) | (refine wpList_store_arr _ rfl _ _ 49 rfl _ rfl _ rfl _ (by exact unhide HST) ?_))
          refine bodyPost_ret (v := .agg C) ?_ rfl ⟨by rw [unhide HC], hb9⟩
          rw [results_cell rfl]
          simp [asAddr, Result.andThen, Act.put, unhide HL9]
      · go_wp2_with fail
        go_loopw [8] (fun v8 wq => ∃ j : Nat, j ≤ 256 ∧ v8 = .int .i64 j ∧ Hid (Rt wq (w.heap.size + 1) false (turned p j)) ∧ Hid (Rt wq w.heap.size false zp) ∧ Hid (Below w.heap.size w wq)) (fun v8 _ => 256 - (intOf v8).toNat)
        case atStart => exact ⟨0, Nat.zero_le _, rfl, ((unhide hT).eq fun c => by simp [turned]), hR, hB⟩
        case round =>
          clear hT hR hB
          obtain ⟨j, hj, rfl, hT, hR, hB⟩ := hrel
          by_cases hjl : j < 256
          · have hjl' : (j : Int) < 256 := by omega
            have hjn : (UInt8.ofNat j).toNat = j := by simp; omega
            have hcell := (unhide hT).cell (UInt8.ofNat j)
            rw [turned_at p j hjl, hjn] at hcell
            have hfz := (unhide hT).frozen (1 + j)
            obtain ⟨x, hx⟩ : ∃ x, x = p (UInt8.ofNat j) := ⟨_, rfl⟩
            have hT2 : Hid (Rt (wr.setCell ⟨w.heap.size + 1, 1 + j, none⟩ (.bool (!x))) (w.heap.size + 1) false (turned p (j + 1))) := by
              have h := (unhide hT).set (UInt8.ofNat j) (!x)
              rw [hjn] at h
              exact h.eq fun d => by rw [hx]; exact turned_step p j hjl d
            have hR2 : Hid (Rt (wr.setCell ⟨w.heap.size + 1, 1 + j, none⟩ (.bool (!x))) w.heap.size false zp) := (unhide hR).other _ _ (by simp)
            have hB2 : Hid (Below w.heap.size w (wr.setCell ⟨w.heap.size + 1, 1 + j, none⟩ (.bool (!x)))) := (unhide hB).setCell (p := ⟨w.heap.size + 1, 1 + j, none⟩) (Nat.le_succ _) _
            rw [← hx] at hcell
            clear hjn hT hR hB hx
            go_wp2_with fail
            go_roundw
            case rel => exact ⟨j + 1, by omega, by go_num, hT2, hR2, hB2⟩
            case measure => simp [intOf]; omega
          · have hjl' : ¬ (j : Int) < 256 := by omega
            have hT9 : Rt wr (w.heap.size + 1) false (fun c => ins (bs s) c != true) := (unhide hT).eq fun d => by
              unfold turned
              rw [if_pos (by have := d.toNat_lt; omega), unhide hP]; simp
            obtain ⟨C, w9, hC, hld, hst, hld9, hb9⟩ := rt_ret hT9 (unhide hR) (unhide hB)
            have HC := hide hC
            have HLD := hide hld
            have HST := hide hst
            have HL9 := hide hld9
            clear hC hld hst hld9 hT hR hB hT9 hP
            go_wp2_with (first | (refine wpList_load_arr _ rfl _ 49 rfl _ rfl _ (by exact unhide HLD) ?_) | (refine wpList_store_arr _ rfl _ _ 49 rfl _ rfl _ rfl _ (by exact unhide HST) ?_))
            refine bodyPost_ret (v := .agg C) ?_ rfl ⟨by rw [unhide HC]; simp, hb9⟩
            rw [results_cell rfl]
            simp [asAddr, Result.andThen, unhide HL9]
end Go.Proofs.Ytelijbnamiefcaa.Gl
