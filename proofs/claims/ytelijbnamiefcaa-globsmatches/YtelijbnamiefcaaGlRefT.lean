/- The document's things: what one, every, closing and bracket answer. -/
import Derived.Test.YtelijbnamiefcaaGlMet
namespace Go.Proofs.Ytelijbnamiefcaa.Gl
open Go.RowKit

/-- the cells of a thing -/
def rcs (s : Bool) (p : UInt8 → Bool) : Array Value := #[.bool s] ++ tab (vb p)
theorem rcs_size (s : Bool) (p : UInt8 → Bool) : (rcs s p).size = 257 := by simp [rcs, tab_size]
def zp : UInt8 → Bool := fun _ => false
theorem Try.infoRT : (Try.prog.info? 49).map (fun i => (i.zero, i.size, i.bytes)) = some (some (.agg (rcs false zp)), 257, 257) := by kernel_rfl
theorem Try.infoRT2 : (Try.prog.info? 49).map (fun i => (i.zero, i.size)) = some (some (.agg (rcs false zp)), 257) := by kernel_rfl
theorem rcs_0 (s : Bool) (p : UInt8 → Bool) : (rcs s p)[0]? = some (.bool s) := by unfold rcs; rw [Array.getElem?_append_left (by simp)]; rfl
theorem rcs_at (s : Bool) (p : UInt8 → Bool) (c : UInt8) : (rcs s p)[1 + c.toNat]? = some (.bool (p c)) := by
  unfold rcs
  rw [Array.getElem?_append_right (by simp)]
  simp only [List.size_toArray, List.length_cons, List.length_nil]
  rw [show 1 + c.toNat - (0 + 1) = c.toNat by omega, tab_at]; rfl
theorem rcs_set0 (s t : Bool) (p : UInt8 → Bool) : (rcs s p).setIfInBounds 0 (.bool t) = rcs t p := by
  unfold rcs
  rw [Array.setIfInBounds_append_left (by simp)]; rfl
theorem rcs_set (s : Bool) (p : UInt8 → Bool) (c : UInt8) (b : Bool) : (rcs s p).setIfInBounds (1 + c.toNat) (.bool b) = rcs s (fun d => if d = c then b else p d) := by
  unfold rcs
  rw [Array.setIfInBounds_append_right (by simp)]
  simp only [List.size_toArray, List.length_cons, List.length_nil]
  rw [show 1 + c.toNat - (0 + 1) = c.toNat by omega, tab_set]
  congr 2
  funext d
  show (if d = c then Value.bool b else Value.bool (p d)) = Value.bool (if d = c then b else p d)
  split <;> rfl
theorem rcs_one (s : Bool) (p : UInt8 → Bool) : (rcs s p).all (·.oneCell') = true := by
  unfold rcs
  rw [Array.all_append, tab_one _ (fun _ => rfl)]
  simp [Value.oneCell']
/-- block b is a thing -/
def Rt (w : World) (b : Nat) (s : Bool) (p : UInt8 → Bool) : Prop := w.heap[b]? = some (.cells (rcs s p) 49 (0, 0))
theorem Rt.cell {w : World} {b : Nat} {s : Bool} {p : UInt8 → Bool} (h : Rt w b s p) (c : UInt8) : w.cell? ⟨b, 1 + c.toNat, none⟩ = some (.bool (p c)) := by rw [cell_of_row _ _ _ _ _ _ h, rcs_at]
theorem Rt.frozen {w : World} {b : Nat} {s : Bool} {p : UInt8 → Bool} (h : Rt w b s p) (i : Nat) : w.frozen? ⟨b, i, none⟩ = false := by
  unfold Rt at h
  simp [World.frozen?, h]
theorem Rt.lt {w : World} {b : Nat} {s : Bool} {p : UInt8 → Bool} (h : Rt w b s p) : b < w.heap.size := (Array.getElem?_eq_some_iff.1 h).1
theorem Rt.set {w : World} {b : Nat} {s : Bool} {p : UInt8 → Bool} (h : Rt w b s p) (c : UInt8) (x : Bool) : Rt (w.setCell ⟨b, 1 + c.toNat, none⟩ (.bool x)) b s (fun d => if d = c then x else p d) := by
  unfold Rt
  rw [heap_setCell_same _ _ _ _ _ _ h, rcs_set]
theorem Rt.other {w : World} {b : Nat} {s : Bool} {p : UInt8 → Bool} (h : Rt w b s p) (a : Addr) (v : Value) (hne : b ≠ a.block) : Rt (w.setCell a v) b s p := by
  unfold Rt
  rw [heap_setCell_other _ _ _ _ hne]; exact h
theorem Rt.eq {w : World} {b : Nat} {s : Bool} {p p' : UInt8 → Bool} (h : Rt w b s p) (e : ∀ c, p c = p' c) : Rt w b s p' := by rw [← funext e]; exact h
/-- two new things, one for the answer -/
theorem rt_two (w : World) (z : Array Value) (hz : z = rcs false zp) : Rt ((w.alloc (.cells z 49)).alloc (.cells z 49)) w.heap.size false zp ∧ Rt ((w.alloc (.cells z 49)).alloc (.cells z 49)) (w.heap.size + 1) false zp ∧ Below w.heap.size w ((w.alloc (.cells z 49)).alloc (.cells z 49)) := by
  refine ⟨?_, ?_, ((Below.refl _ _).alloc (Nat.le_refl _) _).alloc (by simp) _⟩
  · rw [hz]
    exact (Below.heap_alloc _ _ _ (by simp)).trans (heap_alloc_new w _)
  · have := heap_alloc_new (w.alloc (.cells z 49)) (.cells z 49)
    rw [World.size_alloc] at this
    rw [hz] at this ⊢
    exact this

set_option maxHeartbeats 400000 in
set_option maxRecDepth 100000 in
theorem rone_any (c : UInt8) (w : World) :
    Calls Try.prog 27 #[.int .u8 c.toNat] w fun e w' => e = .returned (.agg (rcs false (fun d => decide (d = c)))) ∧ Below w.heap.size w w' := by
  obtain ⟨hzero, hinf⟩ := zero_of_info Try.infoRT2
  obtain ⟨z, hz⟩ : ∃ z, z = rcs false zp := ⟨_, rfl⟩
  rw [← hz] at hzero
  have HI := hide hinf
  have h256 : (c.toNat : Int) < 256 := by have := c.toNat_lt; omega
  have hzs : z.size = 257 := by rw [hz, rcs_size]
  have hc : z[1 + c.toNat]? = some (.bool false) := by rw [hz, rcs_at]; rfl
  obtain ⟨C, hC⟩ : ∃ C, C = rcs false (fun d => decide (d = c)) := ⟨_, rfl⟩
  have hCs : C.size = 257 := by rw [hC, rcs_size]
  have hC2 : z.setIfInBounds (1 + c.toNat) (.bool true) = C := by
    rw [hz, rcs_set, hC]
    congr 1
  have hT2 : ((w.alloc (.cells z 49)).alloc (.cells C 49)).heap[w.heap.size + 1]? = some (.cells C 49 (0, 0)) := by
    have := heap_alloc_new (w.alloc (.cells z 49)) (.cells C 49)
    rwa [World.size_alloc] at this
  have hR2 : ((w.alloc (.cells z 49)).alloc (.cells C 49)).heap[w.heap.size]? = some (.cells z 49 (0, 0)) := (Below.heap_alloc _ _ _ (by simp)).trans (heap_alloc_new w _)
  have hB2 : Below w.heap.size w ((w.alloc (.cells z 49)).alloc (.cells C 49)) := ((Below.refl _ _).alloc (Nat.le_refl _) _).alloc (by simp) _
  have hld := hide (run_load_rec (P := Try.prog) hT2 Try.underlying49 rfl (by rw [hCs]; exact unhide HI))
  have hst := hide (run_store_arr (P := Try.prog) hR2 (c' := C) (by rw [hCs]; exact unhide HI) (by rw [hzs, hCs]) (by rw [hC]; exact rcs_one _ _))
  have hA9 := setRow_heap _ _ _ C _ _ hR2
  have hb9 := hide (below_setRow hB2 (Nat.le_refl _) C)
  have hld9 := hide (run_loadVar_row _ _ _ _ _ _ _ hA9 Try.underlying49 rfl (by rw [hCs]; exact unhide HI))
  have HC := hide hC
  clear hz hT2 hR2 hB2 hC hA9
  go_enter Try.func27, Try.ntmps27
  go_wp2_with (first | (refine wpList_load_arr _ rfl _ 49 rfl _ rfl _ (by exact unhide hld) ?_) | (refine wpList_store_arr _ rfl _ _ 49 rfl _ rfl _ rfl _ (by exact unhide hst) ?_))
  refine bodyPost_ret (v := .agg C) ?_ rfl ⟨by rw [unhide HC], unhide hb9⟩
  rw [results_cell rfl]
  simp [asAddr, Result.andThen, Act.put, unhide hld9]
/-- what is left to do when a thing is made: hand it back -/
theorem rt_ret {w wr : World} {p : UInt8 → Bool} (hT : Rt wr (w.heap.size + 1) false p) (hR : Rt wr w.heap.size false zp) (hB : Below w.heap.size w wr) :
    ∃ C w9, C = rcs false p ∧ (Instr.loadAt 49 (.pointer (some ⟨w.heap.size + 1, 0, none⟩))).run Try.prog wr = .ok (.agg C) wr ∧ (Instr.storeAt 49 (.pointer (some ⟨w.heap.size, 0, none⟩)) (.agg C)).run Try.prog wr = .ok () w9 ∧ (loadVar 49 ⟨w.heap.size, 0, none⟩).run Try.prog w9 = .ok (.agg C) w9 ∧ Below w.heap.size w w9 := by
  obtain ⟨_, hinf⟩ := zero_of_info Try.infoRT2
  refine ⟨rcs false p, wr.setRow w.heap.size (rcs false p), rfl, ?_, ?_, ?_, below_setRow hB (Nat.le_refl _) _⟩
  · exact run_load_rec (P := Try.prog) hT Try.underlying49 rfl (by rw [rcs_size]; exact hinf)
  · exact run_store_arr (P := Try.prog) hR (c' := rcs false p) (by rw [rcs_size]; exact hinf) (by rw [rcs_size, rcs_size]) (rcs_one _ _)
  · exact run_loadVar_row _ _ _ _ _ _ _ (setRow_heap _ _ _ (rcs false p) _ _ hR) Try.underlying49 rfl (by rw [rcs_size]; exact hinf)
set_option maxHeartbeats 400000 in
set_option maxRecDepth 100000 in
theorem revery_any (w : World) :
    Calls Try.prog 26 #[] w fun e w' => e = .returned (.agg (rcs false (fun _ => true))) ∧ Below w.heap.size w w' := by
  obtain ⟨hzero, hinf⟩ := zero_of_info Try.infoRT2
  obtain ⟨z, hz⟩ : ∃ z, z = rcs false zp := ⟨_, rfl⟩
  rw [← hz] at hzero
  have H0 := hide (rt_two w z hz)
  clear hinf hz
  go_enter Try.func26, Try.ntmps26
  go_wp2_with fail
  go_loopw [2] (fun v2 wr => ∃ k : Nat, k ≤ 256 ∧ v2 = .int .i64 k ∧ Hid (Rt wr (w.heap.size + 1) false (fun d => decide (d.toNat < k))) ∧ Hid (Rt wr w.heap.size false zp) ∧ Hid (Below w.heap.size w wr)) (fun v2 _ => 256 - (intOf v2).toNat)
  case atStart => exact ⟨0, Nat.zero_le _, rfl, ((unhide H0).2.1.eq fun c => by simp [zp]), (unhide H0).1, (unhide H0).2.2⟩
  case round =>
    clear H0 hzero
    obtain ⟨k, hk, rfl, hT, hR, hB⟩ := hrel
    by_cases hlt : k < 256
    · have hlt' : (k : Int) < 256 := by omega
      have hkn : (UInt8.ofNat k).toNat = k := by simp; omega
      have hcell := (unhide hT).cell (UInt8.ofNat k)
      rw [hkn] at hcell
      have hfz := (unhide hT).frozen (1 + k)
      have hT2 : Hid (Rt (wr.setCell ⟨w.heap.size + 1, 1 + k, none⟩ (.bool true)) (w.heap.size + 1) false (fun d => decide (d.toNat < k + 1))) := by
        have h := (unhide hT).set (UInt8.ofNat k) true
        rw [hkn] at h
        refine h.eq fun d => ?_
        by_cases e : d = UInt8.ofNat k
        · rw [if_pos e, e, hkn]; simp
        · rw [if_neg e, decide_eq_decide]
          have : d.toNat ≠ k := fun e2 => e (by rw [← e2]; simp)
          omega
      have hR2 : Hid (Rt (wr.setCell ⟨w.heap.size + 1, 1 + k, none⟩ (.bool true)) w.heap.size false zp) := (unhide hR).other _ _ (by simp)
      have hB2 : Hid (Below w.heap.size w (wr.setCell ⟨w.heap.size + 1, 1 + k, none⟩ (.bool true))) := (unhide hB).setCell (p := ⟨w.heap.size + 1, 1 + k, none⟩) (Nat.le_succ _) _
      clear hkn hT hR hB
      go_wp2_with fail
      go_roundw
      case rel => exact ⟨k + 1, by omega, by go_num, hT2, hR2, hB2⟩
      case measure => simp [intOf]; omega
    · have hlt' : ¬ (k : Int) < 256 := by omega
      have hT9 : Rt wr (w.heap.size + 1) false (fun _ => true) := (unhide hT).eq fun d => by have := d.toNat_lt; simp; omega
      obtain ⟨C, w9, hC, hld, hst, hld9, hb9⟩ := rt_ret hT9 (unhide hR) (unhide hB)
      have HC := hide hC
      have HLD := hide hld
      have HST := hide hst
      have HL9 := hide hld9
      clear hC hld hst hld9 hT hR hB hT9
      go_wp2_with (first | (refine wpList_load_arr _ rfl _ 49 rfl _ rfl _ (by exact unhide HLD) ?_) | (refine wpList_store_arr _ rfl _ _ 49 rfl _ rfl _ rfl _ (by exact unhide HST) ?_))
      refine bodyPost_ret (v := .agg C) ?_ rfl ⟨by rw [unhide HC], hb9⟩
      rw [results_cell rfl]
      simp [asAddr, Result.andThen, unhide HL9]
end Go.Proofs.Ytelijbnamiefcaa.Gl
