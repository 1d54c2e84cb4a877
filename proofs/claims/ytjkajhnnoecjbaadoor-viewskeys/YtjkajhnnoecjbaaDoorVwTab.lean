/- The table by which sums are reckoned. -/
import Derived.Test.YtjkajhnnoecjbaaDoorVwArr
import Derived.Test.YtjkajhnnoecjbaaDoorVwSumP
namespace Go.Proofs.YtjkajhnnoecjbaaDoor.Vw
open Go.RowKit Cu

def zu : UInt8 → Value := fun _ => .int .u32 0
theorem Tryd.infoArrU : (Tryd.prog.info? 173).map (fun i => (i.zero, i.size)) = some (some (.agg (tab zu)), 256) := by kernel_rfl
abbrev uv (x : U) : Value := .int .u32 (x.toNat : Int)
theorem bits_u32 (a b : U) : bits .xor .u32 (a.toNat : Int) (b.toNat : Int) = ((a ^^^ b).toNat : Int) := by
  have h := (a ^^^ b).isLt
  show IntKind.u32.wrap ((BitVec.ofInt 32 (a.toNat : Int) ^^^ BitVec.ofInt 32 (b.toNat : Int)).toNat : Int) = _
  rw [BitVec.ofInt_natCast, BitVec.ofInt_natCast, BitVec.ofNat_toNat, BitVec.ofNat_toNat, BitVec.setWidth_eq, BitVec.setWidth_eq]
  simp only [IntKind.wrap, IntKind.signed, IntKind.bits]
  simp only [Bool.false_eq_true, if_false, Bool.false_and]
  omega
theorem shl_nat (x : U) (k : Nat) : ((x <<< k).toNat : Int) = (x.toNat : Int) * 2 ^ k % 4294967296 := by
  rw [BitVec.toNat_shiftLeft, Nat.shiftLeft_eq]
  simp
theorem step_val (x : U) (h : ¬ x.toNat < 2147483648) : bits .xor .u32 ((x.toNat : Int) * 2 % 4294967296) 79764919 = ((step x).toNat : Int) := by
  have hm : x.msb = true := by rw [BitVec.msb_eq_decide]; simp; omega
  have h1 := shl_nat x 1
  rw [show ((x.toNat : Int) * 2 ^ 1) = (x.toNat : Int) * 2 by omega] at h1
  unfold step
  rw [hm, if_pos rfl, ← bits_u32, h1]
  rfl
/-- the table, so far -/
def tabTo (k : Nat) : UInt8 → Value := fun c => if c.toNat < k then uv (tableP c) else .int .u32 0

set_option maxHeartbeats 1000000 in
set_option maxRecDepth 100000 in
theorem sumTable_any (w : World) :
    Calls Tryd.prog 106 #[] w fun e w' => e = .returned (.agg (tab (fun c => uv (tableP c)))) ∧ Below w.heap.size w w' := by
  obtain ⟨hzero, hinf⟩ := zero_of_info Tryd.infoArrU
  obtain ⟨z, hz⟩ : ∃ z, z = tab zu := ⟨_, rfl⟩
  rw [← hz] at hzero
  have HI := hide hinf
  have HZ := hide hz
  clear hz hinf
  go_enter Tryd.func106, Tryd.ntmps106
  go_wp2_with fail
  have hA0 : Hid (Arr ((w.alloc (.cells z 173)).alloc (.cells z 173)) (w.heap.size + 1) 173 zu) := by
    have := heap_alloc_new (w.alloc (.cells z 173)) (.cells z 173)
    rw [World.size_alloc] at this
    rw [unhide HZ] at this ⊢
    exact this
  have hR0 : Hid (Arr ((w.alloc (.cells z 173)).alloc (.cells z 173)) w.heap.size 173 zu) := by
    rw [unhide HZ]
    exact (Below.heap_alloc _ _ _ (by simp)).trans (heap_alloc_new w _)
  have hb0 : Hid (Below w.heap.size w ((w.alloc (.cells z 173)).alloc (.cells z 173))) := ((Below.refl _ _).alloc (Nat.le_refl _) _).alloc (by simp) _
  go_loopw [5] (fun i wr => ∃ k : Nat, k ≤ 256 ∧ i = .int .i64 k ∧ Hid (Arr wr (w.heap.size + 1) 173 (tabTo k)) ∧ Hid (Arr wr w.heap.size 173 zu) ∧ Hid (Below w.heap.size w wr)) (fun i _ => 256 - (intOf i).toNat)
  case atStart => exact ⟨0, Nat.zero_le _, rfl, (unhide hA0).eq (fun c => by simp [zu, tabTo]), hR0, hb0⟩
  case round =>
    clear hA0 hR0 hb0 hzero
    obtain ⟨k, hk, rfl, hA, hR, hnx⟩ := hrel
    by_cases hlt : k < 256
    · have hlt' : (k : Int) < 256 := by omega
      obtain ⟨c, hcc⟩ : ∃ c, c = UInt8.ofNat k := ⟨_, rfl⟩
      have hck : c.toNat = k := by rw [hcc, UInt8.toNat_ofNat']; exact Nat.mod_eq_of_lt hlt
      clear hcc
      go_wp2_with fail
      go_loopw [3, 11] (fun v3 v11 wq => ∃ j : Nat, ∃ x : U, j ≤ 8 ∧ v11 = .int .i64 j ∧ v3 = .int .u32 (x.toNat : Int) ∧ Hid (x = moves j (high c)) ∧ wq = wr) (fun _ v11 _ => 8 - (intOf v11).toNat)
      case atStart => exact ⟨0, high c, by omega, rfl, by rw [high_toNat, hck]; go_num, rfl, rfl⟩
      case round =>
        obtain ⟨j, x, hj, rfl, rfl, hx, rfl⟩ := hrel
        by_cases hj8 : j < 8
        · have hj8' : (j : Int) < 8 := by omega
          have hx2 : Hid (step x = moves (j + 1) (high c)) := by rw [unhide hx, ← moves_snoc]; rfl
          have hlt32 := x.isLt
          by_cases hm : x.toNat < 2147483648
          · have hm' : (x.toNat : Int) / 2147483648 = 0 := by omega
            have hs : Hid (((step x).toNat : Int) = (x.toNat : Int) * 2) := by
              show _ = _
              rw [step_small x hm]; omega
            clear hx
            go_wp2_with fail
            go_roundw
            case rel => exact ⟨j + 1, step x, by omega, by go_num, by rw [unhide hs], hx2, by simp⟩
            case measure => simp [intOf]; omega
          · have hm' : (x.toNat : Int) / 2147483648 = 1 := by omega
            go_wp2_with fail
            go_roundw
            case rel => exact ⟨j + 1, step x, by omega, by go_num, by rw [step_val x hm], hx2, by simp⟩
            case measure => simp [intOf]; omega
        · obtain rfl : j = 8 := by omega
          have hcell := (unhide hA).cell c
          have hfz := (unhide hA).frozen c.toNat
          rw [hck] at hcell hfz
          have hA2 : Hid (Arr (wr.setCell ⟨w.heap.size + 1, k, none⟩ (.int .u32 (x.toNat : Int))) (w.heap.size + 1) 173 (tabTo (k + 1))) := by
            have := ((unhide hA).set c (.int .u32 (x.toNat : Int))).eq (f' := tabTo (k + 1)) (fun d => by
              unfold tabTo
              by_cases e : d = c
              · rw [if_pos e, e, if_pos (by omega)]; rw [unhide hx]; rfl
              · have : d.toNat ≠ k := fun h => e (UInt8.toNat_inj.1 (by omega))
                rw [if_neg e]
                by_cases h : d.toNat < k
                · rw [if_pos h, if_pos (by omega)]
                · rw [if_neg h, if_neg (by omega)])
            rw [hck] at this
            exact this
          have hR2 : Hid (Arr (wr.setCell ⟨w.heap.size + 1, k, none⟩ (.int .u32 (x.toNat : Int))) w.heap.size 173 zu) := (unhide hR).other _ _ (by simp)
          have hb2 : Hid (Below w.heap.size w (wr.setCell ⟨w.heap.size + 1, k, none⟩ (.int .u32 (x.toNat : Int)))) := (unhide hnx).setCell (p := ⟨w.heap.size + 1, k, none⟩) (Nat.le_succ _) _
          clear hA hR hnx hx
          go_wp2_with fail
          go_roundw
          case rel => exact ⟨k + 1, by omega, by go_num, hA2, hR2, hb2⟩
          case measure => simp [intOf]; omega
    · obtain rfl : k = 256 := by omega
      have hA1 := hide ((unhide hA).eq (f' := fun c => uv (tableP c)) (fun c => by unfold tabTo; rw [if_pos c.toNat_lt]))
      have hld := hide (run_load_arr (unhide hA1) Tryd.underlying173 (by rw [tab_size]; exact unhide HI))
      have hst := hide (run_store_arr (unhide hR) (c' := tab (fun c => uv (tableP c))) (by rw [tab_size]; exact unhide HI) (by rw [tab_size, tab_size]) (tab_one _ (fun _ => rfl)))
      have hA9 := hide ((unhide hR).setRow (fun c => uv (tableP c)))
      have hb9 : Hid (Below w.heap.size w (wr.setRow w.heap.size (tab (fun c => uv (tableP c))))) := below_setRow (unhide hnx) (Nat.le_refl _) _
      generalize wr.setRow w.heap.size (tab (fun c => uv (tableP c))) = w9 at *
      have hld9 := hide (run_loadVar_row _ _ _ _ _ _ _ (unhide hA9) Tryd.underlying173 rfl (by rw [tab_size]; exact unhide HI))
      obtain ⟨A, hAe⟩ : ∃ A, A = tab (fun c => uv (tableP c)) := ⟨_, rfl⟩
      rw [← hAe] at hld hst hld9
      have HAE := hide hAe
      clear hA hA1 hR hA9 hAe
      go_wp2_with (first | (refine wpList_load_arr _ rfl _ 173 rfl _ rfl _ (by exact unhide hld) ?_) | (refine wpList_store_arr _ rfl _ _ 173 rfl _ rfl _ rfl _ (by exact unhide hst) ?_))
      refine bodyPost_ret (v := .agg A) ?_ rfl ⟨by rw [unhide HAE], unhide hb9⟩
      rw [results_cell rfl]
      simp [asAddr, Result.andThen, Act.put, unhide hld9]
end Go.Proofs.YtjkajhnnoecjbaaDoor.Vw
