/- What sumTable and Sum answer, and the document's Sum. -/
import Derived.Test.YtbofidpoajdcmaaGreatDoorCdArr
import Derived.Test.YtbofidpoajdcmaaGreatDoorCdSumP
import Derived.Test.YtbofidpoajdcmaaGreatDoorTrPlain
namespace Go.Proofs.YtbofidpoajdcmaaGreatDoor.Cd
open Go.RowKit Cu Tr

def zu : UInt8 → Value := fun _ => .int .u32 0
theorem Tryz.infoArrU : (Tryz.prog.info? 107).map (fun i => (i.zero, i.size)) = some (some (.agg (tab zu)), 256) := by kernel_rfl
abbrev uv (x : U) : Value := .int .u32 (x.toNat : Int)
theorem wrap_nat (n : Nat) (h : n < 4294967296) : IntKind.u32.wrap (n : Int) = (n : Int) := by
  simp only [IntKind.wrap, IntKind.signed, IntKind.bits]
  simp only [Bool.false_eq_true, if_false, Bool.false_and]
  omega
theorem bits_u32 (a b : U) : bits .xor .u32 (a.toNat : Int) (b.toNat : Int) = ((a ^^^ b).toNat : Int) := by
  have h := (a ^^^ b).isLt
  show IntKind.u32.wrap ((BitVec.ofInt 32 (a.toNat : Int) ^^^ BitVec.ofInt 32 (b.toNat : Int)).toNat : Int) = _
  rw [BitVec.ofInt_natCast, BitVec.ofInt_natCast, BitVec.ofNat_toNat, BitVec.ofNat_toNat, BitVec.setWidth_eq, BitVec.setWidth_eq]
  exact wrap_nat _ h
theorem and_u32 (a b : U) : bits .and .u32 (a.toNat : Int) (b.toNat : Int) = ((a &&& b).toNat : Int) := by
  have h := (a &&& b).isLt
  show IntKind.u32.wrap ((BitVec.ofInt 32 (a.toNat : Int) &&& BitVec.ofInt 32 (b.toNat : Int)).toNat : Int) = _
  rw [BitVec.ofInt_natCast, BitVec.ofInt_natCast, BitVec.ofNat_toNat, BitVec.ofNat_toNat, BitVec.setWidth_eq, BitVec.setWidth_eq]
  exact wrap_nat _ h
theorem bits_u8 (a b : UInt8) : bits .xor .u8 (a.toNat : Int) (b.toNat : Int) = ((a ^^^ b).toNat : Int) := by
  have h := (a ^^^ b).toNat_lt
  have h1 : ((BitVec.ofNat 8 a.toNat) ^^^ (BitVec.ofNat 8 b.toNat)).toNat = (a ^^^ b).toNat := by
    rw [BitVec.toNat_xor, BitVec.toNat_ofNat, BitVec.toNat_ofNat, Nat.mod_eq_of_lt a.toNat_lt, Nat.mod_eq_of_lt b.toNat_lt, UInt8.toNat_xor]
  show IntKind.u8.wrap ((BitVec.ofInt 8 (a.toNat : Int) ^^^ BitVec.ofInt 8 (b.toNat : Int)).toNat : Int) = _
  rw [BitVec.ofInt_natCast, BitVec.ofInt_natCast, h1]
  simp only [IntKind.wrap, IntKind.signed, IntKind.bits]
  simp only [Bool.false_eq_true, if_false, Bool.false_and]
  omega
theorem not_val (x : U) : bits .xor .u32 IntKind.u32.max (x.toNat : Int) = ((~~~ x).toNat : Int) := by
  rw [show IntKind.u32.max = ((BitVec.allOnes 32).toNat : Int) by decide, bits_u32]
  have : BitVec.allOnes 32 ^^^ x = ~~~ x := by
    apply BitVec.eq_of_getLsbD_eq
    intro i hi
    rw [BitVec.getLsbD_xor, BitVec.getLsbD_allOnes, BitVec.getLsbD_not]
    cases x.getLsbD i <;> simp [hi]
  rw [this]
theorem and_one (x : U) : bits .and .u32 (x.toNat : Int) 1 = (x.toNat : Int) % 2 := by
  have h := and_u32 x 1#32
  have e : (x &&& 1#32).toNat = x.toNat % 2 := by rw [BitVec.toNat_and]; exact Nat.and_one_is_mod _
  rw [e] at h
  rw [show ((1 : Int)) = ((1#32 : U).toNat : Int) from rfl, h]
  omega
theorem half_val (x : U) : ((x >>> 1).toNat : Int) = (x.toNat : Int) / 2 := by
  rw [BitVec.toNat_ushiftRight, Nat.shiftRight_eq_div_pow]; omega
theorem odd_val (x : U) (h : x.toNat % 2 = 1) : bits .xor .u32 ((x.toNat : Int) / 2) 3988292384 = ((step x).toNat : Int) := by
  rw [step_odd x h, ← bits_u32, half_val]; rfl
theorem even_val (x : U) (h : x.toNat % 2 = 0) : bits .xor .u32 ((x.toNat : Int) / 2) 0 = ((step x).toNat : Int) := by
  have e : step x = (x >>> 1) ^^^ 0#32 := by
    apply BitVec.eq_of_toNat_eq
    rw [step_even x h, BitVec.xor_zero, BitVec.toNat_ushiftRight, Nat.shiftRight_eq_div_pow]
  rw [e, ← bits_u32, half_val]; rfl
theorem step_half (x : U) (h : x.toNat % 2 = 0) : (x.toNat : Int) / 2 = ((step x).toNat : Int) := by rw [step_even x h]; omega
theorem bot_val (x : U) : (x.toNat : Int) % 256 = ((bot x).toNat : Int) := by rw [bot_toNat]; omega
theorem at_table (x : U) (c : UInt8) : bits .xor .u8 ((x.toNat : Int) % 256) (c.toNat : Int) = ((bot x ^^^ c).toNat : Int) := by rw [bot_val, bits_u8]
theorem further_val (x : U) (c : UInt8) : bits .xor .u32 ((x.toNat : Int) / 256) ((tableP (bot x ^^^ c)).toNat : Int) = ((further x c).toNat : Int) := by
  rw [further_table, ← bits_u32, BitVec.toNat_ushiftRight, Nat.shiftRight_eq_div_pow]
  rfl
/-- the table, so far -/
def tabTo (k : Nat) : UInt8 → Value := fun c => if c.toNat < k then uv (tableP c) else .int .u32 0
theorem below_setRow {w w' : World} {B g : Nat} (h : Below B w w') (hg : B ≤ g) (c : Array Value) : Below B w (w'.setRow g c) :=
  ⟨h.os, h.tape, h.output, by simpa using h.size, fun k hk => (setRow_other _ _ _ _ (by omega)).trans (h.block k hk)⟩

set_option maxHeartbeats 1000000 in
set_option maxRecDepth 100000 in
theorem sumTable_any (w : World) :
    Calls Tryz.prog 93 #[] w fun e w' => e = .returned (.agg (tab (fun c => uv (tableP c)))) ∧ Below w.heap.size w w' := by
  obtain ⟨hzero, hinf⟩ := zero_of_info Tryz.infoArrU
  obtain ⟨z, hz⟩ : ∃ z, z = tab zu := ⟨_, rfl⟩
  rw [← hz] at hzero
  have HI := hide hinf
  have HZ := hide hz
  clear hz hinf
  go_enter Tryz.func93, Tryz.ntmps93
  go_wp2_with fail
  have hA0 : Hid (Arr ((w.alloc (.cells z 107)).alloc (.cells z 107)) (w.heap.size + 1) 107 zu) := by
    have := heap_alloc_new (w.alloc (.cells z 107)) (.cells z 107)
    rw [World.size_alloc] at this
    rw [unhide HZ] at this ⊢
    exact this
  have hR0 : Hid (Arr ((w.alloc (.cells z 107)).alloc (.cells z 107)) w.heap.size 107 zu) := by
    rw [unhide HZ]
    exact (Below.heap_alloc _ _ _ (by simp)).trans (heap_alloc_new w _)
  have hb0 : Hid (Below w.heap.size w ((w.alloc (.cells z 107)).alloc (.cells z 107))) := ((Below.refl _ _).alloc (Nat.le_refl _) _).alloc (by simp) _
  go_loopw [4] (fun i wr => ∃ k : Nat, k ≤ 256 ∧ i = .int .i64 k ∧ Hid (Arr wr (w.heap.size + 1) 107 (tabTo k)) ∧ Hid (Arr wr w.heap.size 107 zu) ∧ Hid (Below w.heap.size w wr)) (fun i _ => 256 - (intOf i).toNat)
  case atStart => exact ⟨0, Nat.zero_le _, rfl, (unhide hA0).eq (fun c => by simp [zu, tabTo]), hR0, hb0⟩
  case round =>
    clear hA0 hR0 hb0 hzero
    obtain ⟨k, hk, rfl, hA, hR, hnx⟩ := hrel
    by_cases hlt : k < 256
    · have hlt' : (k : Int) < 256 := by omega
      obtain ⟨c, hcc⟩ : ∃ c, c = UInt8.ofNat k := ⟨_, rfl⟩
      have hck : c.toNat = k := by rw [hcc, UInt8.toNat_ofNat']; exact Nat.mod_eq_of_lt hlt
      clear hcc
      go_wp2_with fail
      go_loopw [3, 9] (fun v3 v11 wq => ∃ j : Nat, ∃ x : U, j ≤ 8 ∧ v11 = .int .i64 j ∧ v3 = .int .u32 (x.toNat : Int) ∧ Hid (x = moves j (low c)) ∧ wq = wr) (fun _ v11 _ => 8 - (intOf v11).toNat)
      case atStart => exact ⟨0, low c, by omega, rfl, by first | (rw [low_toNat, hck]; done) | (rw [low_toNat, hck]; go_num), rfl, rfl⟩
      case round =>
        obtain ⟨j, x, hj, rfl, rfl, hx, rfl⟩ := hrel
        by_cases hj8 : j < 8
        · have hj8' : (j : Int) < 8 := by omega
          have hx2 : Hid (step x = moves (j + 1) (low c)) := by rw [unhide hx, ← moves_snoc]; rfl
          have hand := and_one x
          by_cases hm : x.toNat % 2 = 0
          · have hm' : bits .and .u32 (x.toNat : Int) 1 = 0 := by rw [hand]; omega
            have hm2 : bits .and .u32 3988292384 0 = 0 := by decide +kernel
            have hs := hide (even_val x hm)
            clear hx hand
            go_wp2_with fail
            go_roundw
            case rel => exact ⟨j + 1, step x, by omega, by go_num, by rw [unhide hs], hx2, by simp⟩
            case measure => simp [intOf]; omega
          · have hm' : bits .and .u32 (x.toNat : Int) 1 = 1 := by rw [hand]; omega
            have hm2 : bits .and .u32 3988292384 4294967295 = 3988292384 := by decide +kernel
            have hs := hide (odd_val x (by omega))
            clear hx hand
            go_wp2_with fail
            go_roundw
            case rel => exact ⟨j + 1, step x, by omega, by go_num, by rw [unhide hs], hx2, by simp⟩
            case measure => simp [intOf]; omega
        · obtain rfl : j = 8 := by omega
          have hcell := (unhide hA).cell c
          have hfz := (unhide hA).frozen c.toNat
          rw [hck] at hcell hfz
          have hA2 : Hid (Arr (wr.setCell ⟨w.heap.size + 1, k, none⟩ (.int .u32 (x.toNat : Int))) (w.heap.size + 1) 107 (tabTo (k + 1))) := by
            have := ((unhide hA).set c (.int .u32 (x.toNat : Int))).eq (f' := tabTo (k + 1)) (fun d => by
              unfold tabTo
              by_cases e : d = c
              · rw [if_pos e, e, if_pos (by omega)]; rw [unhide hx]; rfl
              · have : d.toNat ≠ k := fun h => e (UInt8.toNat_inj.1 (by omega))
                rw [if_neg e]
                by_cases h : d.toNat < k
                · rw [if_pos h, if_pos (by omega)]
                · rw [if_neg h, if_neg (by omega)])
            rw [hck] at this
            exact this
          have hR2 : Hid (Arr (wr.setCell ⟨w.heap.size + 1, k, none⟩ (.int .u32 (x.toNat : Int))) w.heap.size 107 zu) := (unhide hR).other _ _ (by simp)
          have hb2 : Hid (Below w.heap.size w (wr.setCell ⟨w.heap.size + 1, k, none⟩ (.int .u32 (x.toNat : Int)))) := (unhide hnx).setCell (p := ⟨w.heap.size + 1, k, none⟩) (Nat.le_succ _) _
          clear hA hR hnx hx
          go_wp2_with fail
          go_roundw
          case rel => exact ⟨k + 1, by omega, by go_num, hA2, hR2, hb2⟩
          case measure => simp [intOf]; omega
    · obtain rfl : k = 256 := by omega
      have hA1 := hide ((unhide hA).eq (f' := fun c => uv (tableP c)) (fun c => by unfold tabTo; rw [if_pos c.toNat_lt]))
      have hld := hide (run_load_arr (unhide hA1) Tryz.underlying107 (by rw [tab_size]; exact unhide HI))
      have hst := hide (run_store_arr (unhide hR) (c' := tab (fun c => uv (tableP c))) (by rw [tab_size]; exact unhide HI) (by rw [tab_size, tab_size]) (tab_one _ (fun _ => rfl)))
      have hA9 := hide ((unhide hR).setRow (fun c => uv (tableP c)))
      have hb9 : Hid (Below w.heap.size w (wr.setRow w.heap.size (tab (fun c => uv (tableP c))))) := below_setRow (unhide hnx) (Nat.le_refl _) _
      generalize wr.setRow w.heap.size (tab (fun c => uv (tableP c))) = w9 at *
      have hld9 := hide (run_loadVar_row _ _ _ _ _ _ _ (unhide hA9) Tryz.underlying107 rfl (by rw [tab_size]; exact unhide HI))
      obtain ⟨A, hAe⟩ : ∃ A, A = tab (fun c => uv (tableP c)) := ⟨_, rfl⟩
      rw [← hAe] at hld hst hld9
      have HAE := hide hAe
      clear hA hA1 hR hA9 hAe
      go_wp2_with (first | (refine wpList_load_arr _ rfl _ 107 rfl _ rfl _ (by exact unhide hld) ?_) | (refine wpList_store_arr _ rfl _ _ 107 rfl _ rfl _ rfl _ (by exact unhide hst) ?_))
      refine bodyPost_ret (v := .agg A) ?_ rfl ⟨by rw [unhide HAE], unhide hb9⟩
      rw [results_cell rfl]
      simp [asAddr, Result.andThen, Act.put, unhide hld9]

set_option maxHeartbeats 1000000 in
set_option maxRecDepth 100000 in
theorem sum_any (a : Option Addr) (n cap : Nat) (l : Bs) (w : World) (hB : By w a n cap l) (hn : n ≤ 4611686018427387904) :
    Calls Tryz.prog 31 #[.slice a n cap] w fun e w' => e = .returned (uv (sumP l)) ∧ Below w.heap.size w w' := by
  obtain ⟨hzero, hinf⟩ := zero_of_info Tryz.infoArrU
  obtain ⟨z, hz⟩ : ∃ z, z = tab zu := ⟨_, rfl⟩
  rw [← hz] at hzero
  have HI := hide hinf
  have HZ := hide hz
  clear hz hinf
  have HT := hide (sumTable_any w)
  have HBy := hide hB
  clear hB
  obtain ⟨A, hAe⟩ : ∃ A, A = tab (fun c => uv (tableP c)) := ⟨_, rfl⟩
  rw [← hAe] at HT
  have HA := hide hAe
  clear hAe
  go_enter Tryz.func31, Tryz.ntmps31
  go_wp2_with fail
  refine (unhide HT).mono ?_
  rintro e w1 ⟨rfl, hb1⟩
  have HB := hide hb1
  clear HT hb1
  have hR0 : Hid (Arr (w1.alloc (.cells z 107)) w1.heap.size 107 zu) := by
    rw [unhide HZ]
    exact heap_alloc_new w1 _
  have hst := hide (run_store_arr (unhide hR0) (c' := tab (fun c => uv (tableP c))) (by rw [tab_size]; exact unhide HI) (by rw [tab_size, tab_size]) (tab_one _ (fun _ => rfl)))
  have hb9 : Hid (Below w.heap.size w ((w1.alloc (.cells z 107)).setRow w1.heap.size (tab (fun c => uv (tableP c))))) := below_setRow ((unhide HB).alloc (unhide HB).size _) (unhide HB).size _
  rw [← unhide HA] at hst hb9
  generalize hw9 : (w1.alloc (.cells z 107)).setRow w1.heap.size A = w9 at *
  have hA9 : Hid (Arr w9 w1.heap.size 107 (fun c => uv (tableP c))) := by rw [← hw9, unhide HA]; exact (unhide hR0).setRow _
  have HB9 : Hid (By w9 a n cap l) := (unhide HBy).below (unhide hb9)
  clear hw9 hR0 HBy
  go_wp2_with (refine wpList_store_arr _ rfl _ _ 107 rfl _ rfl _ rfl _ (by exact unhide hst) ?_)
  go_loopw [4, 6, 10] (fun v3 v6 v4 wq => ∃ i : Nat, ∃ x : U, i ≤ n ∧ v4 = .int .i64 i ∧ v3 = .int .u32 (x.toNat : Int) ∧ Hid (x = runs (BitVec.allOnes 32) (l.take i)) ∧ ∃ q, wq = w9.drewN q) (fun _ _ v4 _ => n - (intOf v4).toNat)
  case atStart => exact ⟨0, BitVec.allOnes 32, by omega, rfl, rfl, rfl, 0, rfl⟩
  case round =>
    obtain ⟨i, x, hi, rfl, rfl, hx, q, rfl⟩ := hrel
    by_cases hlt : i < n
    · have hlt' : (i : Int) < (n : Int) := by omega
      have hll : i < l.length := by rw [(unhide HB9).len]; exact hlt
      obtain ⟨b3, o3, rfl, hbl, hcs⟩ : ∃ b off, a = some ⟨b, off, none⟩ ∧ b < w9.heap.size ∧ ∀ i, i < n → w9.cell? ⟨b, off + i, none⟩ = some (.int .u8 ((l.getD i 0).toNat : Int)) := by
        rcases (unhide HB9).cells with h | h
        · omega
        · exact h
      have hc1 := hcs i hlt
      obtain ⟨d, hd⟩ : ∃ d, d = l.getD i 0 := ⟨_, rfl⟩
      have hd2 : d = l[i] := by rw [hd]; simp [List.getD, List.getElem?_eq_getElem hll]
      rw [← hd] at hc1
      have hE := at_table x d
      have hF := hide (further_val x d)
      have hx2 : Hid (further x d = runs (BitVec.allOnes 32) (l.take (i + 1))) := by
        show _ = _
        rw [List.take_succ_eq_append_getElem hll, runs_snoc, unhide hx, hd2]
      have hcell := (unhide hA9).cell (bot x ^^^ d)
      generalize bot x ^^^ d = c at *
      generalize further x d = y at *
      have h256 : (c.toNat : Int) < 256 := by have := c.toNat_lt; omega
      clear hx hcs hd hd2 hll hbl
      go_wp2_with fail
      go_roundw
      case rel => exact ⟨i + 1, y, by omega, by go_num, by rw [unhide hF], hx2, q, by simp⟩
      case measure => simp [intOf]; omega
    · have hT : Hid (sumP l = ~~~ x) := by
        show _ = _
        unfold sumP
        rw [unhide hx, List.take_of_length_le (by rw [(unhide HB9).len]; omega)]
      have hb5 : Hid (Below w.heap.size w (w9.drewN q)) := (unhide hb9).trans ((below_drew _ _).mono (unhide hb9).size)
      clear hx
      go_wp2_with fail
      go_ret
      refine ⟨?_, unhide hb5⟩
      rw [unhide hT]
      show Ending.returned (.int .u32 (bits .xor .u32 IntKind.u32.max (x.toNat : Int))) = _
      rw [not_val]
end Go.Proofs.YtbofidpoajdcmaaGreatDoor.Cd
