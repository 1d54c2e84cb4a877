/- What Sum answers. -/
import Derived.Test.YtjkajhnnoecjbaaDoorVwTab
namespace Go.Proofs.YtjkajhnnoecjbaaDoor.Vw
open Go.RowKit Cu

theorem bits_u8 (a b : UInt8) : bits .xor .u8 (a.toNat : Int) (b.toNat : Int) = ((a ^^^ b).toNat : Int) := by
  have h := (a ^^^ b).toNat_lt
  have h1 : ((BitVec.ofNat 8 a.toNat) ^^^ (BitVec.ofNat 8 b.toNat)).toNat = (a ^^^ b).toNat := by
    rw [BitVec.toNat_xor, BitVec.toNat_ofNat, BitVec.toNat_ofNat, Nat.mod_eq_of_lt a.toNat_lt, Nat.mod_eq_of_lt b.toNat_lt, UInt8.toNat_xor]
  show IntKind.u8.wrap ((BitVec.ofInt 8 (a.toNat : Int) ^^^ BitVec.ofInt 8 (b.toNat : Int)).toNat : Int) = _
  rw [BitVec.ofInt_natCast, BitVec.ofInt_natCast, h1]
  simp only [IntKind.wrap, IntKind.signed, IntKind.bits]
  simp only [Bool.false_eq_true, if_false, Bool.false_and]
  omega
theorem top_val (x : U) : (x.toNat : Int) / 16777216 = ((top x).toNat : Int) := by rw [top_toNat]; omega
theorem at_table (x : U) (c : UInt8) : bits .xor .u8 ((x.toNat : Int) / 16777216) (c.toNat : Int) = ((top x ^^^ c).toNat : Int) := by rw [top_val, bits_u8]
theorem further_val (x : U) (c : UInt8) : bits .xor .u32 ((x.toNat : Int) * 256 % 4294967296) ((tableP (top x ^^^ c)).toNat : Int) = ((further x c).toNat : Int) := by
  rw [further_table, ← bits_u32, shl_nat]
  rfl
theorem not_val (x : U) : bits .xor .u32 IntKind.u32.max (x.toNat : Int) = ((~~~ x).toNat : Int) := by
  rw [show IntKind.u32.max = ((BitVec.allOnes 32).toNat : Int) by decide, bits_u32]
  have : BitVec.allOnes 32 ^^^ x = ~~~ x := by
    apply BitVec.eq_of_getLsbD_eq
    intro i hi
    rw [BitVec.getLsbD_xor, BitVec.getLsbD_allOnes, BitVec.getLsbD_not]
    cases x.getLsbD i <;> simp [hi]
  rw [this]
theorem runs_snoc (x : U) (l : Bs) (c : UInt8) : runs x (l ++ [c]) = further (runs x l) c := runs_app x l [c]

set_option maxHeartbeats 1000000 in
set_option maxRecDepth 100000 in
theorem sum_any (s : ByteArray) (w : World) (hs : s.size ≤ 1073741824) :
    Calls Tryd.prog 65 #[.string s] w fun e w' => e = .returned (uv (sumP (bs s))) ∧ Below w.heap.size w w' := by
  obtain ⟨hzero, hinf⟩ := zero_of_info Tryd.infoArrU
  obtain ⟨z, hz⟩ : ∃ z, z = tab zu := ⟨_, rfl⟩
  rw [← hz] at hzero
  have HI := hide hinf
  have HZ := hide hz
  clear hz hinf
  have HT := hide (sumTable_any w)
  obtain ⟨A, hAe⟩ : ∃ A, A = tab (fun c => uv (tableP c)) := ⟨_, rfl⟩
  rw [← hAe] at HT
  have HA := hide hAe
  clear hAe
  go_enter Tryd.func65, Tryd.ntmps65
  go_wp2_with fail
  refine (unhide HT).mono ?_
  rintro e w1 ⟨rfl, hb1⟩
  have HB := hide hb1
  clear HT hb1
  have hR0 : Hid (Arr (w1.alloc (.cells z 173)) w1.heap.size 173 zu) := by
    rw [unhide HZ]
    exact heap_alloc_new w1 _
  have hst := hide (run_store_arr (unhide hR0) (c' := tab (fun c => uv (tableP c))) (by rw [tab_size]; exact unhide HI) (by rw [tab_size, tab_size]) (tab_one _ (fun _ => rfl)))
  have hb9 : Hid (Below w.heap.size w ((w1.alloc (.cells z 173)).setRow w1.heap.size (tab (fun c => uv (tableP c))))) := below_setRow ((unhide HB).alloc (unhide HB).size _) (unhide HB).size _
  rw [← unhide HA] at hst hb9
  generalize hw9 : (w1.alloc (.cells z 173)).setRow w1.heap.size A = w9 at *
  have hA9 : Hid (Arr w9 w1.heap.size 173 (fun c => uv (tableP c))) := by rw [← hw9, unhide HA]; exact (unhide hR0).setRow _
  clear hw9 hR0
  go_wp2_with (refine wpList_store_arr _ rfl _ _ 173 rfl _ rfl _ rfl _ (by exact unhide hst) ?_)
  go_loopw [4, 5] (fun v3 v4 wq => ∃ i : Nat, ∃ x : U, i ≤ s.size ∧ v4 = .int .i64 i ∧ v3 = .int .u32 (x.toNat : Int) ∧ Hid (x = runs 0 ((bs s).take i)) ∧ wq = w9) (fun _ v4 _ => s.size - (intOf v4).toNat)
  case atStart => exact ⟨0, 0, by omega, rfl, rfl, rfl, rfl⟩
  case round =>
    obtain ⟨i, x, hi, rfl, rfl, hx, rfl⟩ := hrel
    by_cases hlt : i < s.size
    · have hlt' : (i : Int) < (s.size : Int) := by omega
      have hE := at_table x s[i]
      have hF := hide (further_val x s[i])
      have hx2 : Hid (further x s[i] = runs 0 ((bs s).take (i + 1))) := by
        show _ = _
        rw [List.take_succ_eq_append_getElem (show i < (bs s).length from hlt), runs_snoc, unhide hx]; rfl
      have hcell := (unhide hA9).cell (top x ^^^ s[i])
      generalize top x ^^^ s[i] = c at *
      generalize further x s[i] = y at *
      have h256 : (c.toNat : Int) < 256 := by have := c.toNat_lt; omega
      clear hx
      go_wp2_with fail
      go_roundw
      case rel => exact ⟨i + 1, y, by omega, by go_num, by rw [unhide hF], hx2, by simp⟩
      case measure => simp [intOf]; omega
    · have hx1 : Hid (runs x (lenB s.size) = runs (runs 0 (bs s)) (lenB (bs s).length)) := by
        show _ = _
        rw [unhide hx, List.take_of_length_le (show (bs s).length ≤ i by rw [bs_len]; omega)]; rfl
      have hsum : Hid (sumP (bs s) = ~~~ runs (runs 0 (bs s)) (lenB (bs s).length)) := rfl
      generalize runs (runs 0 (bs s)) (lenB (bs s).length) = T at *
      clear hx
      go_wp2_with fail
      go_loopw [4, 6] (fun v4 v6 wq => ∃ n : Nat, ∃ x : U, n ≤ s.size ∧ v6 = .int .i64 n ∧ v4 = .int .u32 (x.toNat : Int) ∧ Hid (runs x (lenB n) = T) ∧ wq = wr) (fun _ v6 _ => (intOf v6).toNat)
      case atStart => exact ⟨s.size, x, Nat.le_refl _, rfl, rfl, hx1, rfl⟩
      case round =>
        clear hx1 hlt hi
        obtain ⟨n, x, hn, rfl, rfl, hx, rfl⟩ := hrel
        by_cases hp : 0 < n
        · have hp' : (0 : Int) < (n : Int) := by omega
          have hcn : ((UInt8.ofNat n).toNat : Int) = (n : Int) % 256 := by rw [UInt8.toNat_ofNat']; omega
          have hE := at_table x (UInt8.ofNat n)
          rw [hcn] at hE
          have hF := hide (further_val x (UInt8.ofNat n))
          have hx2 : Hid (runs (further x (UInt8.ofNat n)) (lenB (n / 256)) = T) := by
            show _ = _
            rw [← unhide hx, lenB_pos n hp]; rfl
          have hcell := (unhide hA9).cell (top x ^^^ UInt8.ofNat n)
          generalize top x ^^^ UInt8.ofNat n = c at *
          generalize further x (UInt8.ofNat n) = y at *
          have h256 : (c.toNat : Int) < 256 := by have := c.toNat_lt; omega
          clear hx hcn
          go_wp2_with fail
          go_roundw
          case rel => exact ⟨n / 256, y, by omega, by go_num, by rw [unhide hF], hx2, by simp⟩
          case measure => simp [intOf]; omega
        · obtain rfl : n = 0 := by omega
          have hT : Hid (x = T) := by
            show _ = _
            rw [← unhide hx, lenB_zero]; rfl
          clear hx
          go_wp2_with fail
          go_ret
          refine ⟨?_, unhide hb9⟩
          rw [unhide hsum, ← unhide hT]
          show Ending.returned (.int .u32 (bits .xor .u32 IntKind.u32.max (x.toNat : Int))) = _
          rw [not_val]

/-! ### the document's -/
end Go.Proofs.YtjkajhnnoecjbaaDoor.Vw
