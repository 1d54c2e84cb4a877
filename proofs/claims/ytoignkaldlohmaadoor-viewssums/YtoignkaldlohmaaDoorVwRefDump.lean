/- What the document's Dump answers: the same. -/
import Derived.Test.YtoignkaldlohmaaDoorVwDump
import Derived.Test.YtoignkaldlohmaaDoorVwConv
set_option linter.unusedVariables false
namespace Go.Proofs.YtoignkaldlohmaaDoor.Vw
open Go.RowKit Go.Shelf Cu

set_option maxRecDepth 100000 in
set_option maxHeartbeats 2000000 in
theorem rdump_any (s : ByteArray) (w : World) (hs : s.size ≤ 1073741824) :
    Calls Tryd.prog 20 #[.string s] w fun e w' => e = .returned (.string (bt (dumpP (bs s)))) ∧ Below w.heap.size w w' := by
  obtain ⟨i0, hi, hz0, hz1, hz2⟩ := info_parts Cu.Tryd.infoByte
  go_enter Tryd.func20, Tryd.ntmps20
  go_wp2_with fail
  go_loopw [3, 4] (fun u v wr => ∃ k : Nat, v = .int .i64 k ∧ k ≤ s.size ∧ Hid (Row w.heap.size u (dumpTo (bs s) k) wr) ∧ Hid (Below w.heap.size w wr)) (fun _ v _ => s.size - (intOf v).toNat)
  case atStart => exact ⟨0, rfl, Nat.zero_le _, row_nil _ _, Below.refl _ _⟩
  case round =>
    obtain ⟨k, rfl, hk, hrow, hbl⟩ := hrel
    have hsz := (unhide hbl).size
    have hdl := dumpTo_len (bs s) k (by omega)
    by_cases hlt : k < s.size
    · have hlt' : (k : Int) < (s.size : Int) := by omega
      have h256 : (s[k].toNat : Int) < 256 := by have := s[k].toNat_lt; omega
      have h000 : (0 : Int) ≤ (s[k].toNat : Int) := by omega
      have O3 : Hid (∀ W, Calls Tryd.prog 72 #[.int .i64 (s[k].toNat : Int), .int .i64 3] W fun e w' => e = .returned (.string (bt (octP s[k].toNat 3))) ∧ w' = W) := fun W => roctal_any s[k].toNat 3 W (by have := s[k].toNat_lt; omega) (by omega) (by omega)
      have O7 : Hid (∀ W, Calls Tryd.prog 72 #[.int .i64 (k : Int), .int .i64 7] W fun e w' => e = .returned (.string (bt (octP k 7))) ∧ w' = W) := fun W => roctal_any k 7 W (by omega) (by omega) (by omega)
      have hst : Hid (dumpTo (bs s) (k + 1) = (dumpTo (bs s) k ++ if k % 16 = 0 then nl k ++ octP k 7 else []) ++ 32 :: octP s[k].toNat 3) := by
        show _ = _
        rw [dumpTo, show (bs s).getD k 0 = s[k] by rw [List.getD, List.getElem?_eq_getElem (show k < (bs s).length from hlt)]; rfl]
      have hy3 : (({ data := #[32] } : ByteArray) ++ bt (octP s[k].toNat 3)).size ≤ 4 := by apply Nat.le_of_eq; rw [ByteArray.size_append, show (bt (octP s[k].toNat 3)).size = 3 from octP_len3 _]; rfl
      have hx3 : (bt (octP s[k].toNat 3)).size ≤ 3 := Nat.le_of_eq (octP_len3 _)
      have hyb : Hid (bs (({ data := #[32] } : ByteArray) ++ bt (octP s[k].toNat 3)) = 32 :: octP s[k].toNat 3) := by show _ = _; simp [bs, bt]
      have hxb : Hid (bs (bt (octP k 7)) = octP k 7) := rfl
      have hx7 : (bt (octP k 7)).size ≤ 28 := octP_len k 7 (by omega)
      have hY : Hid ((({ data := #[32] } : ByteArray) ++ bt (octP s[k].toNat 3)).size = 1 + (bt (octP s[k].toNat 3)).size) := ByteArray.size_append
      clear hy3
      generalize bt (octP s[k].toNat 3) = y at *
      generalize octP s[k].toNat 3 = yl at *
      generalize bt (octP k 7) = x at *
      generalize octP k 7 = xl at *
      generalize hdt : dumpTo (bs s) k = L at *
      clear hdt
      by_cases h16 : k % 16 = 0
      · have h16' : (k : Int) % 16 = 0 := by omega
        by_cases h0 : 0 < k
        · have h0' : (0 : Int) < (k : Int) := by omega
          have hst2 : Hid (dumpTo (bs s) (k + 1) = ((L ++ [10]) ++ bs x) ++ bs (({ data := #[32] } : ByteArray) ++ y)) := by
            show _ = _
            rw [unhide hst, if_pos h16, unhide hyb, unhide hxb]; simp [nl, h0, List.append_assoc]
          clear hst
          go_wp2_with (at_builtin; refine wpList_append_own _ rfl _ _ 58 rfl w.heap.size 5 i0 (.int .u8 0) 1 1 Tryd.underlying58 hi hz0 hz1 hz2 rfl (by decide) _ _ _ rfl ((unhide hrow).alloc _) ⟨wr.heap.size, 0, none⟩ 1 1 [.int .u8 10] rfl rfl (byte_new _ _ _) (byte_one _) (by unfold maxLen; omega) (by omega) (by simp; omega) ?_)
          intro v1 w1 hO1 hg1 _
          have hb1 : Hid (Below w.heap.size w w1) := ((unhide hbl).alloc hsz _).grown hg1 (by simp; omega) (fun j ej => ((unhide hrow).lt j ej).1)
          have hR1 : Hid (Row w.heap.size v1 (L ++ [10]) w1) := row_snoc hO1 rfl
          have hs1 := (unhide hb1).size
          obtain ⟨M1, hM1⟩ : ∃ M, M = L ++ [10] := ⟨_, rfl⟩
          rw [← hM1] at hR1
          have hm1 : M1.length = L.length + 1 := by rw [hM1, List.length_append]; rfl
          have HM1 := hide hM1
          clear hM1 hO1 hg1 hrow hbl
          go_wp2_with fail
          refine (unhide O7 w1).mono ?_
          rintro e wz2 ⟨rfl, hwz2⟩
          rw [hwz2]
          clear hwz2
          obtain ⟨c2, o2, hcv2, hnews2⟩ := cv_to (x) w1
          go_wp2_with (at_builtin; refine wpList_append_own _ rfl _ _ 58 rfl w.heap.size 5 i0 (.int .u8 0) 1 1 Tryd.underlying58 hi hz0 hz1 hz2 rfl (by decide) _ _ _ rfl ((unhide hR1).alloc o2) ⟨w1.heap.size, 0, none⟩ (x).size c2 (Lib.strCells (x)) rfl (by rw [Lib.strCells_length]; omega) hnews2 (Lib.strCells_oneCell (x)) (by unfold maxLen; omega) (by omega) (by simp; omega) ?_)
          intro v2 w2 hO2 hg2 _
          have hb2 : Hid (Below w.heap.size w w2) := ((unhide hb1).alloc hs1 o2).drew.grown hg2 (by simp; omega) (fun j ej => ((unhide hR1).lt j ej).1)
          have hR2 : Hid (Row w.heap.size v2 (M1 ++ bs (x)) w2) := row_text hO2 (by omega)
          have hs2 := (unhide hb2).size
          obtain ⟨M2, hM2⟩ : ∃ M, M = M1 ++ bs (x) := ⟨_, rfl⟩
          rw [← hM2] at hR2
          have hm2 : M2.length = M1.length + (x).size := by rw [hM2, List.length_append]; (try rw [← unhide hY]); rfl
          have HM2 := hide hM2
          clear hM2 hO2 hg2 hcv2 hnews2 hR1 hb1
          go_wp2_with fail
          refine (unhide O3 w2).mono ?_
          rintro e wz3 ⟨rfl, hwz3⟩
          rw [hwz3]
          clear hwz3
          obtain ⟨c3, o3, hcv3, hnews3⟩ := cv_to (({ data := #[32] } : ByteArray) ++ y) w2
          rw [unhide hY] at hcv3
          go_wp2_with (at_builtin; refine wpList_append_own _ rfl _ _ 58 rfl w.heap.size 5 i0 (.int .u8 0) 1 1 Tryd.underlying58 hi hz0 hz1 hz2 rfl (by decide) _ _ _ rfl ((unhide hR2).alloc o3) ⟨w2.heap.size, 0, none⟩ (1 + y.size) c3 (Lib.strCells (({ data := #[32] } : ByteArray) ++ y)) rfl (by rw [Lib.strCells_length, unhide hY]; omega) hnews3 (Lib.strCells_oneCell (({ data := #[32] } : ByteArray) ++ y)) (by unfold maxLen; omega) (by omega) (by simp; omega) ?_)
          intro v3 w3 hO3 hg3 _
          have hb3 : Hid (Below w.heap.size w w3) := ((unhide hb2).alloc hs2 o3).drew.grown hg3 (by simp; omega) (fun j ej => ((unhide hR2).lt j ej).1)
          have hR3 : Hid (Row w.heap.size v3 (M2 ++ bs (({ data := #[32] } : ByteArray) ++ y)) w3) := row_text hO3 (by have := unhide hY; omega)
          have hs3 := (unhide hb3).size
          obtain ⟨M3, hM3⟩ : ∃ M, M = M2 ++ bs (({ data := #[32] } : ByteArray) ++ y) := ⟨_, rfl⟩
          rw [← hM3] at hR3
          have hm3 : M3.length = M2.length + (1 + y.size) := by rw [hM3, List.length_append]; (try rw [← unhide hY]); rfl
          have HM3 := hide hM3
          clear hM3 hO3 hg3 hcv3 hnews3 hR2 hb2
          rw [unhide HM3, unhide HM2, unhide HM1, ← unhide hst2] at hR3
          go_wp2_with fail
          go_roundw
          case rel => exact ⟨k + 1, by go_num, by omega, hR3, hb3⟩
          case measure => simp [intOf]; omega
        · obtain rfl : k = 0 := by omega
          have hst2 : Hid (dumpTo (bs s) (0 + 1) = (L ++ bs x) ++ bs (({ data := #[32] } : ByteArray) ++ y)) := by
            show _ = _
            rw [unhide hst, if_pos h16, unhide hyb, unhide hxb]; simp [nl]
          clear hst
          go_wp2_with fail
          refine (unhide O7 wr).mono ?_
          rintro e wz2 ⟨rfl, hwz2⟩
          rw [hwz2]
          clear hwz2
          obtain ⟨c2, o2, hcv2, hnews2⟩ := cv_to (x) wr
          go_wp2_with (at_builtin; refine wpList_append_own _ rfl _ _ 58 rfl w.heap.size 5 i0 (.int .u8 0) 1 1 Tryd.underlying58 hi hz0 hz1 hz2 rfl (by decide) _ _ _ rfl ((unhide hrow).alloc o2) ⟨wr.heap.size, 0, none⟩ (x).size c2 (Lib.strCells (x)) rfl (by rw [Lib.strCells_length]; omega) hnews2 (Lib.strCells_oneCell (x)) (by unfold maxLen; omega) (by omega) (by simp; omega) ?_)
          intro v2 w2 hO2 hg2 _
          have hb2 : Hid (Below w.heap.size w w2) := ((unhide hbl).alloc hsz o2).drew.grown hg2 (by simp; omega) (fun j ej => ((unhide hrow).lt j ej).1)
          have hR2 : Hid (Row w.heap.size v2 (L ++ bs (x)) w2) := row_text hO2 (by omega)
          have hs2 := (unhide hb2).size
          obtain ⟨M2, hM2⟩ : ∃ M, M = L ++ bs (x) := ⟨_, rfl⟩
          rw [← hM2] at hR2
          have hm2 : M2.length = L.length + (x).size := by rw [hM2, List.length_append]; (try rw [← unhide hY]); rfl
          have HM2 := hide hM2
          clear hM2 hO2 hg2 hcv2 hnews2 hrow hbl
          go_wp2_with fail
          refine (unhide O3 w2).mono ?_
          rintro e wz3 ⟨rfl, hwz3⟩
          rw [hwz3]
          clear hwz3
          obtain ⟨c3, o3, hcv3, hnews3⟩ := cv_to (({ data := #[32] } : ByteArray) ++ y) w2
          rw [unhide hY] at hcv3
          go_wp2_with (at_builtin; refine wpList_append_own _ rfl _ _ 58 rfl w.heap.size 5 i0 (.int .u8 0) 1 1 Tryd.underlying58 hi hz0 hz1 hz2 rfl (by decide) _ _ _ rfl ((unhide hR2).alloc o3) ⟨w2.heap.size, 0, none⟩ (1 + y.size) c3 (Lib.strCells (({ data := #[32] } : ByteArray) ++ y)) rfl (by rw [Lib.strCells_length, unhide hY]; omega) hnews3 (Lib.strCells_oneCell (({ data := #[32] } : ByteArray) ++ y)) (by unfold maxLen; omega) (by omega) (by simp; omega) ?_)
          intro v3 w3 hO3 hg3 _
          have hb3 : Hid (Below w.heap.size w w3) := ((unhide hb2).alloc hs2 o3).drew.grown hg3 (by simp; omega) (fun j ej => ((unhide hR2).lt j ej).1)
          have hR3 : Hid (Row w.heap.size v3 (M2 ++ bs (({ data := #[32] } : ByteArray) ++ y)) w3) := row_text hO3 (by have := unhide hY; omega)
          have hs3 := (unhide hb3).size
          obtain ⟨M3, hM3⟩ : ∃ M, M = M2 ++ bs (({ data := #[32] } : ByteArray) ++ y) := ⟨_, rfl⟩
          rw [← hM3] at hR3
          have hm3 : M3.length = M2.length + (1 + y.size) := by rw [hM3, List.length_append]; (try rw [← unhide hY]); rfl
          have HM3 := hide hM3
          clear hM3 hO3 hg3 hcv3 hnews3 hR2 hb2
          rw [unhide HM3, unhide HM2, ← unhide hst2] at hR3
          go_wp2_with fail
          go_roundw
          case rel => exact ⟨0 + 1, by go_num, by omega, hR3, hb3⟩
          case measure => simp [intOf]; omega
      · have h16' : ¬ (k : Int) % 16 = 0 := by omega
        have hst2 : Hid (dumpTo (bs s) (k + 1) = L ++ bs (({ data := #[32] } : ByteArray) ++ y)) := by
          show _ = _
          rw [unhide hst, if_neg h16, unhide hyb]; simp
        clear hst
        go_wp2_with fail
        refine (unhide O3 wr).mono ?_
        rintro e wz3 ⟨rfl, hwz3⟩
        rw [hwz3]
        clear hwz3
        obtain ⟨c3, o3, hcv3, hnews3⟩ := cv_to (({ data := #[32] } : ByteArray) ++ y) wr
        rw [unhide hY] at hcv3
        go_wp2_with (at_builtin; refine wpList_append_own _ rfl _ _ 58 rfl w.heap.size 5 i0 (.int .u8 0) 1 1 Tryd.underlying58 hi hz0 hz1 hz2 rfl (by decide) _ _ _ rfl ((unhide hrow).alloc o3) ⟨wr.heap.size, 0, none⟩ (1 + y.size) c3 (Lib.strCells (({ data := #[32] } : ByteArray) ++ y)) rfl (by rw [Lib.strCells_length, unhide hY]; omega) hnews3 (Lib.strCells_oneCell (({ data := #[32] } : ByteArray) ++ y)) (by unfold maxLen; omega) (by omega) (by simp; omega) ?_)
        intro v3 w3 hO3 hg3 _
        have hb3 : Hid (Below w.heap.size w w3) := ((unhide hbl).alloc hsz o3).drew.grown hg3 (by simp; omega) (fun j ej => ((unhide hrow).lt j ej).1)
        have hR3 : Hid (Row w.heap.size v3 (L ++ bs (({ data := #[32] } : ByteArray) ++ y)) w3) := row_text hO3 (by have := unhide hY; omega)
        have hs3 := (unhide hb3).size
        obtain ⟨M3, hM3⟩ : ∃ M, M = L ++ bs (({ data := #[32] } : ByteArray) ++ y) := ⟨_, rfl⟩
        rw [← hM3] at hR3
        have hm3 : M3.length = L.length + (1 + y.size) := by rw [hM3, List.length_append]; (try rw [← unhide hY]); rfl
        have HM3 := hide hM3
        clear hM3 hO3 hg3 hcv3 hnews3 hrow hbl
        rw [unhide HM3, ← unhide hst2] at hR3
        go_wp2_with fail
        go_roundw
        case rel => exact ⟨k + 1, by go_num, by omega, hR3, hb3⟩
        case measure => simp [intOf]; omega
    · obtain rfl : k = s.size := by omega
      have O7 : Hid (∀ W, Calls Tryd.prog 72 #[.int .i64 (s.size : Int), .int .i64 7] W fun e w' => e = .returned (.string (bt (octP s.size 7))) ∧ w' = W) := fun W => roctal_any s.size 7 W (by omega) (by omega) (by omega)
      have hxb : Hid (bs (bt (octP s.size 7)) = octP s.size 7) := rfl
      have hx7 : (bt (octP s.size 7)).size ≤ 28 := octP_len s.size 7 (by omega)
      have hP : Hid (dumpP (bs s) = dumpTo (bs s) s.size ++ nl s.size ++ octP s.size 7 ++ [10]) := rfl
      generalize bt (octP s.size 7) = x at *
      generalize octP s.size 7 = xl at *
      generalize dumpTo (bs s) s.size = L at *
      by_cases h0 : 0 < s.size
      · have h0' : (0 : Int) < (s.size : Int) := by omega
        go_wp2_with (at_builtin; refine wpList_append_own _ rfl _ _ 58 rfl w.heap.size 5 i0 (.int .u8 0) 1 1 Tryd.underlying58 hi hz0 hz1 hz2 rfl (by decide) _ _ _ rfl ((unhide hrow).alloc _) ⟨wr.heap.size, 0, none⟩ 1 1 [.int .u8 10] rfl rfl (byte_new _ _ _) (byte_one _) (by unfold maxLen; omega) (by omega) (by simp; omega) ?_)
        intro v1 w1 hO1 hg1 _
        have hb1 : Hid (Below w.heap.size w w1) := ((unhide hbl).alloc hsz _).grown hg1 (by simp; omega) (fun j ej => ((unhide hrow).lt j ej).1)
        have hR1 : Hid (Row w.heap.size v1 (L ++ [10]) w1) := row_snoc hO1 rfl
        have hcv := fun n => cv_back (W := w1.drewN n) _ (row_below (unhide hR1) (below_drew w1 n))
        have hfin : Hid (bt (L ++ [10]) ++ x ++ { data := #[10] } = bt (dumpP (bs s))) := by
          show _ = _
          apply ba_ext
          rw [unhide hP, ← unhide hxb]
          simp [bs, bt, nl, h0]
        have hxs : (bt (L ++ [10])).size = L.length + 1 := by rw [bt_len, List.length_append]; rfl
        clear hO1 hg1 hrow hbl
        go_wp2_with fail
        go_quiet ((go_at_call 72; exact Calls.quiet_of_same (unhide O7 _)))
        go_wp2_with fail
        go_ret
        exact ⟨by rw [← unhide hfin]; rfl, below_drewN (unhide hb1) _⟩
      · have h0' : ¬ (0 : Int) < (s.size : Int) := by omega
        have hcv := fun n => cv_back (W := wr.drewN n) _ (row_below (unhide hrow) (below_drew wr n))
        have hfin : Hid (bt L ++ x ++ { data := #[10] } = bt (dumpP (bs s))) := by
          show _ = _
          apply ba_ext
          rw [unhide hP, ← unhide hxb]
          simp [bs, bt, nl, h0]
        have hxs : (bt L).size = L.length := rfl
        obtain ⟨ua, uc, hu⟩ := row_slice (unhide hrow)
        subst hu
        go_wp2_with fail
        go_quiet ((go_at_call 72; exact Calls.quiet_of_same (unhide O7 _)))
        go_wp2_with fail
        go_ret
        exact ⟨by rw [← unhide hfin]; rfl, below_drewN (unhide hbl) _⟩
end Go.Proofs.YtoignkaldlohmaaDoor.Vw
