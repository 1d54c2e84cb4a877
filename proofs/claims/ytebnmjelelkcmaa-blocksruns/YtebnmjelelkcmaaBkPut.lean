/- What put answers. -/
import Derived.Test.YtebnmjelelkcmaaBkBuild
import Derived.Deep.LoopGhost
set_option linter.unusedVariables false
namespace Go.Proofs.Ytebnmjelelkcmaa.Bk
open Go.RowKit Go.Shelf Cu

theorem prod_le {a b : Int} (h0 : 0 ≤ a) (h1 : a ≤ 2147483647) (h2 : 0 ≤ b) (h3 : b ≤ 65536) : 0 ≤ a * b ∧ a * b ≤ 140737488289792 := by
  refine ⟨Int.mul_nonneg h0 h2, ?_⟩
  have := Int.mul_le_mul h1 h3 h2 (by omega : (0 : Int) ≤ 2147483647)
  omega
theorem cells_app (a b : Bs) : Lib.byteCells a ++ Lib.byteCells b = Lib.byteCells (a ++ b) := by simp [Lib.byteCells]
theorem str_cells (s : ByteArray) : Lib.strCells s = Lib.byteCells (bs s) := rfl
def putR (p : Pl) (g out : Bs) : Value := if 1048576 < (p.se * p.o).toNat + g.length then .tuple #[.string ⟨#[]⟩, .bool false] else .tuple #[.string ⟨(putP p g out).toArray⟩, .bool true]

set_option maxRecDepth 100000 in
set_option maxHeartbeats 600000 in
theorem put_any (p : Pl) (gs out : ByteArray) (w : World) (h1 : 1 ≤ p.o) (h2 : p.o ≤ 65536) (h3 : 0 ≤ p.se) (h4 : p.se ≤ 2147483647) (hg : gs.size ≤ 70000000000) (ho : out.size ≤ 1048576) :
    Calls Try.prog 18 #[.agg (plC p), .string gs, .string out] w fun e w' => e = .returned (putR p (bs gs) (bs out)) ∧ Below w.heap.size w w' := by
  unfold putR putP
  rw [bs_len]
  obtain ⟨i, o, sk, ct, se, kp, sw, up, lo, sy⟩ := p
  unfold plC
  simp only at h1 h2 h3 h4 ⊢
  obtain ⟨b1, b2⟩ := prod_le h3 h4 (by omega : 0 ≤ o) h2
  obtain ⟨a, hA⟩ : ∃ a : Nat, se * o = (a : Int) := ⟨(se * o).toNat, by omega⟩
  rw [hA] at b1 b2
  simp only [hA, Int.toNat_natCast]
  by_cases hov : 1048576 < a + gs.size
  · rw [if_pos hov]
    have hov' : (1048576 : Int) < (a : Int) + (gs.size : Int) := by omega
    clear hov
    go_enter Try.func18, Try.ntmps18
    go_wp2_with fail
    go_ret2
    exact ⟨rfl, (Below.refl _ _).alloc (Nat.le_refl _) _⟩
  · rw [if_neg hov]
    have hov' : ¬ (1048576 : Int) < (a : Int) + (gs.size : Int) := by omega
    obtain ⟨m, hm⟩ : ∃ m, m = min a out.size := ⟨_, rfl⟩
    have hm1 : m ≤ out.size := by omega
    have hmin : min (a : Int) (out.size : Int) = (m : Int) := by omega
    have HT : Hid ((bs out).take a = bs (out.extract 0 m)) := by
      rw [bs_to, hm]
      by_cases h : a ≤ out.size
      · rw [Nat.min_eq_left h]; exact rfl
      · rw [Nat.min_eq_right (by omega), List.take_of_length_le (by rw [bs_len]; omega), List.take_of_length_le (by rw [bs_len]; exact Nat.le_refl _)]; exact rfl
    have HZ : Hid (a - out.size = a - m) := by show a - out.size = a - m; omega
    have hxs : (out.extract 0 m).size = m := by rw [← bs_len, bs_to, List.length_take, bs_len]; omega
    have hma : m ≤ a := by omega
    have HM := hide hm
    clear hm hov
    rw [unhide HT]
    obtain ⟨X, hX⟩ : ∃ X, X = out.extract 0 m := ⟨_, rfl⟩
    rw [← hX] at hxs ⊢
    have HX := hide hX
    have HXS := hide hxs
    clear hX HT hxs
    obtain ⟨O, hO⟩ : ∃ O : Obj, O = .cells #[.int .i64 i, .int .i64 o, .int .i64 sk, .int .i64 ct, .int .i64 se, .bool kp, .bool sw, .bool up, .bool lo, .bool sy] 23 := ⟨_, rfl⟩
    obtain ⟨W0, HW0⟩ : ∃ W, Hid (W = w.alloc O) := ⟨_, rfl⟩
    have hz0 : w.heap.size < W0.heap.size := by rw [unhide HW0]; simp
    have hk5 : W0.cell? ⟨w.heap.size, 5, none⟩ = some (.bool kp) := by rw [unhide HW0, hO]; simp
    have HK5 := hide hk5
    have HB0 : Hid (Below w.heap.size w W0) := by rw [unhide HW0]; exact (Below.refl _ _).alloc (Nat.le_refl _) _
    have hS0 : W0.heap.size = w.heap.size + 1 := by rw [unhide HW0]; simp
    have hf0 := Lib.fresh_isBuilder 56 5 W0
    rw [hS0] at hf0
    have C1 := hide (Ln.writeString_any (w.heap.size + 1) (w.heap.size + 1) [] X (W0.alloc (.cells #[.pointer none, .slice none 0 0] 56)) hf0 (by have := unhide HXS; simp; omega) (by simp; omega))
    have HA0 : Hid (Below (w.heap.size + 1) W0 (W0.alloc (.cells #[.pointer none, .slice none 0 0] 56))) := (Below.refl _ _).alloc (by omega) _
    have HS0 := hide hS0
    clear hf0 hS0
    clear hk5
    go_enter Try.func18, Try.ntmps18
    go_wp2_with fail
    rw [← hO, ← unhide HW0]
    clear hO HW0
    rw [← unhide HX]
    refine (unhide C1).mono ?_
    rintro e w1 ⟨rfl, hI1, hb1⟩
    have HI1 : Hid (Ln.IsB (w.heap.size + 1) (w.heap.size + 1) (bs X ++ List.replicate 0 0) w1) := by simpa [Hid, Ln.IsB, str_cells] using hI1
    have HB1 : Hid (Below (w.heap.size + 1) W0 w1) := (unhide HA0).trans hb1
    clear hI1 hb1 C1
    go_wp2_with fail
    go_loopg [29] (a - m) (fun g _ wr => ∃ j : Nat, j ≤ a - m ∧ g = (a - m) - j ∧ Hid (Ln.IsB (w.heap.size + 1) (w.heap.size + 1) (bs X ++ List.replicate j 0) wr) ∧ Hid (Below (w.heap.size + 1) W0 wr))
    case atStart => exact ⟨0, Nat.zero_le _, rfl, HI1, HB1⟩
    case round =>
      clear HI1 HB1
      obtain ⟨j, hj, rfl, HI, HB⟩ := hrel
      have hsz : w.heap.size + 1 ≤ wr.heap.size := by have := (unhide HB).size; have := unhide HS0; omega
      have hlen : (bs X ++ List.replicate j 0).length = m + j := by rw [List.length_append, bs_len, unhide HXS]; simp
      have CL := hide (len_any (w.heap.size + 1) (w.heap.size + 1) _ wr (unhide HI))
      rw [hlen] at CL
      by_cases hlt : j < a - m
      · have hlt' : (((m + j : Nat) : Nat) : Int) < (a : Int) := by omega
        have CW := hide (Ln.writeByte_any (w.heap.size + 1) (w.heap.size + 1) _ 0 wr (unhide HI) (by rw [Lib.byteCells_length, hlen]; omega) hsz)
        clear hlen
        go_wp2_with (first | (go_at_call 28; refine (unhide CL).mono ?_; rintro e w' ⟨rfl, rfl⟩) | fail)
        refine (unhide CW).mono ?_
        rintro e w2 ⟨rfl, hI2, hb2⟩
        have HI2 : Hid (Ln.IsB (w.heap.size + 1) (w.heap.size + 1) (bs X ++ List.replicate (j + 1) 0) w2) := by
          rw [List.replicate_succ', ← List.append_assoc]
          simpa [Hid, Ln.IsB, Lib.byteCells] using hI2
        have HB2 : Hid (Below (w.heap.size + 1) W0 w2) := (unhide HB).trans hb2
        clear hI2 hb2 CW CL HI HB
        go_wp2_with fail
        go_roundg ((a - m) - (j + 1))
        case measure => omega
        case rel => exact ⟨j + 1, by omega, rfl, HI2, HB2⟩
      · obtain rfl : j = a - m := by omega
        have hlt' : ¬ (((m + (a - m) : Nat) : Nat) : Int) < (a : Int) := by omega
        rw [show m + (a - m) = a from by omega] at CL
        have hk5 := ((unhide HB).cell (p := ⟨w.heap.size, 5, none⟩) (Nat.lt_succ_self _)).trans (unhide HK5)
        have CW := hide (Ln.writeString_any (w.heap.size + 1) (w.heap.size + 1) _ gs wr (unhide HI) (by rw [Lib.byteCells_length, hlen]; omega) hsz)
        have HAE : Hid (a - out.size = a - m) := HZ
        clear hlen HI
        go_wp2_with (first | (go_at_call 28; refine (unhide CL).mono ?_; rintro e w' ⟨rfl, rfl⟩) | fail)
        refine (unhide CW).mono ?_
        rintro e w2 ⟨rfl, hI2, hb2⟩
        have HI2 : Hid (Ln.IsB (w.heap.size + 1) (w.heap.size + 1) (bs X ++ List.replicate (a - m) 0 ++ bs gs) w2) := by
          rw [str_cells, cells_app] at hI2; exact hI2
        have HB2 : Hid (Below (w.heap.size + 1) W0 w2) := (unhide HB).trans hb2
        have hk6 := ((unhide HB2).cell (p := ⟨w.heap.size, 5, none⟩) (Nat.lt_succ_self _)).trans (unhide HK5)
        have hz2 : w.heap.size + 1 ≤ w2.heap.size := Nat.le_trans hsz hb2.size
        clear hI2 hb2 CW CL hk5
        have HE : Hid (∀ l : Bs, Hid (Ln.IsB (w.heap.size + 1) (w.heap.size + 1) l w2) → Calls Try.prog 29 #[.pointer (some ⟨w.heap.size + 1, 0, none⟩)] w2 fun e w' => e = .returned (.string ⟨l.toArray⟩) ∧ Below (w.heap.size + 1) w2 w') := fun l h => Ln.string_any _ _ l w2 (unhide h) hz2
        cases kp
        · have CS := hide (unhide HE _ HI2)
          clear HI2 HE
          go_wp2_with fail
          refine (unhide CS).mono ?_
          rintro e w3 ⟨rfl, hb3⟩
          have HB3 : Hid (Below w.heap.size w w3) := (unhide HB0).trans (((unhide HB2).trans hb3).mono (by omega))
          clear hb3 CS
          go_wp2_with fail
          go_ret2
          exact ⟨by simp [unhide HAE], unhide HB3⟩
        · by_cases hke : a + gs.size < out.size
          · have hke' : (a : Int) + (gs.size : Int) < (out.size : Int) := by omega
            have htn : ((a : Int) + (gs.size : Int)).toNat = a + gs.size := by omega
            have hxx : (out.extract (a + gs.size) out.size).size ≤ out.size := by rw [size_from]; omega
            have hbx := hide (bs_from out (a + gs.size))
            have hl2 : (bs X ++ List.replicate (a - m) 0 ++ bs gs).length ≤ 2147483648 := by rw [List.length_append, List.length_append, bs_len, bs_len, unhide HXS]; simp; omega
            have CW := hide (Ln.writeString_any (w.heap.size + 1) (w.heap.size + 1) _ (out.extract (a + gs.size) out.size) w2 (unhide HI2) (by rw [Lib.byteCells_length]; omega) hz2)
            clear hxx hl2 HE HI2
            go_wp2_with fail
            refine (unhide CW).mono ?_
            rintro e w3 ⟨rfl, hI3, hb3⟩
            have hI3' : Ln.IsB (w.heap.size + 1) (w.heap.size + 1) (bs X ++ List.replicate (a - m) 0 ++ bs gs ++ (bs out).drop (a + gs.size)) w3 := by
              rw [str_cells, unhide hbx, cells_app] at hI3; exact hI3
            have CS := hide (Ln.string_any _ _ _ w3 hI3' (Nat.le_trans hz2 hb3.size))
            have HB3 : Hid (Below (w.heap.size + 1) W0 w3) := (unhide HB2).trans hb3
            clear hI3 hI3' hb3 CW
            go_wp2_with fail
            refine (unhide CS).mono ?_
            rintro e w4 ⟨rfl, hb4⟩
            have HB4 : Hid (Below w.heap.size w w4) := (unhide HB0).trans (((unhide HB3).trans hb4).mono (by omega))
            clear hb4 CS
            go_wp2_with fail
            go_ret2
            exact ⟨by simp [unhide HAE], unhide HB4⟩
          · have hke' : ¬ (a : Int) + (gs.size : Int) < (out.size : Int) := by omega
            have hdr := hide (bs_end out (a + gs.size) (by omega))
            have CS := hide (unhide HE _ HI2)
            clear HI2 HE
            go_wp2_with fail
            refine (unhide CS).mono ?_
            rintro e w3 ⟨rfl, hb3⟩
            have HB3 : Hid (Below w.heap.size w w3) := (unhide HB0).trans (((unhide HB2).trans hb3).mono (by omega))
            clear hb3 CS
            go_wp2_with fail
            go_ret2
            exact ⟨by rw [unhide hdr]; simp [unhide HAE], unhide HB3⟩
end Go.Proofs.Ytebnmjelelkcmaa.Bk
