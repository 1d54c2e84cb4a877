/- What the document's clause answers. -/
import Derived.Test.YtijknodbaddelaaGreatDoorMoRefB
namespace Go.Proofs.YtijknodbaddelaaGreatDoor.Mo
open Go.RowKit Go.Shelf

theorem bs_ext (s : ByteArray) (i j : Nat) : bs (s.extract i j) = ((bs s).drop i).take (j - i) := by rw [Lib.extract_eq]
theorem bs_from (s : ByteArray) (i : Nat) : bs (s.extract i s.size) = (bs s).drop i := by
  rw [bs_ext, List.take_of_length_le]; simp
theorem whoZ_pos (r : Int) (h : whoZ r ≠ 0) : 0 < whoZ r := by
  unfold whoZ at h ⊢
  (repeat' split at h) <;> (repeat' split) <;> first | omega | contradiction
/-- what action leaves, told by cells -/
theorem action_cells (s : ByteArray) (who : Int) (w : World) (h0 : 0 < s.size) (hs : s.size ≤ 4096) :
    Calls Tryz.prog 58 #[.string s, .int .i64 who] w fun e w' => Below w.heap.size w w' ∧ ∃ (xw : Int) (xo : UInt8) (xb : Int) (xc : UInt8) (xd : Bool) (n : Nat), e = .returned (.tuple #[.agg #[.int .i64 xw, .int .u8 (xo.toNat : Int), .int .i64 xb, .int .u8 (xc.toNat : Int), .bool xd], .int .i64 (n : Int)]) ∧
      ((n = 0 ∧ isOp (s[0].toNat : Int) = false) ∨ (1 ≤ n ∧ Act (bs s) who n ⟨xw, xo, xb, xc, xd⟩)) := by
  refine (action_any s who w h0 hs).mono ?_
  rintro e w' (⟨x, h1, rfl, hb⟩ | ⟨n, x, hA, rfl, hb⟩)
  · exact ⟨hb, x.who, x.op, x.bits, x.cp, x.dirs, 0, rfl, .inl ⟨rfl, h1 _ (bs_at s 0 h0)⟩⟩
  · exact ⟨hb, x.who, x.op, x.bits, x.cp, x.dirs, n, rfl, .inr ⟨hA.lo, hA⟩⟩
theorem head_at {x s : ByteArray} {i : Nat} (h : bs x = (bs s).drop i) (h0 : 0 < x.size) : (bs s)[i]? = some x[0] := by
  have := bs_at x 0 h0
  rw [h, List.getElem?_drop] at this
  exact this
theorem size_of {x s : ByteArray} {i : Nat} (h : bs x = (bs s).drop i) : x.size = s.size - i := by
  have := congrArg List.length h
  simpa [bs_len] using this
theorem clR_no {w w' : World} {b : Bs} (h : clauseP b = none) (a : Option Addr) (n c : Nat) (hb : Below w.heap.size w w') : ClR w b (.returned (.tuple #[.slice a n c, .bool false])) w' := .inl ⟨h, ⟨a, n, c, rfl⟩, hb⟩

set_option maxHeartbeats 1000000 in
set_option maxRecDepth 100000 in
theorem rclause_any (s : ByteArray) (w : World) (hs : s.size ≤ 4096) :
    Calls Tryz.prog 15 #[.string s] w (ClR w (bs s)) := by
  obtain ⟨i0, hi0, hz0, hz1, hz2⟩ := info_parts Tryz.infoCh
  go_enter Tryz.func15, Tryz.ntmps15
  go_upto_block 0 with fail
  go_cut [0, 4] (fun v0 v4 wx => w = wx ∧ ∃ (i : Nat) (x : ByteArray) (wv : Int), v0 = .string x ∧ v4 = .int .i64 wv ∧ i ≤ s.size ∧ x.size ≤ 4096 ∧ Hid (bs x = (bs s).drop i) ∧ Hid (Mid (bs s) i ⟨wv, [], none⟩))
  case first =>
    go_wp2
    go_loop [0, 4] (fun v0 v4 => ∃ (i : Nat) (x : ByteArray) (wv : Int), v0 = .string x ∧ v4 = .int .i64 wv ∧ i ≤ s.size ∧ x.size ≤ 4096 ∧ Hid (bs x = (bs s).drop i) ∧ Hid (runP st0 ((bs s).take i) = some ⟨wv, [], none⟩)) (fun v0 _ => match v0 with | .string x => x.size | _ => 0)
    case atStart => exact ⟨0, s, 0, rfl, rfl, Nat.zero_le _, hs, rfl, rfl⟩
    case round =>
      obtain ⟨i, x, wv, rfl, rfl, hi, hx, hbx, hR⟩ := hrel
      by_cases h0 : 0 < x.size
      · have h0' : 0 < (x.size : Int) := by omega
        obtain ⟨c, hc⟩ : ∃ c, c = x[0] := ⟨_, rfl⟩
        have hat := hide (head_at (unhide hbx) h0)
        rw [← hc] at hat
        have hx0 : x[0] = c := hc.symm
        clear hc
        have HSZ := hide (size_of (unhide hbx))
        have C : Hid (∀ W, Calls Tryz.prog 57 #[.int .u8 (c.toNat : Int)] W fun e w' => e = .returned (.int .i64 (whoZ (c.toNat : Int))) ∧ w' = W) := fun W => rwho_any _ W
        by_cases hw : whoZ (c.toNat : Int) = 0
        · have hM := hide (who_stop (unhide hR) (by rw [bs_len]; exact hi) (fun c' hc' => by rw [unhide hat] at hc'; cases hc'; exact hw))
          have hw0 : ¬ 0 < whoZ (c.toNat : Int) := by omega
          generalize whoZ (c.toNat : Int) = Z at *
          clear hR hat hw
          go_wp2_with fail
          refine (unhide C _).mono ?_
          rintro e w' ⟨rfl, rfl⟩
          go_wp2_with fail
          go_meet
          exact ⟨rfl, i, x, wv, rfl, rfl, hi, hx, hbx, hM⟩
        · have hM := hide (who_step (unhide hR) (unhide hat) hw)
          have hw0 : 0 < whoZ (c.toNat : Int) := whoZ_pos _ hw
          have hb1 : Hid (bs (x.extract 1 x.size) = (bs s).drop (i + 1)) := by show _ = _; rw [bs_from, unhide hbx, List.drop_drop]
          have HS1 := hide (size_of (unhide hb1))
          unfold orI at hM
          generalize whoZ (c.toNat : Int) = Z at *
          clear hR hat hw
          go_wp2_with fail
          refine (unhide C _).mono ?_
          rintro e w' ⟨rfl, rfl⟩
          go_wp2_with fail
          refine (unhide C _).mono ?_
          rintro e w' ⟨rfl, rfl⟩
          go_wp2_with fail
          go_round
          case rel => exact ⟨i + 1, x.extract 1 x.size, _, rfl, rfl, by have := unhide HSZ; omega, by have := unhide HS1; omega, hb1, hM⟩
          case measure => show (x.extract 1 x.size).size < x.size; have := unhide HS1; have := unhide HSZ; omega
      · have h0' : ¬ 0 < (x.size : Int) := by omega
        have HSZ := hide (size_of (unhide hbx))
        have hM := hide (who_stop (unhide hR) (by rw [bs_len]; exact hi) (fun c' hc' => by have := (List.getElem?_eq_some_iff.1 hc').1; rw [bs_len] at this; have := unhide HSZ; omega))
        clear hR
        go_wp2_with fail
        go_meet
        exact ⟨rfl, i, x, wv, rfl, rfl, hi, hx, hbx, hM⟩
  case rest =>
    obtain ⟨rfl, i, x, wv, rfl, rfl, hi, hx, hbx, hM⟩ := hcut
    go_wp2
    go_loopw [0, 5, 6, 7] (fun v0 v5 _ _ wx => ∃ (i : Nat) (x : ByteArray) (st : St) (a5 : Option Addr) (c5 : Nat), v0 = .string x ∧ v5 = .slice a5 st.all.length c5 ∧ st.who = wv ∧ i ≤ s.size ∧ x.size ≤ 4096 ∧ Hid (bs x = (bs s).drop i) ∧ Hid (Mid (bs s) i st) ∧ Hid (wx.ownsRow w.heap.size 54 5 (.slice a5 st.all.length c5) st.all.length (cl st.all)) ∧ Hid (Below w.heap.size w wx)) (fun v0 _ _ _ _ => match v0 with | .string x => x.size | _ => 0)
    case atStart => exact ⟨i, x, ⟨wv, [], none⟩, none, 0, rfl, rfl, rfl, hi, hx, hbx, hM, World.ownsRow_nil _ _ _ _, Below.refl _ _⟩
    case round =>
      clear hbx hM hx hi i x
      obtain ⟨i, x, st, a5, c5, rfl, rfl, hw, hi, hx, hbx, hM, hO, hB⟩ := hrel
      have hlen : st.all.length ≤ 4096 := by have := (unhide hM).len; omega
      have HSZ := hide (size_of (unhide hbx))
      by_cases h0 : 0 < x.size
      · have h0' : 0 < (x.size : Int) := by omega
        have C := hide (fun W => action_cells x wv W h0 hx)
        have HNO := hide (fun hop => (unhide hM).bad (head_at (unhide hbx) h0) hop)
        have HYES : Hid (∀ n y, Act (bs x) wv n y → Mid (bs s) (i + n) ⟨wv, st.all, some y⟩) := by
          intro n y hA
          rw [unhide hbx, ← hw] at hA
          have := (unhide hM).act hA
          rw [hw] at this
          exact this
        clear hw hM
        go_wp2_with fail
        refine (unhide C _).mono ?_
        rintro e w1 ⟨hb1, xw, xo, xb, xc, xd, n, rfl, hcase⟩
        have HB1 : Hid (Below w.heap.size w w1) := (unhide hB).trans (hb1.mono (unhide hB).size)
        have HO1 := hide (own_below (unhide hO) hb1)
        clear hb1 hO hB C
        rcases hcase with ⟨rfl, hop⟩ | ⟨hn1, hA⟩
        · have hno := hide (unhide HNO hop)
          clear hop HNO HYES
          go_wp2_with fail
          go_ret2
          exact clR_no (unhide hno) _ _ _ ((unhide HB1).alloc (unhide HB1).size _)
        · have hM2 := hide (unhide HYES _ _ hA)
          have hnx : n ≤ x.size := by have := hA.hi; rw [bs_len] at this; exact this
          have hn0 : ((n : Int) == 0) = false := by rw [beq_eq_false_iff_ne]; omega
          clear hA HNO HYES
          go_upto_region 10 with fail
          obtain ⟨W3, hW3⟩ : ∃ W, W = w1.alloc (.cells #[.int .i64 xw, .int .u8 (xo.toNat : Int), .int .i64 xb, .int .u8 (xc.toNat : Int), .bool xd] 54) := ⟨_, rfl⟩
          have hX3 : Hid (One W3 w1.heap.size ⟨xw, xo, xb, xc, xd⟩) := by rw [hW3]; exact own_one w1 ⟨xw, xo, xb, xc, xd⟩
          have hO3 : Hid (W3.ownsRow w.heap.size 54 5 (.slice a5 st.all.length c5) st.all.length (cl st.all)) := by rw [hW3]; exact (unhide HO1).alloc _
          have hB3 : Hid (Below w.heap.size w W3) := by rw [hW3]; exact (unhide HB1).alloc (unhide HB1).size _
          have hsz3 := (unhide hB3).size
          have p0 := (unhide hX3).c0
          have p1 := (unhide hX3).c1
          have p2 := (unhide hX3).c2
          have p3 := (unhide hX3).c3
          have p4 := (unhide hX3).c4
          simp only at p0 p1 p2 p3 p4
          rw [← hW3]
          clear hW3 HO1 HB1 hX3
          go_wp2_with (at_builtin; refine wpList_append_own _ rfl _ _ 23 rfl w.heap.size 54 i0 _ 5 32 Tryz.underlying23 hi0 hz0 hz1 hz2 rfl (by decide) _ _ _ rfl ((unhide hO3).alloc _) ⟨W3.heap.size, 0, none⟩ 1 1 (cc ⟨xw, xo, xb, xc, xd⟩) rfl rfl (by exact five_new _ ⟨xw, xo, xb, xc, xd⟩ _) (five_one _) (by unfold maxLen; omega) (by omega) (by simp; omega) ?_; intro v' w4 hown4 hg4 hnil4)
          have hgr := grown_two (row := (Value.slice a5 st.all.length c5).ownBlock) hg4
          have hB4 : Hid (Below w.heap.size w w4) := (unhide hB3).grown hgr (unhide hB3).size (fun j hj => ((unhide hO3).lt j hj).1)
          have hall : (St.all ⟨wv, st.all, some ⟨xw, xo, xb, xc, xd⟩⟩).length = st.all.length + 1 := List.length_append
          obtain ⟨g, cap, rfl⟩ := row_some hown4
          have hO4 : Hid (w4.ownsRow w.heap.size 54 5 (.slice (some ⟨g, 0, none⟩) (St.all ⟨wv, st.all, some ⟨xw, xo, xb, xc, xd⟩⟩).length cap) (St.all ⟨wv, st.all, some ⟨xw, xo, xb, xc, xd⟩⟩).length (cl (St.all ⟨wv, st.all, some ⟨xw, xo, xb, xc, xd⟩⟩))) := by
            rw [hall, show St.all ⟨wv, st.all, some ⟨xw, xo, xb, xc, xd⟩⟩ = st.all ++ [⟨xw, xo, xb, xc, xd⟩] from rfl, cl_snoc]; exact hown4
          have HA := hide hall
          have hbn : Hid (bs (x.extract n x.size) = (bs s).drop (i + n)) := by show _ = _; rw [bs_from, unhide hbx, List.drop_drop]
          have HSN := hide (size_of (unhide hbn))
          have hnx' : (n : Int) ≤ (x.size : Int) := by omega
          clear hown4 hg4 hnil4 hgr hO3 hB3 hall p0 p1 p2 p3 p4
          go_wp2_with fail
          go_roundw
          case rel => exact ⟨i + n, x.extract n x.size, ⟨wv, st.all, some ⟨xw, xo, xb, xc, xd⟩⟩, some ⟨g, 0, none⟩, cap, rfl, by rw [unhide HA], rfl, by have := unhide HSZ; omega, by have := unhide HSN; have := unhide HSZ; omega, hbn, hM2, hO4, hB4⟩
          case measure => show (x.extract n x.size).size < x.size; have := unhide HSN; have := unhide HSZ; omega
      · have h0' : ¬ 0 < (x.size : Int) := by omega
        have hfin : Hid (clauseP (bs s) = if 0 < st.all.length then some st.all else none) := by
          have hend : i = (bs s).length := by have := unhide HSZ; rw [bs_len]; omega
          have hm := unhide hM
          rw [hend] at hm
          exact hm.done
        clear HSZ hM hbx
        by_cases hl : 0 < st.all.length
        · have hl' : 0 < (st.all.length : Int) := by omega
          have hf : Hid (clauseP (bs s) = some st.all) := by show _ = _; rw [unhide hfin, if_pos hl]
          clear hfin
          go_wp2_with fail
          go_ret2
          exact .inr ⟨_, _, unhide hf, rfl, unhide hO, unhide hB⟩
        · have hl' : ¬ 0 < (st.all.length : Int) := by omega
          have hf : Hid (clauseP (bs s) = none) := by show _ = _; rw [unhide hfin, if_neg hl]
          clear hfin
          go_wp2_with fail
          go_ret2
          exact .inl ⟨unhide hf, ⟨a5, st.all.length, c5, rfl⟩, unhide hB⟩
end Go.Proofs.YtijknodbaddelaaGreatDoor.Mo
