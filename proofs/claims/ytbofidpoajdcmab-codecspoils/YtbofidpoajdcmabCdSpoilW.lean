/- The law CodecSpoils: walked. -/
import Derived.Test.YtbofidpoajdcmabCdLives
import Derived.Test.YtbofidpoajdcmabCdSpoilP
namespace Go.Proofs.Ytbofidpoajdcmab.Cd
open Go.RowKit Cu Tr

abbrev a4 (a b c d : UInt8) : Array Value := #[.int .u8 (a.toNat : Int), .int .u8 (b.toNat : Int), .int .u8 (c.toNat : Int), .int .u8 (d.toNat : Int)]
theorem eqB4 (e : Nat) (a b c d : UInt8) (W : World) : (Op.equalIn (e + 1 + 1) 36 (.agg (a4 a b c d)) (.agg #[.int .u8 0, .int .u8 0, .int .u8 0, .int .u8 0])).run Try.prog W = .ok (still [a, b, c, d] 4) W := by
  rw [Op.equalIn]
  simp only [Sem.run_bind, run_underlying Try.underlying36, Result.andThen_ok]
  have h3 := fun x y W => run_equalIn_int (P := Try.prog) W e 5 .u8 .u8 x y Try.underlying5
  have hz : ∀ x : UInt8, ((x.toNat : Int) == 0) = (x == 0) := fun x => by
    by_cases h : x = 0
    · subst h; rfl
    · have : ¬ ((x.toNat : Int) = 0) := fun h2 => h (UInt8.toNat_inj.1 (by show x.toNat = 0; omega))
      rw [beq_eq_false_iff_ne.2 this, beq_eq_false_iff_ne.2 h]
  simp [Std.Legacy.Range.forIn_eq_forIn_range', Std.Legacy.Range.size, List.range', go_sem, h3, hz, still]
  by_cases ha : a = 0 <;> by_cases hb : b = 0 <;> by_cases hc : c = 0 <;> by_cases hd : d = 0 <;> simp [ha, hb, hc, hd]
theorem eq4 (a b c d : UInt8) (W : World) : (binOp .eql 36 (.agg (a4 a b c d)) (.agg #[.int .u8 0, .int .u8 0, .int .u8 0, .int .u8 0])).run Try.prog W = .ok (.bool (still [a, b, c, d] 4)) W := by
  rw [run_eql_struct]
  have h := eqB4 9998 a b c d W
  rw [h]
  rfl
theorem row_set {w : World} {B g n : Nat} {l : Bs} (h : Row B (.slice (some ⟨g, 0, none⟩) l.length n) l w) (j : Nat) (c : UInt8) : Row B (.slice (some ⟨g, 0, none⟩) (l.set j c).length n) (l.set j c) (w.setCell ⟨g, j, none⟩ (.int .u8 (c.toNat : Int))) := by
  have := (h.stored j (.int .u8 (c.toNat : Int))).1
  simpa [Row, Lib.byteCells, List.map_set] using this
theorem row_cell {w : World} {B g n m : Nat} {l : Bs} (h : Row B (.slice (some ⟨g, 0, none⟩) m n) l w) (hm : l.length = m) (j : Nat) (x : UInt8) (hj : l[j]? = some x) : w.cell? ⟨g, j, none⟩ = some (.int .u8 (x.toNat : Int)) := by
  subst hm
  have hlt := (List.getElem?_eq_some_iff.1 hj).1
  rw [h.cellAt j (by omega)]
  simp [Lib.byteCells, hj]
theorem row_fz {w : World} {B g n m : Nat} {l : Bs} (h : Row B (.slice (some ⟨g, 0, none⟩) m n) l w) (j : Nat) : w.frozen? ⟨g, j, none⟩ = false := by
  rcases h.2 with ⟨hv, _⟩ | ⟨g', cap, cur, hv, _, hg, _⟩
  · cases hv
  · injection hv with hv
    injection hv with hv
    injection hv with hv
    subst hv
    simp [World.frozen?, hg]
/-- so far as bytes are changed -/
structure Sp (w : World) (g n cp k i : Nat) (l ds : Bs) (a b c d : UInt8) (wr : World) : Prop where
  row : Row (w.heap.size + 1) (.slice (some ⟨g, 0, none⟩) n cp) (spo l k ds i) wr
  box : wr.heap[w.heap.size]? = some (.cells (a4 a b c d) 36 (0, 0))
  below : Below w.heap.size w wr
theorem Sp.next {w : World} {g n cp k i : Nat} {l ds : Bs} {a b c d : UInt8} {wr : World} (h : Sp w g n cp k i l ds a b c d wr) (hn : l.length = n) (hk : k + i < n) (hi : i < ds.length) (q : Nat) :
    Sp w g n cp k (i + 1) l ds a b c d ((wr.setCell ⟨g, k + i, none⟩ (.int .u8 ((l.getD (k + i) 0 ^^^ ds.getD i 0).toNat : Int))).drewN q) := by
  have hg := row_lo h.row g rfl
  have hlen := spo_len l k ds i (by omega) (by omega)
  have hlen2 := spo_len l k ds (i + 1) (by omega) (by omega)
  have hR := h.row
  rw [← hn, ← hlen] at hR
  have hR2 := row_set hR (k + i) (l.getD (k + i) 0 ^^^ ds.getD i 0)
  rw [spo_set l k ds i (by omega) hi, hlen2, hn] at hR2
  refine ⟨row_below hR2 (below_drew _ _), ?_, ?_⟩
  · show (wr.setCell _ _).heap[w.heap.size]? = _
    rw [heap_setCell_other _ _ _ _ (by show w.heap.size ≠ g; omega)]
    exact h.box
  · have := h.below.setCell (p := ⟨g, k + i, none⟩) (by show w.heap.size ≤ g; omega) (.int .u8 ((l.getD (k + i) 0 ^^^ ds.getD i 0).toNat : Int))
    exact ⟨this.os, this.tape, this.output, this.size, this.block⟩
set_option maxHeartbeats 4000000 in
set_option maxRecDepth 100000 in
theorem spoils_walk (a : Option Addr) (n cap : Nat) (l : Bs) (at' : Nat) (b0 b1 b2 b3 : UInt8) (w : World) (hB : By w a n cap l) (hn : n ≤ 9223372036854775807) (hat : at' < 65536) :
    Calls Try.prog 4 #[.slice a n cap, .int .u16 (at' : Int), .agg (a4 b0 b1 b2 b3)] w fun e w' => e = .returned (.bool true) ∧ Below w.heap.size w w' := by
  obtain ⟨i0, hi, hz0, hz1, hz2⟩ := info_parts Try.infoByte
  have hq4 := eq4 b0 b1 b2 b3
  obtain ⟨st, hst⟩ : ∃ st, st = still [b0, b1, b2, b3] 4 := ⟨_, rfl⟩
  rw [← hst] at hq4
  have HST := hide hst
  clear hst
  have b1' := hide (below_new w (.cells (a4 b0 b1 b2 b3) 36))
  have B1 := hide (hB.below (unhide b1'))
  have hbox : Hid ((w.alloc (.cells (a4 b0 b1 b2 b3) 36)).heap[w.heap.size]? = some (.cells (a4 b0 b1 b2 b3) 36 (0, 0))) := heap_alloc_new w _
  have L1 := hide (lives_any (w.alloc (.cells (a4 b0 b1 b2 b3) 36)))
  have HL := hide hB.len
  have HBw := hide hB
  clear hB
  by_cases hn0 : n = 0
  · subst hn0
    go_enter Try.func4, Try.ntmps4
    go_wp2_with fail
    refine (unhide L1).mono ?_
    rintro e w5 ⟨rfl, hb⟩
    have b5 := hide ((unhide b1').trans (hb.mono (unhide b1').size))
    clear hb
    go_wp2_with fail
    go_ret
    exact ⟨rfl, unhide b5⟩
  · by_cases hbig : n ≤ 100000
    · cases st with
      | true =>
        have hn0' : ((n : Int) == 0) = false := by rw [beq_eq_false_iff_ne]; omega
        have hbig' : ¬ (100000 : Int) < (n : Int) := by omega
        go_enter Try.func4, Try.ntmps4
        go_wp2_with fail
        refine (unhide L1).mono ?_
        rintro e w5 ⟨rfl, hb⟩
        have b5 := hide ((unhide b1').trans (hb.mono (unhide b1').size))
        clear hb
        go_wp2_with fail
        go_ret
        exact ⟨rfl, unhide b5⟩
      | false =>
        have hn0' : ((n : Int) == 0) = false := by rw [beq_eq_false_iff_ne]; omega
        have hbig' : ¬ (100000 : Int) < (n : Int) := by omega
        go_enter Try.func4, Try.ntmps4
        go_wp2_with (first | (at_builtin; refine wpList_append_ontoA rfl _ _ 25 rfl (w.heap.size + 1) 5 i0 _ 1 1 Try.underlying25 hi hz0 hz1 hz2 rfl (by decide) _ 0 [] rfl (row_nil _ _) a n cap (Lib.byteCells l) rfl (unhide B1).nil (by have := (unhide B1).len; simp [Lib.byteCells]; omega) (By.news (unhide B1)) (byteCells_one l) (by unfold maxLen; omega) (by omega) (by simp) ?_))
        intro v2 w2 hO2 hG2 _
        have hR2 : Row (w.heap.size + 1) v2 l w2 := by
          have e := unhide HL
          subst e
          simpa [Row] using hO2
        obtain ⟨g, cp, rfl⟩ := row_some hR2 (by have := unhide HL; omega)
        rw [unhide HL] at hR2 ⊢
        have hgr : Below (w.heap.size + 1) (w.alloc (.cells (a4 b0 b1 b2 b3) 36)) w2 := ⟨hG2.os, hG2.tape, hG2.output, hG2.size, fun k hk => hG2.block k (by simp; omega) (by simp [Value.ownBlock])⟩
        obtain ⟨k, hk⟩ : ∃ k, k = at' % n := ⟨_, rfl⟩
        have hkn : k < n := by rw [hk]; exact Nat.mod_lt _ (by omega)
        rw [show ((at' : Int) % (n : Int)) = (k : Int) by rw [hk]; rfl]
        have S2 : Hid (Sp w g n cp k 0 l [b0, b1, b2, b3] b0 b1 b2 b3 w2) := ⟨by rw [spo_zero]; exact hR2, (hgr.block _ (Nat.lt_succ_self _)).trans (unhide hbox), (unhide b1').trans (hgr.mono (Nat.le_succ _))⟩
        clear hO2 hG2 hR2 hgr hk hbox L1 hq4
        obtain ⟨ds, hds⟩ : ∃ ds, ds = [b0, b1, b2, b3] := ⟨_, rfl⟩
        rw [← hds] at S2
        have hd4 : ds.length = 4 := by rw [hds]; rfl
        have HD : Hid (∀ i, i < 4 → (a4 b0 b1 b2 b3)[i]? = some (.int .u8 ((ds.getD i 0).toNat : Int))) := fun i hi => by
          rw [hds]
          match i, hi with
          | 0, _ => rfl
          | 1, _ => rfl
          | 2, _ => rfl
          | 3, _ => rfl
        clear hds
        go_wp2_with fail
        go_loopw [9, 10] (fun v9 v10 wr => ∃ i : Nat, i ≤ 4 ∧ k + i ≤ n ∧ v10 = .int .i64 i ∧ v9 = .bool (still ds i) ∧ Hid (Sp w g n cp k i l ds b0 b1 b2 b3 wr)) (fun _ v10 _ => 4 - (intOf v10).toNat)
        case atStart => exact ⟨0, by omega, by omega, rfl, by simp [still], S2⟩
        case round =>
          clear S2
          obtain ⟨i, hi4, hkin, rfl, rfl, hS⟩ := hrel
          by_cases hgo : i < 4 ∧ k + i < n
          · obtain ⟨hg1, hg2⟩ := hgo
            have hlt1 : (i : Int) < 4 := by omega
            have hlt2 : (k : Int) + (i : Int) < (n : Int) := by omega
            have hs := hide (still_succ ds i (by omega))
            have N2 := (unhide hS).next (unhide HL) hg2 (by omega) 1
            have hc := row_cell (unhide hS).row (by rw [spo_len _ _ _ _ (by rw [unhide HL]; omega) (by omega)]; exact unhide HL) (k + i) _ (spo_at l k ds i (by rw [unhide HL]; exact hg2) (by omega))
            have hfz := row_fz (unhide hS).row (k + i)
            have hby : wr.cell? ⟨w.heap.size, i, none⟩ = some (.int .u8 ((ds.getD i 0).toNat : Int)) := (cell_of_row _ _ _ _ _ _ (unhide hS).box).trans (unhide HD i hg1)
            have hE := bits_u8 (l.getD (k + i) 0) (ds.getD i 0)
            have hby2 := (cell_of_row _ _ i _ _ _ N2.box).trans (unhide HD i hg1)
            obtain ⟨y, hy⟩ : ∃ y, y = ds.getD i 0 := ⟨_, rfl⟩
            rw [← hy] at hby hby2 hE hs N2
            obtain ⟨x, hx⟩ : ∃ x, x = l.getD (k + i) 0 := ⟨_, rfl⟩
            rw [← hx] at hc hE N2 hby2
            generalize x ^^^ y = z at *
            have hk0 : (0 : Int) ≤ (k : Int) + (i : Int) := by omega
            have htn : ((k : Int) + (i : Int)).toNat = k + i := by omega
            have hyz : ((y.toNat : Int) == 0) = (y == 0) := by
              by_cases h : y = 0
              · subst h; rfl
              · have : ¬ ((y.toNat : Int) = 0) := fun h2 => h (UInt8.toNat_inj.1 (by show y.toNat = 0; omega))
                rw [beq_eq_false_iff_ne.2 this, beq_eq_false_iff_ne.2 h]
            have HN2 := hide N2
            have HBY := hide hby2
            have HYZ := hide hyz
            clear N2 hby2 hyz hS hx hy
            go_wp2_with fail
            go_region
            change Exit.then _ _ Exit.normal _ ((wr.setCell ⟨g, k + i, none⟩ (.int .u8 (z.toNat : Int))).drewN 1)
            generalize (wr.setCell ⟨g, k + i, none⟩ (.int .u8 (z.toNat : Int))).drewN 1 = w5 at *
            have hby2 := unhide HBY
            have hyz := unhide HYZ
            obtain ⟨t, ht⟩ : ∃ t, t = still ds i := ⟨_, rfl⟩
            rw [← ht] at hs ⊢
            obtain ⟨u, hu⟩ : ∃ u, u = (y == 0) := ⟨_, rfl⟩
            rw [← hu] at hs hyz
            clear hby hc hfz hE HBY HYZ ht hu
            cases t
            all_goals
              go_wp2_with fail
              go_roundw
              case rel => exact ⟨i + 1, by omega, by omega, by go_num, by rw [unhide hs]; first | rfl | simp, HN2⟩
              case measure => simp [intOf]; omega
          · have hsum := sum_spo l k ds i (by rw [unhide HL]; omega) (by omega) hi4
            obtain ⟨va, vc, e, hY, _⟩ := row_by (unhide hS).row
            have hlen : (spo l k ds i).length = n := by rw [spo_len _ _ _ _ (by rw [unhide HL]; omega) (by omega)]; exact unhide HL
            rw [hlen] at hY e
            injection e with e1 _ e2
            subst e1 e2
            have T1 := hide (sum_any _ n cp _ wr hY (by omega))
            have T2 : Hid (∀ w5, Below wr.heap.size wr w5 → Calls Try.prog 10 #[.slice a n cap] w5 fun e w' => e = .returned (uv (sumP l)) ∧ Below w5.heap.size w5 w') := fun w5 hb => sum_any a n cap l w5 (((unhide HBw).below (unhide hS).below).below hb) (by omega)
            have b9 := hide (unhide hS).below
            generalize sumP (spo l k ds i) = s1 at *
            generalize sumP l = s2 at *
            have hEq : ((s1.toNat : Int) == (s2.toNat : Int)) = still ds i := by
              rw [← hsum]
              by_cases h : s1 = s2
              · subst h; simp
              · have : ¬ ((s1.toNat : Int) = (s2.toNat : Int)) := fun h2 => h (BitVec.eq_of_toNat_eq (by omega))
                rw [beq_eq_false_iff_ne.2 this, decide_eq_false h]
            generalize still ds i = t at *
            have hEQ := hide hEq
            clear hEq hsum hY hS hlen
            by_cases hi5 : i < 4
            · have hi5' : (i : Int) < 4 := by omega
              have hk5 : ¬ (k : Int) + (i : Int) < (n : Int) := fun h => hgo ⟨hi5, by omega⟩
              go_wp2_with fail
              refine (unhide T1).mono ?_
              rintro e w5 ⟨rfl, hb⟩
              have T3 := hide (unhide T2 w5 hb)
              have b10 := hide ((unhide b9).trans (hb.mono (unhide b9).size))
              clear hb T1 T2 b9
              go_wp2_with fail
              refine (unhide T3).mono ?_
              rintro e w6 ⟨rfl, hb⟩
              have b11 := hide ((unhide b10).trans (hb.mono (unhide b10).size))
              have LV := hide (lives_any w6)
              have hEq := unhide hEQ
              clear hb T3 b10 hEQ
              cases t
              all_goals
                go_wp2_with fail
                refine (unhide LV).mono ?_
                rintro e w7 ⟨rfl, hb⟩
                have b12 := hide ((unhide b11).trans (hb.mono (unhide b11).size))
                clear hb
                go_wp2_with fail
                go_ret
                exact ⟨rfl, unhide b12⟩
            · have hi5' : ¬ (i : Int) < 4 := by omega
              go_wp2_with fail
              refine (unhide T1).mono ?_
              rintro e w5 ⟨rfl, hb⟩
              have T3 := hide (unhide T2 w5 hb)
              have b10 := hide ((unhide b9).trans (hb.mono (unhide b9).size))
              clear hb T1 T2 b9
              go_wp2_with fail
              refine (unhide T3).mono ?_
              rintro e w6 ⟨rfl, hb⟩
              have b11 := hide ((unhide b10).trans (hb.mono (unhide b10).size))
              have LV := hide (lives_any w6)
              have hEq := unhide hEQ
              clear hb T3 b10 hEQ
              cases t
              all_goals
                go_wp2_with fail
                refine (unhide LV).mono ?_
                rintro e w7 ⟨rfl, hb⟩
                have b12 := hide ((unhide b11).trans (hb.mono (unhide b11).size))
                clear hb
                go_wp2_with fail
                go_ret
                exact ⟨rfl, unhide b12⟩
    · have hn0' : ((n : Int) == 0) = false := by rw [beq_eq_false_iff_ne]; omega
      have hbig' : (100000 : Int) < (n : Int) := by omega
      go_enter Try.func4, Try.ntmps4
      go_wp2_with fail
      refine (unhide L1).mono ?_
      rintro e w5 ⟨rfl, hb⟩
      have b5 := hide ((unhide b1').trans (hb.mono (unhide b1').size))
      clear hb
      go_wp2_with fail
      go_ret
      exact ⟨rfl, unhide b5⟩
end Go.Proofs.Ytbofidpoajdcmab.Cd
