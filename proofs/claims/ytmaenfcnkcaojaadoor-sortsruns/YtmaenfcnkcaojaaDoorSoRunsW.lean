/- SortsRuns returns true. -/
import Derived.Test.YtmaenfcnkcaojaaDoorTextsSize
import Derived.Test.YtmaenfcnkcaojaaDoorTwinTexts
import Derived.Test.YtmaenfcnkcaojaaDoorBeyond
import Derived.Test.YtmaenfcnkcaojaaDoorSoRuns
import Derived.Test.YtmaenfcnkcaojaaDoorSoRn
import Derived.Test.YtmaenfcnkcaojaaDoorSoIx
import Derived.Deep.QuietTactic
import Derived.BigQuiet
import Derived.WalkSmall
namespace Go.Proofs.YtmaenfcnkcaojaaDoor.So
open Go.RowKit Go.Shelf Ky
open Pa (Tx tot TwinT)

attribute [local go_sem] Oper.semAt_some

theorem tot_mem2 : ∀ {A : Ls} {s : ByteArray}, s ∈ A → s.size ≤ tot A
  | x :: l, s, h => by
    rcases List.mem_cons.1 h with rfl | h
    · simp [tot]
    · have := tot_mem2 h; simp [tot]; omega
theorem twin_tx {w : World} {base g n : Nat} {L : Ls} (h : TwinT w base g n L) (hn : L.length = n) : Tx w (some ⟨g, 0, none⟩) n (n + 1) L := by
  subst hn
  obtain ⟨x, c, e, t⟩ := Pa.tx_of_owns h.1
  obtain ⟨rfl, -, rfl⟩ := Value.slice.inj e
  exact t
theorem ownb_below {B : Nat} {t : TypeId} {s : Nat} {v : Value} {n : Nat} {xs : List Value} {w w' : World} (h : w.ownsRow B t s v n xs) (hb : Below w.heap.size w w') : w'.ownsRow B t s v n xs :=
  h.kept (row := none) ⟨hb.os, hb.tape, hb.output, hb.size, fun k hk _ => hb.block k hk⟩ (by cases v.ownBlock <;> simp)
theorem twin_below {w w' : World} {base g n : Nat} {L : Ls} (h : TwinT w base g n L) (hb : Below w.heap.size w w') : TwinT w' base g n L :=
  ⟨ownb_below h.1 hb, (hb.cell (p := ⟨g, n, none⟩) (World.block_lt_of_cell? w _ h.2)).trans h.2⟩
theorem own_base2 {w : World} {base base' : Nat} {e : TypeId} {size : Nat} {v : Value} {n : Nat} {xs : List Value} (h : w.ownsRow base e size v n xs) (hb : base' ≤ base) : w.ownsRow base' e size v n xs := by
  refine ⟨h.1, ?_⟩
  rcases h.2 with hn | ⟨g, cap, cur, rfl, hg, rest⟩
  · exact .inl hn
  · exact .inr ⟨g, cap, cur, rfl, by omega, rest⟩
/-- a row that is not empty has a block -/
theorem own_some {w : World} {base : Nat} {e : TypeId} {size : Nat} {v : Value} {n : Nat} {xs : List Value} (h : w.ownsRow base e size v n xs) (hn : 0 < n) : ∃ g cap, v = .slice (some ⟨g, 0, none⟩) n cap ∧ base ≤ g ∧ g < w.heap.size := by
  rcases h.2 with ⟨_, h0⟩ | ⟨g, cap, cur, rfl, hb, hg, _⟩
  · omega
  · exact ⟨g, cap, rfl, hb, (Array.getElem?_eq_some_iff.1 hg).1⟩
theorem own_slice {w : World} {base : Nat} {e : TypeId} {size : Nat} {v : Value} {n : Nat} {xs : List Value} (h : w.ownsRow base e size v n xs) : ∃ p cap, v = .slice p n cap := by
  rcases h.2 with ⟨rfl, rfl⟩ | ⟨g, cap, cur, rfl, hb, hg, _⟩
  · exact ⟨_, _, rfl⟩
  · exact ⟨_, _, rfl⟩
theorem rcells_at (R : Rs) (i : Nat) (h : i < R.length) : (rcells R)[i * 2]? = some (.string (R.getD i (ByteArray.empty, 0)).1) ∧ (rcells R)[i * 2 + 1]? = some (.int .i64 ((R.getD i (ByteArray.empty, 0)).2 : Int)) := by
  induction R generalizing i with
  | nil => simp at h
  | cons x R ih =>
    cases i with
    | zero => simp [rcells]
    | succ i =>
      have := ih i (by simpa using h)
      rw [show (i + 1) * 2 = i * 2 + 1 + 1 by omega]
      simpa [rcells] using this

/-- the law's two loops: a has the runs from i on, b and want have them all -/
structure RL (B : Nat) (va vb vx : Value) (R : Rs) (i : Nat) (w : World) : Prop where
  a : ∃ xs, w.ownsRow B 32 2 va R.length xs ∧ ∀ j, i * 2 ≤ j → xs[j]? = (rcells R)[j]?
  b : w.ownsRow B 32 2 vb R.length (rcells R)
  x : w.ownsRow B 33 2 vx R.length (rcells R)
theorem RL.drewN {B : Nat} {va vb vx : Value} {R : Rs} {i : Nat} {w : World} (h : RL B va vb vx R i w) (n : Nat) : RL B va vb vx R i (w.drewN n) := by
  obtain ⟨⟨xs, h1, h2⟩, h3, h4⟩ := h
  exact ⟨⟨xs, h1, h2⟩, h3, h4⟩

set_option maxHeartbeats 1000000 in
set_option maxRecDepth 100000 in
theorem runs_walk (a : Option Addr) (n cap : Nat) (ss : Ls) (fi bi : Int) (w : World) (hT : Tx w a n cap ss) (hn : n ≤ 4611686018427387904) (hss : ∀ s ∈ ss, s.size ≤ 4611686018427387904)
    (hf : -9223372036854775808 ≤ fi ∧ fi ≤ 9223372036854775807) (hb : -9223372036854775808 ≤ bi ∧ bi ≤ 9223372036854775807) :
    Calls Tryd.prog 3 #[.slice a n cap, .int .i64 fi, .int .i64 bi] w fun e w' => e = .returned (.bool true) ∧ Below w.heap.size w w' := by
  have HT := hide hT
  have hsl := hT.len
  have HFB := hide (And.intro hf hb)
  have TS := hide (Pa.textsSize_any a n cap ss w hT hn hss)
  clear hT hf hb
  go_enter Tryd.func3, Tryd.ntmps3
  go_wp2_with fail
  refine (unhide TS).mono ?_
  rintro e w0 ⟨⟨v, rfl, hv0, hv1, hv2⟩, rfl⟩
  clear TS
  have HV2 := hide hv2
  clear hv2
  go_wp2_with fail
  refine (Beyond.beyond_one v w0.heap.size _ (by simp) (by omega) (by omega)).mono ?_
  rintro e w' ⟨rfl, hw1⟩
  have hB1 : Below w0.heap.size w0 w' := by rw [hw1]; exact (Below.refl _ _).alloc (Nat.le_refl _) _
  clear hw1
  by_cases hb : 1048576 < v
  · rw [decide_eq_true hb]
    go_wp2_with fail
    go_ret
    exact ⟨rfl, hB1⟩
  · rw [decide_eq_false hb]
    have hve := unhide HV2 (by omega)
    have hn2 : n ≤ 1048576 := by omega
    have hss2 : ∀ s ∈ ss, s.size ≤ 1048576 := fun s hs => by have := tot_mem2 hs; omega
    have HSS := hide hss2
    clear HV2 hve hss2
    have hTw := hide (Pa.twinTexts_any a n cap ss w' ((unhide HT).below hB1) hn2)
    go_wp2_with fail
    refine (unhide hTw).mono ?_
    rintro e w1 ⟨rfl, ht1, hb1⟩
    clear hTw
    obtain ⟨g, hg⟩ : ∃ g, g = w'.heap.size := ⟨_, rfl⟩
    rw [← hg] at ht1 ⊢
    have HB1 : Hid (Below w0.heap.size w0 w1) := hB1.trans (hb1.mono hB1.size)
    have HTw1 := hide ht1
    clear ht1 hb1 hg hB1
    obtain ⟨R, hR⟩ : ∃ R, R = runsN fi bi ss n := ⟨_, rfl⟩
    have hRl : R.length ≤ 1048576 := by rw [hR]; have := (runsN_len fi bi ss n).1; omega
    have hRm : Hid (∀ x ∈ R, 1 ≤ x.2 ∧ x.2 ≤ n) := by rw [hR]; exact runsN_max fi bi ss n
    have C1 : Hid (∀ W, TwinT W g g n ss → Calls Tryd.prog 8 #[.slice (some ⟨g, 0, none⟩) n (n + 1), .int .i64 fi, .int .i64 bi] W fun e w' => ∃ v, e = .returned v ∧ w'.ownsRow W.heap.size 32 2 v R.length (rcells R) ∧ Below W.heap.size W w') := fun W hTW => by
      rw [hR]; exact pruns_any ss (some ⟨g, 0, none⟩) n (n + 1) fi bi W (twin_tx hTW hsl) (by omega) (fun s h => by have := unhide HSS s h; omega) (unhide HFB).1 (unhide HFB).2 (fun s h t ht => ix_all t (by have h1 := unhide HSS s h; have h2 := ht.length_le; have h3 : s.data.toList.length = s.size := rfl; omega))
    have C3 : Hid (∀ W, Below w0.heap.size w0 W → Calls Tryd.prog 9 #[.slice a n cap, .int .i64 fi, .int .i64 bi] W fun e w' => ∃ v, e = .returned v ∧ w'.ownsRow W.heap.size 33 2 v R.length (rcells R) ∧ Below W.heap.size W w') := fun W hW => by
      rw [hR]; exact rruns_any ss a n cap fi bi W ((unhide HT).below hW) (by omega) (fun s h => by have := unhide HSS s h; omega) (unhide HFB).1 (unhide HFB).2
    have C5 : Hid (∀ W, Below w0.heap.size w0 W → TwinT W g g n ss → Calls Tryd.prog 10 #[.slice (some ⟨g, 0, none⟩) n (n + 1), .slice a n cap] W fun e w' => e = .returned (.bool true) ∧ Below W.heap.size W w') := fun W hW hTW =>
      Pa.leftTexts_any g g a n cap ss W ((unhide HT).below hW) hTW hn2
    clear hR HSS HFB hsl
    go_wp2_with fail
    refine (unhide C1 w1 (unhide HTw1)).mono ?_
    rintro e w2 ⟨va, rfl, ra, hb2⟩
    have HB2 : Hid (Below w0.heap.size w0 w2) := (unhide HB1).trans (hb2.mono (unhide HB1).size)
    have HTw2 := hide (twin_below (unhide HTw1) hb2)
    have HA2 := hide (own_base2 ra (unhide HB1).size)
    clear HTw1 ra hb2 HB1
    go_wp2_with fail
    refine (unhide C1 w2 (unhide HTw2)).mono ?_
    rintro e w3 ⟨vb, rfl, rb, hb3⟩
    have HB3 : Hid (Below w0.heap.size w0 w3) := (unhide HB2).trans (hb3.mono (unhide HB2).size)
    have HTw3 := hide (twin_below (unhide HTw2) hb3)
    have HA3 := hide (ownb_below (unhide HA2) hb3)
    have HBb3 := hide (own_base2 rb (unhide HB2).size)
    have Aab : Hid (∀ k, va.ownBlock = some k → vb.ownBlock ≠ some k) := fun k k1 k2 => by
      have := ((unhide HA2).lt k k1).2; have := (rb.lt k k2).1; omega
    clear HTw2 HA2 rb hb3 HB2 C1
    go_wp2_with fail
    refine (unhide C3 w3 (unhide HB3)).mono ?_
    rintro e w4 ⟨vx, rfl, rx, hb4⟩
    have HB4 : Hid (Below w0.heap.size w0 w4) := (unhide HB3).trans (hb4.mono (unhide HB3).size)
    have HTw4 := hide (twin_below (unhide HTw3) hb4)
    have HA4 := hide (ownb_below (unhide HA3) hb4)
    have HBb4 := hide (ownb_below (unhide HBb3) hb4)
    have HX4 := hide (own_base2 rx (unhide HB3).size)
    have Aax : Hid (∀ k, va.ownBlock = some k → vx.ownBlock ≠ some k) := fun k k1 k2 => by
      have := ((unhide HA3).lt k k1).2; have := (rx.lt k k2).1; omega
    clear HTw3 HA3 HBb3 rx hb4 HB3 C3
    obtain ⟨pa, ca, rfl⟩ := own_slice (unhide HA4)
    obtain ⟨pb, cb, rfl⟩ := own_slice (unhide HBb4)
    obtain ⟨px, cx, rfl⟩ := own_slice (unhide HX4)
    obtain ⟨m, hm⟩ : ∃ m, m = R.length := ⟨_, rfl⟩
    have HM := hide hm
    have HRL : Hid (∀ w5, Below w4.heap.size w4 w5 → RL w0.heap.size (.slice pa m ca) (.slice pb m cb) (.slice px m cx) R 0 w5) := fun w5 hb5 => by
      rw [hm]
      exact ⟨⟨_, ownb_below (unhide HA4) hb5, fun _ _ => rfl⟩, ownb_below (unhide HBb4) hb5, ownb_below (unhide HX4) hb5⟩
    rw [← hm] at Aab Aax ⊢
    have hml : m ≤ 1048576 := by omega
    clear HA4 HBb4 HX4 hm hRl
    go_wp2_with fail
    refine (unhide C5 w4 (unhide HB4) (unhide HTw4)).mono ?_
    rintro e w5 ⟨rfl, hb5⟩
    have HB5 : Hid (Below w0.heap.size w0 w5) := (unhide HB4).trans (hb5.mono (unhide HB4).size)
    have H5 := hide (unhide HRL w5 hb5)
    clear HTw4 hb5 HB4 C5 HRL
    rcases Nat.eq_zero_or_pos m with hm0 | hmp
    · subst hm0
      go_wp2_with fail
      go_loopw [11] (fun v wr => v = .int .i64 0 ∧ wr = w5) (fun _ _ => 0)
      case atStart => exact ⟨rfl, rfl⟩
      case round =>
        obtain ⟨rfl, rfl⟩ := hrel
        go_wp2_with fail
        go_loopw [12] (fun v wq => v = .int .i64 0 ∧ wq = wr) (fun _ _ => 0)
        case atStart => exact ⟨rfl, rfl⟩
        case round =>
          obtain ⟨rfl, rfl⟩ := hrel
          go_wp2_with fail
          go_ret
          exact ⟨rfl, unhide HB5⟩
    · obtain ⟨ga, ca', ea, ha1, ha2⟩ : ∃ g cap, Value.slice pa m ca = .slice (some ⟨g, 0, none⟩) m cap ∧ w0.heap.size ≤ g ∧ g < w5.heap.size := by
        obtain ⟨xs, h1, _⟩ := (unhide H5).a
        exact own_some (by rw [← unhide HM] at h1; exact h1) hmp
      obtain ⟨gb, cb', eb, hb1, hb2⟩ : ∃ g cap, Value.slice pb m cb = .slice (some ⟨g, 0, none⟩) m cap ∧ w0.heap.size ≤ g ∧ g < w5.heap.size := own_some (by have h1 := (unhide H5).b; rw [← unhide HM] at h1; exact h1) hmp
      obtain ⟨gx, cx', ex, hx1, hx2⟩ : ∃ g cap, Value.slice px m cx = .slice (some ⟨g, 0, none⟩) m cap ∧ w0.heap.size ≤ g ∧ g < w5.heap.size := own_some (by have h1 := (unhide H5).x; rw [← unhide HM] at h1; exact h1) hmp
      obtain ⟨rfl, -, rfl⟩ := Value.slice.inj ea
      obtain ⟨rfl, -, rfl⟩ := Value.slice.inj eb
      obtain ⟨rfl, -, rfl⟩ := Value.slice.inj ex
      have hab : ga ≠ gb := fun q => unhide Aab ga rfl (by rw [q]; rfl)
      have hax : ga ≠ gx := fun q => unhide Aax ga rfl (by rw [q]; rfl)
      have HAB := hide (And.intro hab hax)
      clear ea eb ex Aab Aax hab hax ha1 ha2 hb1 hb2 hx1 hx2
      go_wp2_with fail
      go_loopw [11] (fun v wr => ∃ i : Nat, i ≤ m ∧ v = .int .i64 (i : Int) ∧ Hid (RL w0.heap.size (.slice (some ⟨ga, 0, none⟩) m ca) (.slice (some ⟨gb, 0, none⟩) m cb) (.slice (some ⟨gx, 0, none⟩) m cx) R i wr) ∧ Hid (Below w0.heap.size w0 wr)) (fun v _ => m - (intOf v).toNat)
      case atStart => exact ⟨0, Nat.zero_le _, rfl, H5, HB5⟩
      case round =>
        clear H5 HB5
        obtain ⟨i, him, rfl, hL, hB⟩ := hrel
        by_cases hlt : i < m
        · have hRm' := unhide HM
          obtain ⟨k0, k1⟩ := rcells_at R i (by omega)
          obtain ⟨xs, r1, r2⟩ := (unhide hL).a
          have r3 := (unhide hL).b
          have r4 := (unhide hL).x
          rw [← hRm'] at r1 r3 r4
          have a0 := (r1.cellAt (i * 2) (by omega)).trans ((r2 (i * 2) (Nat.le_refl _)).trans k0)
          have a1 := (r1.cellAt (i * 2 + 1) (by omega)).trans ((r2 (i * 2 + 1) (by omega)).trans k1)
          have b0 := (r3.cellAt (i * 2) (by omega)).trans k0
          have b1 := (r3.cellAt (i * 2 + 1) (by omega)).trans k1
          have x0 := (r4.cellAt (i * 2) (by omega)).trans k0
          have x1 := (r4.cellAt (i * 2 + 1) (by omega)).trans k1
          have fz0 := r1.frozenAt (i * 2)
          have fz1 := r1.frozenAt (i * 2 + 1)
          have NEW : Hid (∀ q, RL w0.heap.size (.slice (some ⟨ga, 0, none⟩) m ca) (.slice (some ⟨gb, 0, none⟩) m cb) (.slice (some ⟨gx, 0, none⟩) m cx) R (i + 1) (((wr.drewN q).setCell ⟨ga, i * 2, none⟩ (.string ByteArray.empty)).setCell ⟨ga, i * 2 + 1, none⟩ (.int .i64 0)) ∧ Below w0.heap.size w0 (((wr.drewN q).setCell ⟨ga, i * 2, none⟩ (.string ByteArray.empty)).setCell ⟨ga, i * 2 + 1, none⟩ (.int .i64 0))) := fun q => by
            have r1' : (wr.drewN q).ownsRow w0.heap.size 32 2 (.slice (some ⟨ga, 0, none⟩) m ca) m xs := r1
            have r3' : (wr.drewN q).ownsRow w0.heap.size 32 2 (.slice (some ⟨gb, 0, none⟩) m cb) m (rcells R) := r3
            have r4' : (wr.drewN q).ownsRow w0.heap.size 33 2 (.slice (some ⟨gx, 0, none⟩) m cx) m (rcells R) := r4
            obtain ⟨s1, t1⟩ := r1'.stored (i * 2) (.string ByteArray.empty)
            obtain ⟨s2, t2⟩ := s1.stored (i * 2 + 1) (.int .i64 0)
            have nb : (Value.slice (some ⟨gb, 0, none⟩) m cb).ownBlock ≠ some ga := fun e => (unhide HAB).1 (by simpa [Value.ownBlock] using e.symm)
            have nx : (Value.slice (some ⟨gx, 0, none⟩) m cx).ownBlock ≠ some ga := fun e => (unhide HAB).2 (by simpa [Value.ownBlock] using e.symm)
            refine ⟨⟨?_, ?_, ?_⟩, ?_⟩
            · rw [← hRm']
              refine ⟨_, s2, fun j hj => ?_⟩
              rw [List.getElem?_set_ne (by omega), List.getElem?_set_ne (by omega)]
              exact r2 j (by omega)
            · rw [← hRm']; exact (r3'.kept t1 (.inr nb)).kept t2 (.inr nb)
            · rw [← hRm']; exact (r4'.kept t1 (.inr nx)).kept t2 (.inr nx)
            · have hBq : Below w0.heap.size w0 (wr.drewN q) := by have h := unhide hB; exact ⟨h.os, h.tape, h.output, h.size, h.block⟩
              have h1 := hBq.grown t1 hBq.size (fun z ez => by have := (r1'.lt z (by simpa [Value.ownBlock] using ez)).1; exact this)
              exact h1.grown t2 h1.size (fun z ez => by have := (r1'.lt z (by simpa [Value.ownBlock] using ez)).1; exact this)
          clear r1 r2 r3 r4 k0 k1 hRm' hL hB
          generalize (R.getD i (ByteArray.empty, 0)).1 = lx at *
          obtain ⟨cn, hcn⟩ : ∃ c : Int, c = ((R.getD i (ByteArray.empty, 0)).2 : Int) := ⟨_, rfl⟩
          rw [← hcn] at a1 b1 x1
          clear hcn
          go_wp2_with fail
          go_quiet (fail)
          go_wp2_with fail
          go_roundw
          case rel => exact ⟨i + 1, by omega, by go_num, (unhide NEW _).1, (unhide NEW _).2⟩
          case measure => simp [intOf]; omega
        · obtain rfl : i = m := by omega
          have HBr := hide (unhide hL).b
          clear hL hlt him
          go_wp2_with fail
          go_loopw [12] (fun v wq => ∃ j : Nat, j ≤ i ∧ v = .int .i64 (j : Int) ∧ wq = wr) (fun v _ => i - (intOf v).toNat)
          case atStart => exact ⟨0, Nat.zero_le _, rfl, rfl⟩
          case round =>
            obtain ⟨j, hji, rfl, rfl⟩ := hrel
            by_cases hlt : j < i
            · have hRm' := unhide HM
              have r3 := unhide HBr
              rw [← hRm'] at r3
              obtain ⟨k0, k1⟩ := rcells_at R j (by omega)
              have b1 := (r3.cellAt (j * 2 + 1) (by omega)).trans k1
              have hpos : 1 ≤ (R.getD j (ByteArray.empty, 0)).2 := (unhide hRm _ (by rw [List.getD_eq_getElem?_getD, List.getElem?_eq_getElem (by omega)]; exact List.getElem_mem _)).1
              obtain ⟨cn, hcn⟩ : ∃ c : Int, c = ((R.getD j (ByteArray.empty, 0)).2 : Int) := ⟨_, rfl⟩
              rw [← hcn] at b1
              have hne : (cn == 0) = false := by rw [beq_eq_false_iff_ne]; omega
              have hne2 : ¬ cn = 0 := by omega
              clear hcn hpos k0 k1 r3 hRm'
              go_wp2_with fail
              go_roundw
              case rel => exact ⟨j + 1, by omega, by go_num, trivial⟩
              case measure => simp [intOf]; omega
            · obtain rfl : j = i := by omega
              clear hlt
              go_wp2_with fail
              go_ret
              exact ⟨rfl, unhide hB⟩
end Go.Proofs.YtmaenfcnkcaojaaDoor.So
