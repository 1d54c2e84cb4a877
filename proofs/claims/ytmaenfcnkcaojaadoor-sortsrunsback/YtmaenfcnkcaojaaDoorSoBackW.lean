/- SortsRunsBack returns true. -/
import Derived.Test.YtmaenfcnkcaojaaDoorTextsSize
import Derived.Test.YtmaenfcnkcaojaaDoorBeyond
import Derived.Test.YtmaenfcnkcaojaaDoorTexts
import Derived.Test.YtmaenfcnkcaojaaDoorSoRunsP
import Derived.Test.YtmaenfcnkcaojaaDoorSoList
import Derived.Test.YtmaenfcnkcaojaaDoorSoAl
import Derived.Test.YtmaenfcnkcaojaaDoorSoIx
import Derived.Deep.QuietTactic
import Derived.BigQuiet
import Derived.WalkSmall
import Derived.Deep.DeepCutAuto
import Derived.Deep.CutBlock
namespace Go.Proofs.YtmaenfcnkcaojaaDoor.So
open Go.RowKit Go.Shelf Ky
open Pa (Tx tot)

attribute [local go_sem] Oper.semAt_some

-- what is told of runs, put together again
theorem take_snoc (A : Ls) (k : Nat) (h : k < A.length) : A.take (k + 1) = A.take k ++ [A.getD k ByteArray.empty] := by
  rw [List.take_succ_eq_append_getElem h]; simp [List.getD_eq_getElem?_getD, h]
def sumN (R : Rs) : Nat := (R.map Prod.snd).sum
theorem sumN_snoc (R : Rs) (x : ByteArray × Nat) : sumN (R ++ [x]) = sumN R + x.2 := by simp [sumN]
theorem sumN_take (R : Rs) (i : Nat) (h : i < R.length) : sumN (R.take (i + 1)) = sumN (R.take i) + R[i].2 := by
  rw [List.take_succ_eq_append_getElem h, sumN_snoc]
theorem sumN_le (R : Rs) : ∀ i, sumN (R.take i) ≤ sumN R := by
  intro i
  have : sumN R = sumN (R.take i) + sumN (R.drop i) := by
    unfold sumN
    rw [← List.sum_append, ← List.map_append, List.take_append_drop]
  omega
/-- each run's line stands where the run begins; all together they are k lines -/
def Fit (A : Ls) (R : Rs) (k : Nat) : Prop := sumN R = k ∧ ∀ i (h : i < R.length), R[i].1 = A.getD (sumN (R.take i)) ByteArray.empty
theorem fit_snoc {A : Ls} {R : Rs} {k : Nat} (h : Fit A R k) : Fit A (R ++ [(A.getD k ByteArray.empty, 1)]) (k + 1) := by
  refine ⟨by rw [sumN_snoc, h.1], fun i hi => ?_⟩
  rw [List.length_append, List.length_singleton] at hi
  rcases Nat.lt_or_ge i R.length with h1 | h1
  · rw [List.getElem_append_left h1, List.take_append_of_le_length (by omega)]
    exact h.2 i h1
  · obtain rfl : i = R.length := by omega
    simp [h.1]
theorem fit_bump {A : Ls} {t : Rs} {z : ByteArray} {n k : Nat} (h : Fit A (t ++ [(z, n)]) k) : Fit A (t ++ [(z, n + 1)]) (k + 1) := by
  refine ⟨?_, fun i hi => ?_⟩
  · have := h.1; rw [sumN_snoc] at this ⊢; simp at this ⊢; omega
  · have hi2 : i < (t ++ [(z, n)]).length := by simpa using hi
    have e := h.2 i hi2
    rw [List.length_append, List.length_singleton] at hi
    rcases Nat.lt_or_ge i t.length with h1 | h1
    · rw [List.getElem_append_left h1, List.take_append_of_le_length (by omega)] at e ⊢
      exact e
    · obtain rfl : i = t.length := by omega
      simpa using e
theorem runsN_fit (f b : Int) (A : Ls) : ∀ k, Fit A (runsN f b A k) k
  | 0 => ⟨rfl, fun i h => by simp [runsN] at h⟩
  | 1 => by
    have := fit_snoc (A := A) (R := []) (k := 0) ⟨rfl, fun i h => by simp at h⟩
    simpa [runsN] using this
  | k + 2 => by
    have i := runsN_fit f b A (k + 1)
    have hl := (runsN_len f b A (k + 1)).2 (by omega)
    unfold runsN
    split
    · obtain ⟨t, z, n, e⟩ := rs_last hl
      rw [e] at i ⊢
      rw [bump_snoc]
      exact fit_bump i
    · exact fit_snoc i
theorem lf_zero {x y : ByteArray} (h : lf 0 0 x = lf 0 0 y) : x = y := by
  apply bytes_eq
  simpa [lf, leftOf, skipF] using h
/-- what is skipped makes no more runs -/
theorem runsN_fewer (f b : Int) (A : Ls) : ∀ k, (runsN f b A k).length ≤ (runsN 0 0 A k).length
  | 0 => by simp [runsN]
  | 1 => by simp [runsN]
  | k + 2 => by
    have i := runsN_fewer f b A (k + 1)
    unfold runsN
    by_cases h : lf 0 0 (A.getD k ByteArray.empty) = lf 0 0 (A.getD (k + 1) ByteArray.empty)
    · have e : A.getD k ByteArray.empty = A.getD (k + 1) ByteArray.empty := lf_zero h
      rw [if_pos h, if_pos (by rw [e]), bump_len, bump_len]
      exact i
    · rw [if_neg h]
      split
      · rw [bump_len, List.length_append]; omega
      · simp; omega
def expd (R : Rs) : Ls := R.flatMap fun x => List.replicate x.2 x.1
theorem expd_snoc (R : Rs) (x : ByteArray × Nat) : expd (R ++ [x]) = expd R ++ List.replicate x.2 x.1 := by simp [expd]
theorem expd_take (R : Rs) (i : Nat) (h : i < R.length) : expd (R.take (i + 1)) = expd (R.take i) ++ List.replicate R[i].2 R[i].1 := by
  rw [List.take_succ_eq_append_getElem h, expd_snoc]
def Adj (R : Rs) : Prop := ∀ i (h : i + 1 < R.length), (R[i]'(by omega)).1 ≠ (R[i + 1]).1
/-- with nothing skipped: the lines come back, the last run is of the last line, neighbours differ -/
theorem runsN_back (A : Ls) : ∀ k, k ≤ A.length → expd (runsN 0 0 A k) = A.take k ∧ (∀ t z n, runsN 0 0 A k = t ++ [(z, n)] → z = A.getD (k - 1) ByteArray.empty) ∧ Adj (runsN 0 0 A k)
  | 0, _ => ⟨by simp [runsN, expd], (fun t z n h => by simp [runsN] at h), fun i h => by simp [runsN] at h⟩
  | 1, hk => by
    refine ⟨?_, (fun t z n h => ?_), fun i h => by simp [runsN] at h⟩
    · rw [take_snoc A 0 (by omega)]; simp [runsN, expd]
    · have h2 : ([] : Rs) ++ [(A.getD 0 ByteArray.empty, 1)] = t ++ [(z, n)] := h
      obtain ⟨_, h3⟩ := List.append_inj' h2 rfl
      simp at h3
      simp [h3]
  | k + 2, hk => by
    obtain ⟨i1, i2, i3⟩ := runsN_back A (k + 1) (by omega)
    have hl := (runsN_len 0 0 A (k + 1)).2 (by omega)
    obtain ⟨t, z, n, e⟩ := rs_last hl
    have hz := i2 t z n e
    rw [Nat.add_sub_cancel] at hz
    have hd : runsN 0 0 A (k + 2) = if lf 0 0 (A.getD k ByteArray.empty) = lf 0 0 (A.getD (k + 1) ByteArray.empty) then bump (runsN 0 0 A (k + 1)) else runsN 0 0 A (k + 1) ++ [(A.getD (k + 1) ByteArray.empty, 1)] := rfl
    rw [e] at i1 i3 hd
    by_cases h : lf 0 0 (A.getD k ByteArray.empty) = lf 0 0 (A.getD (k + 1) ByteArray.empty)
    · have e2 : A.getD k ByteArray.empty = A.getD (k + 1) ByteArray.empty := lf_zero h
      rw [if_pos h, bump_snoc] at hd
      rw [hd]
      refine ⟨?_, (fun t' z' n' h' => ?_), fun i h' => ?_⟩
      · rw [expd_snoc] at i1 ⊢
        rw [take_snoc A (k + 1) (by omega), ← i1, ← e2, ← hz, List.append_assoc]
        simp [List.replicate_succ']
      · obtain ⟨_, h3⟩ := List.append_inj' h' rfl
        simp at h3
        rw [← h3.1, hz, e2]; rfl
      · have q := i3 i (by simpa using h')
        rw [List.length_append, List.length_singleton] at h'
        rcases Nat.lt_or_ge (i + 1) t.length with h1 | h1
        · rw [List.getElem_append_left (by omega), List.getElem_append_left h1] at q ⊢
          exact q
        · obtain h4 : i + 1 = t.length := by omega
          rw [List.getElem_append_left (by omega), List.getElem_append_right (by omega)] at q ⊢
          simpa [h4] using q
    · rw [if_neg h] at hd
      rw [hd]
      refine ⟨?_, (fun t' z' n' h' => ?_), fun i h' => ?_⟩
      · rw [expd_snoc, i1, take_snoc A (k + 1) (by omega)]; rfl
      · obtain ⟨_, h3⟩ := List.append_inj' h' rfl
        simp at h3
        rw [← h3.1]; rfl
      · rw [List.length_append, List.length_singleton] at h'
        rcases Nat.lt_or_ge (i + 1) (t ++ [(z, n)]).length with h1 | h1
        · rw [List.getElem_append_left (by omega), List.getElem_append_left h1]
          exact i3 i h1
        · obtain h4 : i + 1 = (t ++ [(z, n)]).length := by omega
          obtain rfl : i = t.length := by simp at h4; omega
          have q1 : ((t ++ [(z, n)] ++ [(A.getD (k + 1) ByteArray.empty, 1)])[t.length]'(by simp)).1 = z := by simp
          have q2 : ((t ++ [(z, n)] ++ [(A.getD (k + 1) ByteArray.empty, 1)])[t.length + 1]'(by simp)).1 = A.getD (k + 1) ByteArray.empty := by
            rw [List.getElem_append_right (by simp)]; simp
          rw [q1, q2]
          intro q
          apply h
          rw [← hz, q]

theorem tot_mem3 : ∀ {A : Ls} {s : ByteArray}, s ∈ A → s.size ≤ tot A
  | x :: l, s, h => by
    rcases List.mem_cons.1 h with rfl | h
    · simp [tot]
    · have := tot_mem3 h; simp [tot]; omega
theorem own_keep3 {B : Nat} {t : TypeId} {s : Nat} {v : Value} {n : Nat} {xs : List Value} {w w' : World} (h : w.ownsRow B t s v n xs) (hb : Below w.heap.size w w') : w'.ownsRow B t s v n xs :=
  h.kept (row := none) ⟨hb.os, hb.tape, hb.output, hb.size, fun k hk _ => hb.block k hk⟩ (by cases v.ownBlock <;> simp)
theorem drewN_below {n : Nat} {w W : World} (h : Below n w W) (q : Nat) : Below n w (W.drewN q) := ⟨h.os, h.tape, h.output, h.size, h.block⟩
theorem expd_le (R : Rs) (i : Nat) : (expd (R.take i)).length ≤ (expd R).length := by
  have : expd R = expd (R.take i) ++ expd (R.drop i) := by unfold expd; rw [← List.flatMap_append, List.take_append_drop]
  rw [this, List.length_append]; omega
/-- runs in memory -/
def Rx (w : World) (a : Option Addr) (R : Rs) : Prop := R.length = 0 ∨ ∃ g, a = some ⟨g, 0, none⟩ ∧ g < w.heap.size ∧ ∀ i (h : i < R.length), w.cell? ⟨g, i * 2, none⟩ = some (.string R[i].1) ∧ w.cell? ⟨g, i * 2 + 1, none⟩ = some (.int .i64 (R[i].2 : Int))
theorem rcells_at3 (R : Rs) : ∀ i (h : i < R.length), (rcells R)[i * 2]? = some (.string R[i].1) ∧ (rcells R)[i * 2 + 1]? = some (.int .i64 (R[i].2 : Int)) := by
  induction R with
  | nil => intro i h; simp at h
  | cons x R ih =>
    intro i h
    cases i with
    | zero => simp [rcells]
    | succ i =>
      have := ih i (by simpa using h)
      rw [show (i + 1) * 2 = i * 2 + 2 by omega]
      simpa [rcells] using this
theorem rx_own {W : World} {base : Nat} {e : TypeId} {v : Value} {R : Rs} (h : W.ownsRow base e 2 v R.length (rcells R)) : ∃ a cap, v = .slice a R.length cap ∧ Rx W a R := by
  rcases h.2 with ⟨rfl, hn⟩ | ⟨g, cap, cur, rfl, _⟩
  · exact ⟨none, 0, by rw [hn], .inl hn⟩
  · refine ⟨some ⟨g, 0, none⟩, cap, rfl, .inr ⟨g, rfl, (h.lt g rfl).2, fun i hi => ?_⟩⟩
    have hc := h.cells (g := g) rfl
    obtain ⟨h1, h2⟩ := rcells_at3 R i hi
    have e1 := hc _ _ h1
    have e2 := hc _ _ h2
    rw [Pa.add_none, Nat.zero_add] at e1 e2
    exact ⟨e1, e2⟩

set_option maxRecDepth 100000 in
set_option maxHeartbeats 400000 in
theorem back_walk (A : Ls) (a : Option Addr) (la ca : Nat) (f b : Int) (w : World) (hT : Tx w a la ca A) (hl : la ≤ 4611686018427387904) (hs : ∀ s ∈ A, s.size ≤ 4611686018427387904) (hf : -9223372036854775808 ≤ f ∧ f ≤ 9223372036854775807) (hb : -9223372036854775808 ≤ b ∧ b ≤ 9223372036854775807) :
    Calls Tryd.prog 4 #[.slice a la ca, .int .i64 f, .int .i64 b] w fun e w' => e = .returned (.bool true) ∧ Below w.heap.size w w' := by
  obtain ⟨i0, hi, hz0, hz1, hz2⟩ := info_parts Pa.Tryd.infoStr
  have AL1 : Hid (∀ W : World, Calls Tryd.prog 11 #[] W fun e w' => e = .returned (.bool true) ∧ Below W.heap.size W w') := alive_anyS
  have HT := hide hT
  have SZ : Hid (∀ W, Below w.heap.size w W → Calls Tryd.prog 6 #[.slice a la ca] W fun e w' => (∃ v : Int, e = .returned (.int .i64 v) ∧ 0 ≤ v ∧ v ≤ 4611686018428436480 ∧ (v ≤ 1048576 → v = ((la + tot A : Nat) : Int))) ∧ w' = W) := fun W h => Pa.textsSize_any a la ca A W (hT.below h) hl hs
  have hlen := hide hT.len
  clear hT
  go_enter Tryd.func4, Tryd.ntmps4
  go_wp2_with fail
  refine (unhide AL1 _).mono ?_
  rintro e w1 ⟨rfl, b1⟩
  have B1 := hide b1
  clear b1
  go_wp2_with fail
  refine (unhide SZ _ (unhide B1)).mono ?_
  rintro e w2 ⟨⟨v, rfl, hv0, hv1, hv2⟩, hw2⟩
  rw [hw2]
  have HV := hide hv2
  clear hw2 hv2 SZ
  go_wp2_with fail
  refine (Beyond.beyond_one v _ _ (by simp) hv0 (by omega)).mono ?_
  rintro e w3 ⟨rfl, hw3⟩
  rw [hw3]
  clear hw3 w3
  have B3 : Hid (Below w.heap.size w (w1.alloc (.cells #[.int .i64 v] 3))) := (unhide B1).alloc (unhide B1).size _
  generalize w1.alloc (.cells #[.int .i64 v] 3) = w3 at *
  clear B1
  by_cases hbig : 1048576 < v
  · rw [decide_eq_true hbig]
    go_wp2_with fail
    refine (unhide AL1 _).mono ?_
    rintro e w4 ⟨rfl, b4⟩
    have B4 := hide ((unhide B3).trans (b4.mono (unhide B3).size))
    clear b4 B3
    go_wp2_with fail
    go_ret
    exact ⟨rfl, unhide B4⟩
  · rw [decide_eq_false hbig]
    have hv3 := unhide HV (by omega)
    have hla : la ≤ 1048576 := by omega
    have hAs : ∀ s ∈ A, s.size ≤ 1048576 := fun s h => by have := tot_mem3 h; omega
    have R1 : Hid (∀ (x y : Int), (-9223372036854775808 ≤ x ∧ x ≤ 9223372036854775807) → (-9223372036854775808 ≤ y ∧ y ≤ 9223372036854775807) → ∀ W, Tx W a la ca A → Calls Tryd.prog 8 #[.slice a la ca, .int .i64 x, .int .i64 y] W fun e w' => ∃ r c, e = .returned (.slice r (runsN x y A la).length c) ∧ Rx w' r (runsN x y A la) ∧ Below W.heap.size W w') := fun x y hx hy W h =>
      (pruns_any A a la ca x y W h (by omega) (fun s q => by have := hAs s q; omega) hx hy (fun s q t ht => ix_all t (by have h1 := hAs s q; have h2 := ht.length_le; have h3 : s.data.toList.length = s.size := rfl; omega))).mono fun e w' q => by
        obtain ⟨v, rfl, h2, h3⟩ := q
        obtain ⟨r, c, rfl, h4⟩ := rx_own h2
        exact ⟨r, c, rfl, h4, h3⟩
    have bk := runsN_back A la (by rw [unhide hlen]; exact Nat.le_refl _)
    have bk1 : expd (runsN 0 0 A la) = A := by rw [bk.1, List.take_of_length_le (by rw [unhide hlen]; exact Nat.le_refl _)]
    have bk3 := bk.2.2
    have mx := runsN_max 0 0 A la
    have fw := runsN_fewer f b A la
    have mx2 := runsN_max f b A la
    have ft := runsN_fit f b A la
    have rl := (runsN_len 0 0 A la).1
    have rl2 := (runsN_len f b A la).1
    have R0 := hide (unhide R1 0 0 (by omega) (by omega))
    have RF := hide (unhide R1 f b hf hb)
    generalize runsN 0 0 A la = R at *
    generalize runsN f b A la = S at *
    have BK1 := hide bk1
    have BK3 := hide bk3
    have MX := hide mx
    have FT := hide ft
    have MX2 := hide mx2
    clear AL1 R1 HV hAs hs bk bk1 bk3 mx ft mx2 hv3 hv0 hv1
    go_wp2_with fail
    refine (unhide R0 _ ((unhide HT).below (unhide B3))).mono ?_
    rintro e w4 ⟨x4, c4, rfl, r4, b4⟩
    have B4 := hide ((unhide B3).trans (b4.mono (unhide B3).size))
    have X4 := hide r4
    clear b4 B3 r4 R0
    obtain ⟨rn, hrn⟩ : ∃ r, r = R.length := ⟨_, rfl⟩
    have HRN := hide hrn
    rw [← hrn]
    rw [← hrn] at rl fw
    clear hrn
    go_wp2_with fail
    go_loopg [7, 9] rn (fun gm v7 v9 wr => ∃ i n : Nat, i ≤ rn ∧ gm = rn - i ∧ v9 = .int .i64 (i : Int) ∧ n ≤ la ∧ Hid (n = (expd (R.take i)).length) ∧ Hid (wr.ownsRow w4.heap.size 9 1 v7 n (strs (expd (R.take i)))) ∧ Hid (Below w4.heap.size w4 wr))
    case atStart => exact ⟨0, 0, Nat.zero_le _, rfl, rfl, Nat.zero_le _, rfl, by show World.ownsRow _ _ _ _ _ _ _; simpa [expd, strs] using World.ownsRow_nil _ _ _ _, Below.refl _ _⟩
    case round =>
      obtain ⟨i, n, hiR, rfl, rfl, hnla, hn, hO, hB⟩ := hrel
      obtain ⟨s0, s1, s2, hv1⟩ := sl_of_own (unhide hO)
      subst hv1
      by_cases hlt : i < rn
      · have hltR : i < R.length := by rw [← unhide HRN]; exact hlt
        obtain ⟨g, e4, hg, hc⟩ := (unhide X4).resolve_left (by omega)
        subst e4
        obtain ⟨c1, c2⟩ := hc i hltR
        obtain ⟨m1, m2⟩ := unhide MX R[i] (List.getElem_mem hltR)
        have E1 := hide (expd_take R i hltR)
        have hN : n + R[i].2 ≤ la := by
          have h1 := expd_le R (i + 1)
          rw [unhide E1, unhide BK1, List.length_append, List.length_replicate, ← unhide hn] at h1
          have h2 := unhide hlen
          omega
        have dc1 := ((unhide hB).cell (p := ⟨g, i * 2, none⟩) hg).trans c1
        have dc2 := ((unhide hB).cell (p := ⟨g, i * 2 + 1, none⟩) hg).trans c2
        have HC : Hid (∀ W, Below w4.heap.size w4 W → W.cell? ⟨g, i * 2, none⟩ = some (.string R[i].1) ∧ W.cell? ⟨g, i * 2 + 1, none⟩ = some (.int .i64 (R[i].2 : Int))) := fun W hW => ⟨(hW.cell (p := ⟨g, i * 2, none⟩) hg).trans c1, (hW.cell (p := ⟨g, i * 2 + 1, none⟩) hg).trans c2⟩
        have HP : Hid (∀ m, m + 1 = i → ∃ y : ByteArray, ¬ R[i].1 = y ∧ wr.cell? ⟨g, m * 2, none⟩ = some (.string y)) := fun m hm => by
          subst hm
          exact ⟨(R[m]'(by omega)).1, fun q => unhide BK3 m hltR q.symm, ((unhide hB).cell (p := ⟨g, m * 2, none⟩) hg).trans (hc m (by omega)).1⟩
        clear c1 c2 hc
        generalize R[i].1 = x at *
        generalize R[i].2 = k0 at *
        have d1 : decide ((k0 : Int) < 1) = false := by rw [decide_eq_false_iff_not]; omega
        have d2 : decide ((la : Int) < (k0 : Int)) = false := by rw [decide_eq_false_iff_not]; omega
        have d5 : decide (la < k0) = false := by rw [decide_eq_false_iff_not]; omega
        have d6 : ¬ k0 < 1 := by omega
        go_upto_region 8 with fail
        go_cut [64] (fun v wx => v = .bool false ∧ ∃ q, wx = wr.drewN q)
        case first =>
          have hp := unhide HP
          clear HP HC hO hB E1 hn
          rcases Nat.eq_zero_or_pos i with h0 | h0
          · have d3 : decide ((0 : Int) < (i : Int)) = false := by rw [decide_eq_false_iff_not]; omega
            have d4 : decide (0 < i) = false := by rw [decide_eq_false_iff_not]; omega
            clear hp h0
            go_wp2_with fail
            go_quiet (fail)
            go_wp2_with fail
            go_meet
            exact ⟨rfl, _, rfl⟩
          · obtain ⟨m, hm⟩ : ∃ m, m + 1 = i := ⟨i - 1, by omega⟩
            obtain ⟨y, hne, cy⟩ := hp m hm
            have hw1 : IntKind.i64.wrap ((i : Int) - 1) = (m : Int) := by rw [IntKind.wrap_i64]; omega
            have hw2 : IntKind.i64.wrap (m : Int) = (m : Int) := by rw [IntKind.wrap_i64]; omega
            have d3 : decide ((0 : Int) < (i : Int)) = true := by rw [decide_eq_true_iff]; omega
            have hxy : (x.toList == y.toList) = false := by
              rw [ByteArray.toList_eq, ByteArray.toList_eq, beq_eq_false_iff_ne]
              exact fun q => hne (bytes_eq q)
            have hmr : m < rn := by omega
            clear hp hm hne
            go_wp2_with fail
            go_quiet (fail)
            go_wp2_with fail
            go_meet
            exact ⟨rfl, _, rfl⟩
        case rest =>
          obtain ⟨rfl, q, rfl⟩ := hcut
          clear HP dc1 dc2
          have hO' : Hid ((wr.drewN q).ownsRow w4.heap.size 9 1 (.slice s0 s1 s2) n (strs (expd (R.take i)))) := unhide hO
          have hB' : Hid (Below w4.heap.size w4 (wr.drewN q)) := drewN_below (unhide hB) q
          clear hO hB
          go_wp2_with fail
          go_loopg [7, 10] k0 (fun gk v7 v10 wk => ∃ k : Nat, k ≤ k0 ∧ gk = k0 - k ∧ v10 = .int .i64 (k : Int) ∧ Hid (wk.ownsRow w4.heap.size 9 1 v7 (n + k) (strs (expd (R.take i) ++ List.replicate k x))) ∧ Hid (Below w4.heap.size w4 wk))
          case atStart => exact ⟨0, Nat.zero_le _, rfl, rfl, by show World.ownsRow _ _ _ _ _ _ _; rw [List.replicate_zero, List.append_nil]; exact unhide hO', hB'⟩
          case round =>
            clear hO' hB'
            obtain ⟨k, hk, rfl, rfl, hO, hB⟩ := hrel
            obtain ⟨y0, y1, y2, hv1⟩ := sl_of_own (unhide hO)
            subst hv1
            obtain ⟨c1, c2⟩ := unhide HC _ (unhide hB)
            by_cases hkl : k < k0
            · have hkl' : (k : Int) < (k0 : Int) := by omega
              have hnk : n + k ≤ 1048576 := by omega
              have hsz := (unhide hB).size
              have hgw : g < wr.heap.size := by omega
              go_wp2_with (at_builtin; refine wpList_append_own _ rfl _ _ 22 rfl w4.heap.size 9 i0 _ 1 16 Tryd.underlying22 hi hz0 hz1 hz2 rfl (by decide) _ _ _ rfl ((unhide hO).alloc _) ⟨wr.heap.size, 0, none⟩ 1 1 [.string x] rfl rfl (one_new2 _ _ _) (one_one2 _) (by unfold maxLen; omega) (by omega) (by simp; omega) ?_)
              intro v1 w5 hO1 hg1 _
              have hB5 : Hid (Below w4.heap.size w4 w5) := ((unhide hB).alloc hsz _).grown hg1 (by simp; omega) (fun z ez => ((unhide hO).lt z ez).1)
              have hO5 : Hid (w5.ownsRow w4.heap.size 9 1 v1 (n + (k + 1)) (strs (expd (R.take i) ++ List.replicate (k + 1) x))) := by
                show w5.ownsRow _ _ _ _ _ _
                rw [List.replicate_succ', ← List.append_assoc, strs_snoc, ← Nat.add_assoc]
                exact hO1
              obtain ⟨z0, z1, z2, hv1⟩ := sl_of_own hO1
              subst hv1
              clear hO1 hg1 hO hB c1 c2
              go_wp2_with fail
              go_roundg (k0 - (k + 1))
              case measure => omega
              case rel => exact ⟨k + 1, by omega, rfl, by go_num, hO5, hB5⟩
            · obtain rfl : k = k0 := by omega
              have hkl' : ¬ (k : Int) < (k : Int) := by omega
              have hO5 : Hid (wr.ownsRow w4.heap.size 9 1 (.slice y0 y1 y2) (n + k) (strs (expd (R.take (i + 1))))) := by
                show wr.ownsRow _ _ _ _ _ _
                rw [unhide E1]; exact unhide hO
              have hn5 : Hid (n + k = (expd (R.take (i + 1))).length) := by
                show _ = _
                rw [unhide E1, List.length_append, List.length_replicate, ← unhide hn]
              clear hO E1 hn HC
              go_wp2_with fail
              go_roundg (rn - (i + 1))
              case measure => omega
              case rel => exact ⟨i + 1, n + k, by omega, rfl, by go_num, hN, hn5, hO5, hB⟩
      · obtain rfl : i = rn := by omega
        have hBa : Hid (wr.ownsRow w4.heap.size 9 1 (.slice s0 s1 s2) la (strs A)) := by
          have h := unhide hO
          have hi := unhide hn
          rw [List.take_of_length_le (by rw [← unhide HRN]; exact Nat.le_refl _), unhide BK1] at h hi
          rw [unhide hlen] at hi
          rw [← hi]
          exact h
        obtain ⟨ba, bc, hbv, hbt⟩ : ∃ x c, Value.slice s0 s1 s2 = .slice x la c ∧ Tx wr x la c A := by
          have h := unhide hBa
          have hl2 := unhide hlen
          rw [← hl2] at h ⊢
          obtain ⟨x, c, e, t⟩ := Pa.tx_of_owns h
          exact ⟨x, c, e, t⟩
        obtain ⟨e1, e2, e3⟩ := Value.slice.inj hbv
        have e1 := e1.symm
        have e2 := e2.symm
        have e3 := e3.symm
        subst e1 e2 e3
        have HBT := hide hbt
        have BR : Hid (Below w.heap.size w wr) := (unhide B4).trans ((unhide hB).mono (unhide B4).size)
        clear hbv hbt hBa hO hn hB X4 MX BK1 BK3 hnla hlt B4
        go_wp2_with fail
        refine (unhide RF _ ((unhide HT).below (unhide BR))).mono ?_
        rintro e w6 ⟨x6, c6, rfl, r6, b6⟩
        have B6 := hide ((unhide BR).trans (b6.mono (unhide BR).size))
        have X6 := hide r6
        have HBT6 := hide ((unhide HBT).below b6)
        have HT6 := hide ((unhide HT).below (unhide B6))
        clear b6 r6 BR RF HBT HT
        obtain ⟨sn, hsn⟩ : ∃ r, r = S.length := ⟨_, rfl⟩
        have HSN := hide hsn
        rw [← hsn]
        rw [← hsn] at rl2 fw
        clear hsn
        go_wp2_with fail
        go_loopg [11, 13] sn (fun gm v11 v13 wx => ∃ j t : Nat, j ≤ sn ∧ gm = sn - j ∧ v13 = .int .i64 (j : Int) ∧ v11 = .int .i64 (t : Int) ∧ t ≤ la ∧ Hid (t = sumN (S.take j)) ∧ ∃ q, wx = w6.drewN q)
        case atStart => exact ⟨0, 0, Nat.zero_le _, rfl, rfl, rfl, Nat.zero_le _, rfl, 0, rfl⟩
        case round =>
          obtain ⟨j, t, hj, rfl, rfl, rfl, htl, ht, q, rfl⟩ := hrel
          by_cases hlt : j < sn
          · have hltS : j < S.length := by rw [← unhide HSN]; exact hlt
            obtain ⟨g, e6, hg, hc⟩ := (unhide X6).resolve_left (by omega)
            subst e6
            obtain ⟨c1, c2⟩ := hc j hltS
            obtain ⟨m1, m2⟩ := unhide MX2 S[j] (List.getElem_mem hltS)
            have hfl := (unhide FT).2 j hltS
            have hst := sumN_take S j hltS
            have hle := sumN_le S (j + 1)
            rw [(unhide FT).1] at hle
            rw [← unhide ht] at hfl hst
            have htla : t < la := by omega
            obtain ⟨gl, off, ea, hgl, ci⟩ := tx_at (unhide HT6) htla
            subst ea
            rw [← hfl] at ci
            have HS2 := hide hst
            have htk : t + S[j].2 ≤ la := by omega
            clear hfl hst hle hc
            generalize S[j].1 = x at *
            generalize S[j].2 = k0 at *
            have d1 : ¬ k0 < 1 := by omega
            have d2 : decide (la ≤ t) = false := by rw [decide_eq_false_iff_not]; omega
            have d3 : decide ((k0 : Int) < 1) = false := by rw [decide_eq_false_iff_not]; omega
            have d4 : decide ((la : Int) ≤ (t : Int)) = false := by rw [decide_eq_false_iff_not]; omega
            go_wp2_with fail
            go_quiet (fail)
            go_wp2_with fail
            go_roundg (sn - (j + 1))
            case measure => omega
            case rel => exact ⟨j + 1, t + k0, by omega, rfl, by go_num, by go_num, htk, (unhide HS2).symm, _, rfl⟩
          · obtain rfl : j = sn := by omega
            have hte : t = la := by
              rw [unhide ht, List.take_of_length_le (by rw [← unhide HSN]; exact Nat.le_refl _), (unhide FT).1]
            subst hte
            clear ht hlt
            have hTa : Hid (Tx (w6.drewN q) ba t bc A) := (unhide HBT6).below (drewN_below (Below.refl _ _) q)
            have hTb : Hid (Tx (w6.drewN q) a t ca A) := (unhide HT6).below (drewN_below (Below.refl _ _) q)
            have B7 := hide (drewN_below (unhide B6) q)
            clear HBT6 HT6 B6
            go_wp2_with fail
            refine (Pa.sameTexts_any ba a t bc ca bc ca A _ (by omega) (unhide hTa) (unhide hTb)).mono ?_
            rintro e w8 ⟨rfl, b8⟩
            have B8 := hide ((unhide B7).trans (b8.mono (unhide B7).size))
            clear b8 B7 hTa hTb
            go_wp2_with fail
            go_ret
            exact ⟨by simp, unhide B8⟩
end Go.Proofs.YtmaenfcnkcaojaaDoor.So
