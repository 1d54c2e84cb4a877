/- The law ViewsTurns' walk. -/
import Derived.Test.YtjkajhnnoecjbaaDoorVwAlive
import Derived.Test.YtjkajhnnoecjbaaDoorTextsSize
set_option linter.unusedVariables false
namespace Go.Proofs.YtjkajhnnoecjbaaDoor.Vw
open Go.RowKit Cu
open Pa (Tx tot)

theorem tot_mem : ∀ (F : List ByteArray) (x : ByteArray), x ∈ F → x.size ≤ tot F
  | [], x, h => by simp at h
  | y :: F, x, h => by
    simp only [tot]
    rcases List.mem_cons.1 h with rfl | h
    · omega
    · have := tot_mem F x h; omega
theorem getD_mem (A : List ByteArray) (i : Nat) (h : i < A.length) : A.getD i ByteArray.empty ∈ A := by
  simp [List.getD, List.getElem?_eq_getElem h]
/-- lists of one line each -/
theorem paste_ones (A : List ByteArray) (seps : Bs) (h : 0 < A.length) : pasteP (txl (A.map fun x => [x])) seps = [besideP seps 0 (A.map bs)] := by
  have h1 : txl (A.map fun x => [x]) = A.map fun x => [bs x] := by
    unfold txl txs
    rw [List.map_map]; rfl
  have hm : most (A.map fun x => [bs x]) = 1 := by
    have hle : ∀ B : List ByteArray, most (B.map fun x => [bs x]) ≤ 1 := by
      intro B
      induction B with
      | nil => simp [most]
      | cons b B ih => rw [List.map_cons, most]; simp only [List.length_cons, List.length_nil]; omega
    have h2 := hle A
    cases A with
    | nil => simp at h
    | cons b B => rw [List.map_cons, most] at h2 ⊢; simp only [List.length_cons, List.length_nil] at h2 ⊢; omega
  rw [h1]
  unfold pasteP
  rw [hm]
  show [besideP seps 0 (nth (A.map fun x => [bs x]) 0)] = _
  congr 2
  unfold nth
  rw [List.map_map]; rfl
theorem sep_next (seps : ByteArray) (j : Nat) (h : 0 < seps.size) : sepAt (bs seps) (j + 1) = bs (seps.extract (j % seps.size) (j % seps.size + 1)) := by
  have hj := Nat.mod_lt j h
  rw [bs_ext, Nat.add_sub_cancel_left, bs_at seps (j % seps.size) hj]
  unfold sepAt
  rw [if_pos ⟨by omega, by rw [bs_len]; exact h⟩, bs_len, Nat.add_sub_cancel]
  show [(bs seps).getD (j % seps.size) 0] = [seps[j % seps.size]]
  rw [List.getD_eq_getElem?_getD, List.getElem?_eq_getElem (by rw [bs_len]; exact hj)]; rfl
theorem next_want (A : List ByteArray) (seps : Bs) (k : Nat) (hk : k < A.length) : besideP seps 0 ((A.take (k + 1)).map bs) = besideP seps 0 ((A.take k).map bs) ++ sepAt seps k ++ bs (A.getD k ByteArray.empty) := by
  have h1 : A.take (k + 1) = A.take k ++ [A.getD k ByteArray.empty] := by
    rw [List.take_succ_eq_append_getElem hk]; simp [List.getD, List.getElem?_eq_getElem hk]
  rw [h1, List.map_append, List.map_cons, List.map_nil, besideP_snoc, List.length_map, List.length_take, Nat.min_eq_left (by omega), Nat.zero_add]
/-- so many lists of one line are laid -/
def Laid (ga oa : Nat) (xs : List Value) (k : Nat) : Prop := xs.length = k ∧ ∀ j, j < k → ∃ cb, 1 ≤ cb ∧ xs[j]? = some (.slice (some ⟨ga, oa + j, none⟩) 1 cb)
theorem Laid.snoc {ga oa k cb : Nat} {xs : List Value} (h : Laid ga oa xs k) (hc : 1 ≤ cb) : Laid ga oa (xs ++ [.slice (some ⟨ga, oa + k, none⟩) 1 cb]) (k + 1) := by
  refine ⟨by rw [List.length_append, h.1]; rfl, fun j hj => ?_⟩
  by_cases e : j < k
  · obtain ⟨c, h1, h2⟩ := h.2 j e
    exact ⟨c, h1, by rw [List.getElem?_append_left (by rw [h.1]; exact e)]; exact h2⟩
  · obtain rfl : j = k := by omega
    exact ⟨cb, hc, by rw [List.getElem?_append_right (by rw [h.1]; omega), h.1, Nat.sub_self]; rfl⟩
theorem one_cell (a : Option Addr) (n c : Nat) : ∀ u ∈ [Value.slice a n c], u.oneCell' = true := by
  intro u hu; simp at hu; subst hu; rfl
theorem Tryd.infoTs : (Tryd.prog.info? 25).map (fun i => (i.zero, i.size, i.bytes)) = some (some (.slice none 0 0), 1, 24) := by kernel_rfl

set_option maxRecDepth 100000 in
set_option maxHeartbeats 1000000 in
theorem viewsTurns_any (a : Option Addr) (n c : Nat) (A : List ByteArray) (seps : ByteArray) (w : World) (hTa : Tx w a n c A) (hn : n ≤ 4611686018427387904) (hc : c ≤ 9223372036854775807) (hsp : seps.size ≤ 4611686018427387904)
    (hA : ∀ s ∈ A, s.size ≤ 4611686018427387904) (hT : Tz w) :
    Calls Tryd.prog 4 #[.slice a n c, .string seps] w fun e w' => e = .returned (.bool true) ∧ Below w.heap.size w w' := by
  have AL : Hid (∀ W, Below w.heap.size w W → Calls Tryd.prog 16 #[] W fun e w' => e = .returned (.bool true) ∧ Below W.heap.size W w') := fun W hW => alive_any W (hT.below hW)
  have TA := hide hTa
  have S1 : Hid (∀ W, Below w.heap.size w W → Calls Tryd.prog 17 #[.slice a n c] W fun e w' => (∃ v : Int, e = .returned (.int .i64 v) ∧ 0 ≤ v ∧ v ≤ 4611686018428436480 ∧ (v ≤ 1048576 → v = ((n + tot A : Nat) : Int))) ∧ w' = W) := fun W hW => Pa.textsSize_any a n c A W ((unhide TA).below hW) hn hA
  have hla := hTa.len
  have hle := hTa.le
  clear hTa hA
  by_cases h300 : 300 < n
  · have h300' : (300 : Int) < (n : Int) := by omega
    go_enter Tryd.func4, Tryd.ntmps4
    go_wp2_with fail
    refine (unhide AL _ (Below.refl _ _)).mono ?_
    rintro e w1 ⟨rfl, b1⟩
    go_wp2_with fail
    refine (unhide AL _ b1).mono ?_
    rintro e w3 ⟨rfl, b3⟩
    go_wp2_with fail
    go_ret
    exact ⟨rfl, b1.trans (b3.mono b1.size)⟩
  have h300' : ¬ (300 : Int) < (n : Int) := by omega
  go_enter Tryd.func4, Tryd.ntmps4
  go_wp2_with fail
  refine (unhide AL _ (Below.refl _ _)).mono ?_
  rintro e w1 ⟨rfl, b1⟩
  have B1 := hide b1
  clear b1
  go_wp2_with fail
  refine (unhide S1 _ (unhide B1)).mono ?_
  rintro e w' ⟨⟨v1, rfl, hv0, hv1, hv2⟩, rfl⟩
  clear S1
  by_cases hg1 : 20000 < v1
  · go_wp2_with fail
    refine (unhide AL _ (unhide B1)).mono ?_
    rintro e w3 ⟨rfl, b3⟩
    have B3 := hide ((unhide B1).trans (b3.mono (unhide B1).size))
    clear b3 B1
    go_wp2_with fail
    go_ret
    exact ⟨rfl, unhide B3⟩
  replace hv2 := hide (hv2 (by omega))
  by_cases hs0 : seps.size = 0
  · have hs0' : ((seps.size : Int) == 0) = true := by rw [hs0]; rfl
    clear hs0
    go_wp2_with fail
    refine (unhide AL _ (unhide B1)).mono ?_
    rintro e w3 ⟨rfl, b3⟩
    have B3 := hide ((unhide B1).trans (b3.mono (unhide B1).size))
    clear b3 B1
    go_wp2_with fail
    go_ret
    exact ⟨rfl, unhide B3⟩
  have hs0' : ((seps.size : Int) == 0) = false := by rw [beq_eq_false_iff_ne]; omega
  by_cases hn0 : n = 0
  · have hn0' : ((n : Int) == 0) = true := by rw [hn0]; rfl
    clear hn0
    go_wp2_with fail
    refine (unhide AL _ (unhide B1)).mono ?_
    rintro e w3 ⟨rfl, b3⟩
    have B3 := hide ((unhide B1).trans (b3.mono (unhide B1).size))
    clear b3 B1
    go_wp2_with fail
    go_ret
    exact ⟨rfl, unhide B3⟩
  have hn0' : ((n : Int) == 0) = false := by rw [beq_eq_false_iff_ne]; omega
  have hA1 : n + tot A ≤ 20000 := by have := unhide hv2; omega
  have hAs : Hid (∀ x ∈ A, x.size ≤ 20000) := fun x hx => by have := tot_mem A x hx; omega
  have TA1 := hide ((unhide TA).below (unhide B1))
  obtain ⟨ga, oa, rfl, hga, hca⟩ : ∃ g o, a = some ⟨g, o, none⟩ ∧ g < w'.heap.size ∧ ∀ i, i < n → w'.cell? ⟨g, o + i, none⟩ = some (.string (A.getD i ByteArray.empty)) := by
    rcases (unhide TA1).cells with h | ⟨g, o, e, hg, hc⟩
    · omega
    · exact ⟨g, o, e, hg, hc⟩
  have HCA := hide hca
  clear hca TA TA1 hv2
  obtain ⟨i0, hi, hz0, hz1, hz2⟩ := info_parts Tryd.infoTs
  go_wp2_with fail
  go_loopw [5, 6, 7] (fun v5 v6 v7 wr => ∃ (v : Value) (k : Nat) (W : ByteArray) (xs : List Value), k ≤ n ∧ v = v5 ∧ v6 = .string W ∧ v7 = .int .i64 k ∧ Hid (wr.ownsRow w'.heap.size 25 1 v k xs) ∧ Hid (Laid ga oa xs k) ∧ Hid (bs W = besideP (bs seps) 0 ((A.take k).map bs)) ∧ W.size ≤ k * 20001 ∧ Hid (Below w'.heap.size w' wr)) (fun _ _ v7 _ => n - (intOf v7).toNat)
  case atStart => exact ⟨_, 0, { data := #[] }, [], by omega, rfl, rfl, rfl, World.ownsRow_nil _ _ _ _, ⟨rfl, fun j hj => absurd hj (Nat.not_lt_zero j)⟩, rfl, by decide, Below.refl _ _⟩
  case round =>
    obtain ⟨v, k, W, xs, hk, rfl, rfl, rfl, hO, hL, hW, hWs, hB⟩ := hrel
    have hsz := (unhide hB).size
    by_cases hlt : k < n
    · have hlt' : (k : Int) < (n : Int) := by omega
      have hcell := ((unhide hB).cell (p := ⟨ga, oa + k, none⟩) hga).trans (unhide HCA k hlt)
      have hxs := unhide hAs _ (getD_mem A k (by omega))
      have hnw := hide (next_want A (bs seps) k (by omega))
      obtain ⟨x, hx⟩ : ∃ x, x = A.getD k ByteArray.empty := ⟨_, rfl⟩
      have HX := hide hx
      rw [← hx] at hcell hxs hnw
      clear hx
      have hkc : k < c := by omega
      have hkc1 : (k : Int) + 1 ≤ (c : Int) := by omega
      have hkc2 : (0 : Int) ≤ (k : Int) := by omega
      have hkc3 : (k : Int) ≤ (k : Int) + 1 := by omega
      go_wp2_with (at_builtin; refine wpList_append_own _ rfl _ _ 22 rfl w'.heap.size 25 i0 _ 1 24 Tryd.underlying22 hi hz0 hz1 hz2 rfl (by decide) _ _ _ rfl ((unhide hO).alloc _) ⟨wr.heap.size, 0, none⟩ 1 1 [.slice (some ⟨ga, oa + k, none⟩) 1 (c - k)] rfl rfl (byte_new _ _ _) (one_cell _ _ _) (by unfold maxLen; omega) (by omega) (by simp; omega) ?_)
      intro v2 w3 hown3 hg3 _
      have hO3 := hide hown3
      have hL3 := hide ((unhide hL).snoc (cb := c - k) (by omega))
      have hB3 : Hid (Below w'.heap.size w' w3) := ((unhide hB).alloc hsz _).grown hg3 (by simp; omega) (fun z ez => ((unhide hO).lt z ez).1)
      have hcell3 := ((unhide hB3).cell (p := ⟨ga, oa + k, none⟩) hga).trans (unhide HCA k hlt)
      rw [← unhide HX] at hcell3
      obtain ⟨g2, c2, hv2⟩ : ∃ g cc, v2 = .slice (some ⟨g, 0, none⟩) (k + 1) cc := by
        rcases hown3.2 with ⟨_, h0⟩ | ⟨g, cap, cur, hv, _⟩
        · omega
        · exact ⟨_, _, hv⟩
      subst hv2
      clear hown3 hg3 hO hL hB hcell
      by_cases hk0 : 0 < k
      · have hk0' : (0 : Int) < (k : Int) := by omega
        obtain ⟨j, rfl⟩ : ∃ j, k = j + 1 := ⟨k - 1, by omega⟩
        have hsp0 : 0 < seps.size := by omega
        have hsn := hide (sep_next seps j hsp0)
        have hml := Nat.mod_lt j hsp0
        obtain ⟨m, hm⟩ : ∃ m, m = j % seps.size := ⟨_, rfl⟩
        rw [← hm] at hsn hml
        obtain ⟨Y, hY⟩ : ∃ Y, Y = seps.extract m (m + 1) := ⟨_, rfl⟩
        rw [← hY] at hsn
        have hYs : Y.size = 1 := by
          have h1 := congrArg List.length (unhide hsn)
          rw [bs_len] at h1
          rw [← h1]
          unfold sepAt
          rw [if_pos ⟨by omega, by rw [bs_len]; exact hsp0⟩]; rfl
        have hW2 : Hid (bs (W ++ Y ++ x) = besideP (bs seps) 0 ((A.take (j + 1 + 1)).map bs)) := by
          show _ = _
          rw [unhide hnw, ← unhide hW, unhide hsn]
          simp [bs, ByteArray.data_append]
        have hWsz : Hid ((W ++ Y ++ x).size ≤ (j + 1 + 1) * 20001) := by
          show _ ≤ _
          rw [ByteArray.size_append, ByteArray.size_append]; omega
        clear hnw hW hsn
        go_wp2_with fail
        have hm2 : (j : Int) % (seps.size : Int) = (m : Int) := by rw [hm]; omega
        have hm3 : (0 : Int) ≤ (m : Int) := by omega
        have hm4 : (m : Int) + 1 ≤ (seps.size : Int) := by omega
        have hYe : seps.extract m (m + 1) = Y := hY.symm
        have hsz1 : ¬ 9223372036854775807 < W.size + Y.size := by omega
        have hsz2 : ¬ 9223372036854775807 < (W ++ Y).size + x.size := by rw [ByteArray.size_append]; omega
        clear hm hY
        go_quiet (fail)
        rename_i nq
        have hO4 : Hid ((w3.drewN nq).ownsRow w'.heap.size 25 1 (.slice (some ⟨g2, 0, none⟩) (j + 1 + 1) c2) (j + 1 + 1) (xs ++ [.slice (some ⟨ga, oa + (j + 1), none⟩) 1 (c - (j + 1))])) := (unhide hO3).kept (row := none) ⟨rfl, rfl, rfl, Nat.le_refl _, fun _ _ _ => rfl⟩ (by simp [Value.ownBlock])
        have hB4 : Hid (Below w'.heap.size w' (w3.drewN nq)) := (unhide hB3).trans ((below_drew w3 nq).mono (unhide hB3).size)
        clear hO3 hB3
        go_wp2_with fail
        go_roundw
        case rel => exact ⟨_, j + 1 + 1, _, _, by omega, rfl, rfl, by go_num, hO4, hL3, hW2, unhide hWsz, hB4⟩
        case measure => simp [intOf]; omega
      · have hk0' : ¬ (0 : Int) < (k : Int) := by omega
        have hW2 : Hid (bs (W ++ x) = besideP (bs seps) 0 ((A.take (k + 1)).map bs)) := by
          show _ = _
          rw [unhide hnw, ← unhide hW, show k = 0 by omega, sepAt_zero]
          simp [bs, ByteArray.data_append]
        have hWsz : Hid ((W ++ x).size ≤ (k + 1) * 20001) := by
          show _ ≤ _
          rw [ByteArray.size_append]; omega
        have hl1 : ¬ 9223372036854775807 < W.size + x.size := by omega
        clear hnw hW
        go_wp2_with fail
        go_roundw
        case rel => exact ⟨_, k + 1, _, _, by omega, rfl, rfl, by go_num, hO3, hL3, hW2, unhide hWsz, hB3⟩
        case measure => simp [intOf]; omega
    · obtain rfl : k = n := by omega
      have hwant : Hid (bs W = besideP (bs seps) 0 (A.map bs)) := by
        have h := unhide hW
        rw [List.take_of_length_le (by omega)] at h
        exact h
      obtain ⟨g2, c2, hv2⟩ : ∃ g cc, v = .slice (some ⟨g, 0, none⟩) k cc := by
        rcases (unhide hO).2 with ⟨_, h0⟩ | ⟨g, cap, cur, hv, _⟩
        · omega
        · exact ⟨_, _, hv⟩
      subst hv2
      have hLL : LL wr (some ⟨g2, 0, none⟩) k (A.map fun x => [x]) := by
        refine ⟨by rw [List.length_map]; exact hla, .inr ⟨g2, 0, rfl, ((unhide hO).lt g2 rfl).2, fun i hi => ?_⟩⟩
        obtain ⟨cb, hcb, hxi⟩ := (unhide hL).2 i hi
        have h1 := (unhide hO).cells (g := g2) rfl i _ hxi
        have e1 : (⟨g2, 0, none⟩ : Addr).add i = ⟨g2, 0 + i, none⟩ := by unfold Addr.add; split <;> simp_all
        rw [e1] at h1
        refine ⟨_, _, _, h1, ⟨?_, hcb, (fun h => by cases h), .inr ⟨ga, oa + i, rfl, Nat.lt_of_lt_of_le hga hsz, fun q hq => ?_⟩⟩⟩
        · rw [List.getD_eq_getElem?_getD, List.getElem?_map, List.getElem?_eq_getElem (by omega)]; rfl
        · obtain rfl : q = 0 := by omega
          have h2 := ((unhide hB).cell (p := ⟨ga, oa + i, none⟩) hga).trans (unhide HCA i hi)
          rw [Nat.add_zero, h2]
          simp [List.getD, List.getElem?_map, List.getElem?_eq_getElem (show i < A.length by omega)]
      have P1 := paste_any (some ⟨g2, 0, none⟩) k c2 (A.map fun x => [x]) seps wr hLL (by omega) (by intro q hq; obtain ⟨x, _, rfl⟩ := List.mem_map.1 hq; simp) (by intro q hq; obtain ⟨x, hx, rfl⟩ := List.mem_map.1 hq; intro y hy; rw [List.mem_singleton] at hy; rw [hy]; have := unhide hAs x hx; omega) (by omega)
      rw [paste_ones A (bs seps) (by omega), ← unhide hwant] at P1
      replace P1 := hide P1
      have hB0 := hide ((unhide B1).trans ((unhide hB).mono (unhide B1).size))
      clear hLL hO hL hW hwant hB
      go_wp2_with fail
      refine (unhide P1).mono ?_
      rintro e w5 ⟨v5, rfl, hO5, b5⟩
      have B5 := hide ((unhide hB0).trans (b5.mono (unhide hB0).size))
      obtain ⟨a5, c5, rfl, hT5⟩ := tx_row hO5
      have hl5 : [bs W].length = 1 := rfl
      rw [hl5] at hT5 ⊢
      obtain ⟨g5, o5, rfl, hg5, hc5⟩ : ∃ g o, a5 = some ⟨g, o, none⟩ ∧ g < w5.heap.size ∧ w5.cell? ⟨g, o, none⟩ = some (.string W) := by
        rcases hT5.cells with h | ⟨g, o, e, hg, hc⟩
        · omega
        · refine ⟨g, o, e, hg, ?_⟩
          have := hc 0 (by omega)
          rw [Nat.add_zero] at this
          rw [this]
          show some (Value.string (bt (bs W))) = _
          rw [bt_bs]
      have hself : (W.toList == W.toList) = true := beq_self_eq_true _
      clear hT5 hO5 b5 P1 hl5
      go_wp2_with fail
      go_ret
      exact ⟨rfl, unhide B5⟩
end Go.Proofs.YtjkajhnnoecjbaaDoor.Vw
