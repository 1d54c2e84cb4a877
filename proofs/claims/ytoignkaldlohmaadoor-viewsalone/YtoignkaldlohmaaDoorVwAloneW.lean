/- The law ViewsAlone's walk. -/
import Derived.Test.YtoignkaldlohmaaDoorVwAlive
import Derived.Test.YtoignkaldlohmaaDoorVwAloneP
import Derived.Test.YtoignkaldlohmaaDoorTextsSize
set_option linter.unusedVariables false
namespace Go.Proofs.YtoignkaldlohmaaDoor.Vw
open Go.RowKit Cu
open Pa (Tx tot)

theorem tot_mem : ∀ (F : List ByteArray) (x : ByteArray), x ∈ F → x.size ≤ tot F
  | [], x, h => by simp at h
  | y :: F, x, h => by
    simp only [tot]
    rcases List.mem_cons.1 h with rfl | h
    · omega
    · have := tot_mem F x h; omega
theorem ll_row1 {w : World} {a : Option Addr} {n c : Nat} {A : List ByteArray} (h : Tx w a n c A) : LL (w.alloc (.cells #[.slice a n c] 25)) (some ⟨w.heap.size, 0, none⟩) 1 [A] := by
  refine ⟨rfl, .inr ⟨w.heap.size, 0, rfl, by simp, fun i hi => ?_⟩⟩
  obtain rfl : i = 0 := by omega
  exact ⟨_, _, _, by rw [Lib.cell_of_heap (heap_alloc_new w _)]; rfl, h.below ((Below.refl _ _).alloc (Nat.le_refl _) _)⟩
theorem ll_row2 {w : World} {a b : Option Addr} {n c m d : Nat} {A B : List ByteArray} (h : Tx w a n c A) (k : Tx w b m d B) : LL (w.alloc (.cells #[.slice a n c, .slice b m d] 25)) (some ⟨w.heap.size, 0, none⟩) 2 [A, B] := by
  refine ⟨rfl, .inr ⟨w.heap.size, 0, rfl, by simp, fun i hi => ?_⟩⟩
  match i, hi with
  | 0, _ => exact ⟨_, _, _, by rw [Lib.cell_of_heap (heap_alloc_new w _)]; rfl, h.below ((Below.refl _ _).alloc (Nat.le_refl _) _)⟩
  | 1, _ => exact ⟨_, _, _, by rw [Lib.cell_of_heap (heap_alloc_new w _)]; rfl, k.below ((Below.refl _ _).alloc (Nat.le_refl _) _)⟩
theorem map_back (A : List ByteArray) : (txs A).map bt = A := by
  unfold txs
  rw [List.map_map]
  exact (List.map_congr_left (fun x _ => bt_bs x)).trans (List.map_id A)

theorem txs_lt : ∀ (A : List ByteArray) (i : Nat), i < A.length → (txs A).getD i [] = bs (A.getD i ByteArray.empty)
  | [], i, h => by simp at h
  | x :: A, 0, _ => rfl
  | x :: A, i + 1, h => by simpa [txs] using txs_lt A i (by simpa using h)
theorem txs_ge (A : List ByteArray) (i : Nat) (h : A.length ≤ i) : (txs A).getD i [] = [] := by
  have : (txs A).length ≤ i := by simpa [txs] using h
  simp [List.getD, List.getElem?_eq_none this]
theorem getD_mem (A : List ByteArray) (i : Nat) (h : i < A.length) : A.getD i ByteArray.empty ∈ A := by
  simp [List.getD, List.getElem?_eq_getElem h]

set_option maxRecDepth 100000 in
set_option maxHeartbeats 1000000 in
theorem viewsAlone_any (a b : Option Addr) (n c m d : Nat) (A B : List ByteArray) (sep : UInt8) (w : World) (hTa : Tx w a n c A) (hTb : Tx w b m d B) (hn : n ≤ 4611686018427387904) (hm : m ≤ 4611686018427387904)
    (hA : ∀ s ∈ A, s.size ≤ 4611686018427387904) (hB : ∀ s ∈ B, s.size ≤ 4611686018427387904) (hT : Tz w) :
    Calls Tryd.prog 6 #[.slice a n c, .slice b m d, .int .u8 (sep.toNat : Int)] w fun e w' => e = .returned (.bool true) ∧ Below w.heap.size w w' := by
  have AL : Hid (∀ W, Below w.heap.size w W → Calls Tryd.prog 21 #[] W fun e w' => e = .returned (.bool true) ∧ Below W.heap.size W w') := fun W hW => alive_any W (hT.below hW)
  have TA := hide hTa
  have TB := hide hTb
  have S1 : Hid (∀ W, Below w.heap.size w W → Calls Tryd.prog 24 #[.slice a n c] W fun e w' => (∃ v : Int, e = .returned (.int .i64 v) ∧ 0 ≤ v ∧ v ≤ 4611686018428436480 ∧ (v ≤ 1048576 → v = ((n + tot A : Nat) : Int))) ∧ w' = W) := fun W hW => Pa.textsSize_any a n c A W ((unhide TA).below hW) hn hA
  have S2 : Hid (∀ W, Below w.heap.size w W → Calls Tryd.prog 24 #[.slice b m d] W fun e w' => (∃ v : Int, e = .returned (.int .i64 v) ∧ 0 ≤ v ∧ v ≤ 4611686018428436480 ∧ (v ≤ 1048576 → v = ((m + tot B : Nat) : Int))) ∧ w' = W) := fun W hW => Pa.textsSize_any b m d B W ((unhide TB).below hW) hm hB
  have hla := hTa.len
  have hlb := hTb.len
  clear hTa hTb hA hB
  go_enter Tryd.func6, Tryd.ntmps6
  go_wp2_with fail
  refine (unhide AL _ (Below.refl _ _)).mono ?_
  rintro e w1 ⟨rfl, b1⟩
  have B1 := hide b1
  clear b1
  go_wp2_with fail
  refine (unhide S1 _ (unhide B1)).mono ?_
  rintro e w' ⟨⟨v1, rfl, hv0, hv1, hv2⟩, rfl⟩
  clear S1
  by_cases hg1 : 50000 < v1
  · go_wp2_with fail
    refine (unhide AL _ (unhide B1)).mono ?_
    rintro e w3 ⟨rfl, b3⟩
    have B3 := hide ((unhide B1).trans (b3.mono (unhide B1).size))
    clear b3 B1
    go_wp2_with fail
    go_ret
    exact ⟨rfl, unhide B3⟩
  replace hv2 := hide (hv2 (by omega))
  go_wp2_with fail
  refine (unhide S2 _ (unhide B1)).mono ?_
  rintro e w1 ⟨⟨v2, rfl, hu0, hu1, hu2⟩, rfl⟩
  clear S2
  by_cases hg2 : 50000 < v2
  · go_wp2_with fail
    refine (unhide AL _ (unhide B1)).mono ?_
    rintro e w3 ⟨rfl, b3⟩
    have B3 := hide ((unhide B1).trans (b3.mono (unhide B1).size))
    clear b3 B1
    go_wp2_with fail
    go_ret
    exact ⟨rfl, unhide B3⟩
  replace hu2 := hide (hu2 (by omega))
  have hA1 : n + tot A ≤ 50000 := by have := unhide hv2; omega
  have hB1 : m + tot B ≤ 50000 := by have := unhide hu2; omega
  have hAs : Hid (∀ x ∈ A, x.size ≤ 50000) := fun x hx => by have := tot_mem A x hx; omega
  have hBs : Hid (∀ x ∈ B, x.size ≤ 50000) := fun x hx => by have := tot_mem B x hx; omega
  have TA1 := hide ((unhide TA).below (unhide B1))
  have TB1 := hide ((unhide TB).below (unhide B1))
  have hcv := conv_one sep w1
  have hC : Hid (Below w.heap.size w (w1.alloc (.cells #[.int .u8 (sep.toNat : Int)] 5))) := (unhide B1).alloc (unhide B1).size _
  have TA2 := hide ((unhide TA1).below ((Below.refl _ w1).alloc (Nat.le_refl _) (.cells #[.int .u8 (sep.toNat : Int)] 5)))
  have TB2 := hide ((unhide TB1).below ((Below.refl _ w1).alloc (Nat.le_refl _) (.cells #[.int .u8 (sep.toNat : Int)] 5)))
  clear TA1 TB1 TA TB
  go_wp2_with fail
  have hz : (w1.alloc (.cells #[.int .u8 (sep.toNat : Int)] 5)).heap.size = w1.heap.size + 1 := by simp
  clear hcv
  generalize w1.alloc (.cells #[.int .u8 (sep.toNat : Int)] 5) = w2 at *
  have P1 := paste_any (some ⟨w2.heap.size, 0, none⟩) 1 1 [A] (bt [sep]) _ (ll_row1 (unhide TA2)) (by decide) (by intro q hq; obtain rfl : q = A := (by simpa using hq); omega) (by intro q hq; obtain rfl : q = A := (by simpa using hq); intro x hx; have := unhide hAs x hx; omega) (by rw [bt_len]; simp)
  rw [show pasteP (txl [A]) (bs (bt [sep])) = txs A from paste_alone (txs A) sep] at P1
  rw [hz] at P1
  replace P1 := hide P1
  clear hz
  refine (unhide P1).mono ?_
  rintro e w3 ⟨v3, rfl, hO3, b3⟩
  have h32 : Below w2.heap.size w2 w3 := ((Below.refl _ w2).alloc (Nat.le_refl _) _).trans (b3.mono (by simp))
  have B3 : Hid (Below w.heap.size w w3) := (unhide hC).trans (h32.mono (unhide hC).size)
  have TA3 := hide ((unhide TA2).below h32)
  have TB3 := hide ((unhide TB2).below h32)
  obtain ⟨a3, c3, rfl, hT3⟩ := tx_row hO3
  rw [map_back] at hT3
  have hlt3 : (txs A).length = n := by rw [← hla]; simp [txs]
  rw [hlt3] at hT3 ⊢
  have T3 := hide hT3
  clear hT3 hO3 b3 h32 P1 TA2 TB2 hC
  have P2 := paste_any (some ⟨w3.heap.size, 0, none⟩) 2 2 [A, B] (bt [sep]) _ (ll_row2 (unhide TA3) (unhide TB3)) (by decide) (by intro q hq; rcases (show q = A ∨ q = B by simpa using hq) with rfl | rfl <;> omega) (by intro q hq; rcases (show q = A ∨ q = B by simpa using hq) with rfl | rfl; exact fun x hx => (by have := unhide hAs x hx; omega); exact fun x hx => (by have := unhide hBs x hx; omega)) (by rw [bt_len]; simp)
  obtain ⟨hpl, hpe⟩ := paste_both (txs A) (txs B) sep
  rw [show pasteP (txl [A, B]) (bs (bt [sep])) = pasteP [txs A, txs B] [sep] from rfl] at P2
  replace P2 := hide P2
  replace hpl := hide hpl
  replace hpe := hide hpe
  go_wp2_with fail
  refine (unhide P2).mono ?_
  rintro e w4 ⟨v4, rfl, hO4, b4⟩
  have h43 : Below w3.heap.size w3 w4 := ((Below.refl _ w3).alloc (Nat.le_refl _) _).trans (b4.mono (by simp))
  have B4 : Hid (Below w.heap.size w w4) := (unhide B3).trans (h43.mono (unhide B3).size)
  have TA4 := hide ((unhide TA3).below h43)
  have TB4 := hide ((unhide TB3).below h43)
  have T4 := hide ((unhide T3).below h43)
  clear P2 TA3 TB3 T3 B3 h43 b4
  go_wp2_with fail
  refine (Pa.sameTexts_any a3 a n c3 c c3 c A _ hn (unhide T4) (unhide TA4)).mono ?_
  rintro e w5 ⟨rfl, b5⟩
  have B5 : Hid (Below w.heap.size w w5) := (unhide B4).trans (b5.mono (unhide B4).size)
  have TA5 := hide ((unhide TA4).below b5)
  have TB5 := hide ((unhide TB4).below b5)
  obtain ⟨a4, c4, rfl, hT4⟩ := tx_row hO4
  have hT5 := hT4.below b5
  obtain ⟨q, hq⟩ : ∃ q, q = max n m := ⟨_, rfl⟩
  have hql : (pasteP [txs A, txs B] [sep]).length = q := by rw [unhide hpl, hq, hlt3, ← hlb]; simp [txs]
  have hce : ∀ i, i < q → ∃ g o, a4 = some ⟨g, o, none⟩ ∧ g < w5.heap.size ∧ w5.cell? ⟨g, o + i, none⟩ = some (.string (bt ((txs A).getD i [] ++ [sep] ++ (txs B).getD i []))) := by
    intro i hi
    rcases hT5.cells with h | ⟨g, o, e, hg, hc⟩
    · omega
    · refine ⟨g, o, e, hg, (hc i (by omega)).trans ?_⟩
      have hi' : i < (pasteP [txs A, txs B] [sep]).length := by omega
      rw [← unhide hpe i hi']
      simp [List.getD, List.getElem?_map, List.getElem?_eq_getElem hi']
  rw [hql]
  replace hce := hide hce
  have hmx : max (n : Int) (m : Int) = (q : Int) := by omega
  have hqn : n ≤ q := by omega
  have hqm : m ≤ q := by omega
  have hqq : q ≤ n ∨ q ≤ m := by omega
  have hqb : q ≤ 50000 := by omega
  clear hO4 hT4 hT5 b5 T4 TA4 TB4 B4 hpl hpe hql hq
  go_wp2_with fail
  go_loopw [10, 11] (fun s10 s11 wy => ∃ i : Nat, i ≤ q ∧ s10 = .int .i64 i ∧ Hid (Below w5.heap.size w5 wy)) (fun s10 _ _ => q - (intOf s10).toNat)
  case atStart => exact ⟨0, Nat.zero_le _, rfl, Below.refl _ _⟩
  case round =>
    obtain ⟨i, hi, rfl, hBi⟩ := hrel
    by_cases hil : i < q
    · have hil' : (i : Int) < (q : Int) := by omega
      have hiz : (0 : Int) ≤ (i : Int) := by omega
      obtain ⟨g, o, rfl, hg, hcg⟩ := unhide hce i hil
      have hcg' := ((unhide hBi).cell hg).trans hcg
      by_cases hin : i < n
      · by_cases him : i < m
        · have hin' : (i : Int) < (n : Int) := by omega
          obtain ⟨ga, oa, rfl, hga, hca⟩ : ∃ g o, a = some ⟨g, o, none⟩ ∧ g < w5.heap.size ∧ w5.cell? ⟨g, o + i, none⟩ = some (.string (A.getD i ByteArray.empty)) := by
            rcases (unhide TA5).cells with h | ⟨g, o, e, hg, hc⟩
            · omega
            · exact ⟨g, o, e, hg, hc i hin⟩
          have hxa := unhide hAs _ (getD_mem A i (by omega))
          have hca' := ((unhide hBi).cell hga).trans hca
          rw [txs_lt A i (by omega)] at hcg'
          have him' : (i : Int) < (m : Int) := by omega
          obtain ⟨gb, ob, rfl, hgb, hcb⟩ : ∃ g o, b = some ⟨g, o, none⟩ ∧ g < w5.heap.size ∧ w5.cell? ⟨g, o + i, none⟩ = some (.string (B.getD i ByteArray.empty)) := by
            rcases (unhide TB5).cells with h | ⟨g, o, e, hg, hc⟩
            · omega
            · exact ⟨g, o, e, hg, hc i him⟩
          have hxb := unhide hBs _ (getD_mem B i (by omega))
          have hcb' := ((unhide hBi).cell hgb).trans hcb
          rw [txs_lt B i (by omega)] at hcg'
          generalize A.getD i ByteArray.empty = x at *
          generalize B.getD i ByteArray.empty = y at *
          rw [show bt (bs x ++ [sep] ++ bs y) = x ++ bt [sep] ++ y by rw [← bt_app, ← bt_app, bt_bs, bt_bs]] at hcg'
          have hl1 : ¬ 9223372036854775807 < x.size + 1 := by omega
          have hl2 : ¬ 9223372036854775807 < x.size + 1 + y.size := by omega
          have hself : ((x ++ bt [sep] ++ y).toList == (x ++ bt [sep] ++ y).toList) = true := beq_self_eq_true _
          clear hcg hqq
          go_wp2_with fail
          exact ⟨⟨i + 1, by omega, by go_num, hBi⟩, by simp [intOf]; omega⟩
        · have hin' : (i : Int) < (n : Int) := by omega
          obtain ⟨ga, oa, rfl, hga, hca⟩ : ∃ g o, a = some ⟨g, o, none⟩ ∧ g < w5.heap.size ∧ w5.cell? ⟨g, o + i, none⟩ = some (.string (A.getD i ByteArray.empty)) := by
            rcases (unhide TA5).cells with h | ⟨g, o, e, hg, hc⟩
            · omega
            · exact ⟨g, o, e, hg, hc i hin⟩
          have hxa := unhide hAs _ (getD_mem A i (by omega))
          have hca' := ((unhide hBi).cell hga).trans hca
          rw [txs_lt A i (by omega)] at hcg'
          have him' : ¬ (i : Int) < (m : Int) := by omega
          rw [txs_ge B i (by omega)] at hcg'
          generalize A.getD i ByteArray.empty = x at *
          rw [show bt (bs x ++ [sep] ++ []) = x ++ bt [sep] by rw [List.append_nil, ← bt_app, bt_bs]] at hcg'
          have hl1 : ¬ 9223372036854775807 < x.size + 1 := by omega
          have hself : ((x ++ bt [sep]).toList == (x ++ bt [sep]).toList) = true := beq_self_eq_true _
          clear hcg hqq
          go_wp2_with fail
          exact ⟨⟨i + 1, by omega, by go_num, hBi⟩, by simp [intOf]; omega⟩
      · have him : i < m := by omega
        have hin' : ¬ (i : Int) < (n : Int) := by omega
        rw [txs_ge A i (by omega)] at hcg'
        have him' : (i : Int) < (m : Int) := by omega
        obtain ⟨gb, ob, rfl, hgb, hcb⟩ : ∃ g o, b = some ⟨g, o, none⟩ ∧ g < w5.heap.size ∧ w5.cell? ⟨g, o + i, none⟩ = some (.string (B.getD i ByteArray.empty)) := by
          rcases (unhide TB5).cells with h | ⟨g, o, e, hg, hc⟩
          · omega
          · exact ⟨g, o, e, hg, hc i him⟩
        have hxb := unhide hBs _ (getD_mem B i (by omega))
        have hcb' := ((unhide hBi).cell hgb).trans hcb
        rw [txs_lt B i (by omega)] at hcg'
        generalize B.getD i ByteArray.empty = y at *
        rw [show bt ([] ++ [sep] ++ bs y) = bt [sep] ++ y by rw [List.nil_append, ← bt_app, bt_bs]] at hcg'
        have hl2 : ¬ 9223372036854775807 < 1 + y.size := by omega
        have hself : ((bt [sep] ++ y).toList == (bt [sep] ++ y).toList) = true := beq_self_eq_true _
        clear hcg hqq
        go_wp2_with fail
        exact ⟨⟨i + 1, by omega, by go_num, hBi⟩, by simp [intOf]; omega⟩
    · have hiq : i = q := by omega
      subst hiq
      have hnl : ¬ (i : Int) < (i : Int) := by omega
      have hB6 : Hid (Below w.heap.size w wr) := (unhide B5).trans ((unhide hBi).mono (unhide B5).size)
      go_wp2_with fail
      go_ret
      exact ⟨rfl, unhide hB6⟩
end Go.Proofs.YtoignkaldlohmaaDoor.Vw
