/- What beside answers. -/
import Derived.Test.YtjkajhnnoecjbaaDoorVwPasteP
import Derived.Test.YtjkajhnnoecjbaaDoorVwBuild
import Derived.Test.YtjkajhnnoecjbaaDoorTexts
set_option linter.unusedVariables false
namespace Go.Proofs.YtjkajhnnoecjbaaDoor.Vw
open Go.RowKit Go.Shelf Cu
open Pa (Tx tot)

abbrev txs (ss : List ByteArray) : List Bs := ss.map bs
theorem isEmpty_pos (s : ByteArray) (h : 0 < s.size) : s.toList.isEmpty = false := by
  rw [ByteArray.toList_eq]
  cases he : s.data.toList with
  | nil => rw [← bs_len, show bs s = [] from he] at h; simp at h
  | cons => rfl
theorem isEmpty_zero (s : ByteArray) (h : ¬ 0 < s.size) : s.toList.isEmpty = true := by
  rw [ByteArray.toList_eq]
  have : s.data.toList = [] := List.eq_nil_of_length_eq_zero (show s.size = 0 by omega)
  rw [this]; rfl
theorem txs_at (ss : List ByteArray) (k : Nat) (h : k < ss.length) : (txs ss).take (k + 1) = (txs ss).take k ++ [bs (ss.getD k ByteArray.empty)] := by
  rw [List.take_succ_eq_append_getElem (by simpa using h)]
  simp [List.getD, List.getElem?_eq_getElem h]
theorem totL_txs : ∀ ss : List ByteArray, totL (txs ss) = tot ss
  | [] => rfl
  | s :: l => by show (bs s).length + totL (txs l) = _; rw [totL_txs l, tot]; rfl
theorem tot_split : ∀ (ss : List ByteArray) (k : Nat), totL ((txs ss).take k) + tot (ss.drop k) = tot ss
  | [], k => by simp [totL, tot]
  | s :: l, 0 => by simp [totL]
  | s :: l, k + 1 => by
    have := tot_split l k
    have e : (bs s).length = s.size := rfl
    show (bs s).length + totL ((txs l).take k) + tot (l.drop k) = s.size + tot l
    omega
theorem totL_take (l : List Bs) (k : Nat) : totL (l.take k) ≤ totL l := by
  induction l generalizing k with
  | nil => simp
  | cons s l ih =>
    cases k with
    | zero => simp [totL]
    | succ k => simp only [List.take_succ_cons, totL]; have := ih k; omega

set_option maxRecDepth 100000 in
set_option maxHeartbeats 1000000 in
theorem beside_any (seps : ByteArray) (a : Option Addr) (n cap c' : Nat) (ss : List ByteArray) (w : World) (hT : Tx w a n c' ss) (hn : n ≤ 1073741824) (hss : tot ss ≤ 70368744177664) (hsp : seps.size ≤ 4611686018427387904) :
    Calls Tryd.prog 24 #[.string seps, .slice a n cap] w fun e w' => e = .returned (.string (bt (besideP (bs seps) 0 (txs ss)))) ∧ Below w.heap.size w w' := by
  have HT := hide hT
  have hsl : ss.length = n := hT.len
  have hlen : Hid (∀ k, k ≤ n → (besideP (bs seps) 0 ((txs ss).take k)).length + tot (ss.drop k) ≤ 70368744177664 + n) := fun k hk => by
    have h1 := besideP_len (bs seps) 0 ((txs ss).take k)
    have h2 := tot_split ss k
    have h3 : ((txs ss).take k).length ≤ n := by rw [List.length_take, List.length_map]; omega
    omega
  clear hT
  go_enter Tryd.func24, Tryd.ntmps24
  go_wp2_with fail
  go_loopw [10] (fun v wr => ∃ k : Nat, v = .int .i64 k ∧ k ≤ n ∧ Hid (IsB w.heap.size w.heap.size (besideP (bs seps) 0 ((txs ss).take k)) wr) ∧ Hid (Below w.heap.size w wr)) (fun v _ => n - (intOf v).toNat)
  case atStart => exact ⟨0, rfl, Nat.zero_le _, by rw [List.take_zero]; exact isB_new w, (Below.refl _ _).alloc (Nat.le_refl _) _⟩
  case round =>
    obtain ⟨k, rfl, hk, hI, hB⟩ := hrel
    have hsz := (unhide hB).size
    have hll := unhide hlen k hk
    by_cases hlt : k < n
    · have hlt' : (k : Int) < (n : Int) := by omega
      rcases (unhide HT).cells with h0 | ⟨b, off, rfl, hb, hc⟩
      · omega
      have hcx := ((unhide hB).cell (p := ⟨b, off + k, none⟩) hb).trans (hc k hlt)
      have hst : Hid (besideP (bs seps) 0 ((txs ss).take (k + 1)) = besideP (bs seps) 0 ((txs ss).take k) ++ sepAt (bs seps) k ++ bs (ss.getD k ByteArray.empty)) := by
        show _ = _
        rw [txs_at ss k (by omega), besideP_snoc, Nat.zero_add, List.length_take, Nat.min_eq_left (by rw [List.length_map]; omega)]
      have hxs : (ss.getD k ByteArray.empty).size ≤ tot (ss.drop k) := by
        rw [List.drop_eq_getElem_cons (show k < ss.length by omega), tot]
        rw [show ss.getD k ByteArray.empty = ss[k]'(by omega) by simp [List.getD, List.getElem?_eq_getElem (show k < ss.length by omega)]]
        omega
      generalize ss.getD k ByteArray.empty = x at *
      generalize hP : besideP (bs seps) 0 ((txs ss).take k) = P at *
      clear hc hP
      have fin : Hid (∀ (W : World) (l : Bs), l = P ++ sepAt (bs seps) k → IsB w.heap.size w.heap.size l W → w.heap.size ≤ W.heap.size → Calls Tryd.prog 71 #[.pointer (some ⟨w.heap.size, 0, none⟩), .string x] W fun e w' => e = .returned (.tuple #[.int .i64 x.size, .nilIface]) ∧ IsB w.heap.size w.heap.size (besideP (bs seps) 0 ((txs ss).take (k + 1))) w' ∧ Below w.heap.size W w') := fun W l hl h1 h2 => by
        rw [unhide hst, ← hl]
        have := sepAt_len (bs seps) k
        exact ws_any w.heap.size w.heap.size l x W h1 (by rw [hl, List.length_append]; omega) h2
      clear hst
      by_cases hsep : 0 < k ∧ 0 < seps.size
      · obtain ⟨j, rfl⟩ : ∃ j, k = j + 1 := ⟨k - 1, by omega⟩
        obtain ⟨m, hm⟩ : ∃ m, m = j % seps.size := ⟨_, rfl⟩
        have hml : m < seps.size := by rw [hm]; exact Nat.mod_lt _ hsep.2
        have hm' : (j : Int) % (seps.size : Int) = (m : Int) := by rw [hm]; omega
        have hsa : Hid (sepAt (bs seps) (j + 1) = [seps[m]]) := by
          show _ = _
          unfold sepAt
          rw [bs_len, if_pos hsep, Nat.add_sub_cancel, ← hm, List.getD, List.getElem?_eq_getElem (show m < (bs seps).length from hml)]
          rfl
        have hne := isEmpty_pos seps hsep.2
        have h1 : (0 : Int) < (j : Int) + 1 := by omega
        have HW := hide (wb_any w.heap.size w.heap.size _ seps[m] wr (unhide hI) (by omega) hsz)
        clear hI hm
        go_wp2_with fail
        refine (unhide HW).mono ?_
        rintro e w1 ⟨rfl, hI1, b1⟩
        have B1 := hide ((unhide hB).trans b1)
        have F1 := hide (unhide fin w1 _ (by rw [unhide hsa]) hI1 (unhide B1).size)
        have hcx1 := ((unhide B1).cell (p := ⟨b, off + (j + 1), none⟩) hb)
        clear HW b1 hI1 hB fin
        go_wp2_with fail
        refine (unhide F1).mono ?_
        rintro e w2 ⟨rfl, hI2, b2⟩
        have B2 := hide ((unhide B1).trans b2)
        have HI2 := hide hI2
        clear F1 b2 hI2 B1
        go_wp2_with fail
        go_roundw
        case rel => exact ⟨j + 1 + 1, by go_num, by omega, HI2, B2⟩
        case measure => simp [intOf]; omega
      · have F1 := hide (unhide fin wr P (by unfold sepAt; rw [bs_len, if_neg hsep, List.append_nil]) (unhide hI) hsz)
        clear hI fin
        by_cases h0 : 0 < k
        · have h0' : (0 : Int) < (k : Int) := by omega
          have hne := isEmpty_zero seps (by omega)
          go_wp2_with fail
          refine (unhide F1).mono ?_
          rintro e w2 ⟨rfl, hI2, b2⟩
          have B2 := hide ((unhide hB).trans b2)
          have HI2 := hide hI2
          clear F1 b2 hI2 hB
          go_wp2_with fail
          go_roundw
          case rel => exact ⟨k + 1, by go_num, by omega, HI2, B2⟩
          case measure => simp [intOf]; omega
        · obtain rfl : k = 0 := by omega
          rw [Nat.add_zero] at hcx
          go_wp2_with fail
          refine (unhide F1).mono ?_
          rintro e w2 ⟨rfl, hI2, b2⟩
          have B2 := hide ((unhide hB).trans b2)
          have HI2 := hide hI2
          clear F1 b2 hI2 hB
          go_wp2_with fail
          go_roundw
          case rel => exact ⟨0 + 1, by go_num, by omega, HI2, B2⟩
          case measure => simp [intOf]; omega
    · have e : (txs ss).take k = txs ss := List.take_of_length_le (by rw [List.length_map]; omega)
      have H1 := str_any w.heap.size w.heap.size _ wr (unhide hI) hsz
      rw [e] at H1
      have H1 := hide H1
      clear hI e
      go_wp2_with fail
      refine (unhide H1).mono ?_
      rintro e w1 ⟨rfl, hB1⟩
      have hB1' : Hid (Below w.heap.size w w1) := (unhide hB).trans hB1
      clear H1 hB1
      go_wp2_with fail
      go_ret
      exact ⟨rfl, unhide hB1'⟩
end Go.Proofs.YtjkajhnnoecjbaaDoor.Vw
