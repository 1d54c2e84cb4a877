/- What the document's own Fold answers. -/
import Derived.Test.YtpfdjnnnemkoiaaDoorCuFold
namespace Go.Proofs.YtpfdjnnnemkoiaaDoor.Cu
open Go.RowKit Go.Shelf

theorem idx_pred (A : ByteArray) (f : Nat) (h1 : 1 ≤ f) (h2 : f ≤ A.size) : ∃ c : UInt8, (bs A)[f - 1]? = some c ∧ ∀ W, (Instr.index 9 (.string A) (.int .i64 ((f : Int) - 1))).run Tryd.prog W = .ok (.int .u8 c.toNat) W := by
  obtain ⟨f', rfl⟩ : ∃ f', f = f' + 1 := ⟨f - 1, by omega⟩
  have hf : f' < A.size := by omega
  refine ⟨A[f'], ?_, fun W => ?_⟩
  · rw [show f' + 1 - 1 = f' by omega, List.getElem?_eq_getElem (by rw [bs_len]; exact hf)]; rfl
  · rw [show ((f' + 1 : Nat) : Int) - 1 = (f' : Int) by omega]
    simp [Instr.index, run_underlying Tryd.underlying9, asIntOf, go_sem, hf]

theorem blank_any (c : UInt8) (w : World) :
    Calls Tryd.prog 67 #[.int .u8 c.toNat] w fun e w' => e = .returned (.bool (blk c)) ∧ w' = w := by
  by_cases h1 : c = 32
  · subst h1
    go_enter Tryd.func67, Tryd.ntmps67
    go_wp2_with fail
    go_ret
    exact ⟨rfl, rfl⟩
  by_cases h2 : c = 9
  · subst h2
    go_enter Tryd.func67, Tryd.ntmps67
    go_wp2_with fail
    go_ret
    exact ⟨rfl, rfl⟩
  have e1 : ((c.toNat : Int) == 32) = false := beq_eq_false_iff_ne.2 (fun e => h1 (u8_eq e))
  have e2 : ((c.toNat : Int) == 9) = false := beq_eq_false_iff_ne.2 (fun e => h2 (u8_eq e))
  have hb : blk c = false := by simp [blk, h1, h2]
  rw [hb]
  clear h1 h2 hb
  go_enter Tryd.func67, Tryd.ntmps67
  go_wp2_with fail
  go_ret
  exact ⟨rfl, rfl⟩

set_option maxHeartbeats 1000000 in
set_option maxRecDepth 100000 in
theorem rcut_any (t : ByteArray) (n : Nat) (bl : Bool) (w : World) (hn1 : 1 ≤ n) (hn2 : n ≤ t.size) (ht : t.size ≤ 1073741824) :
    Calls Tryd.prog 16 #[.string t, .int .i64 n, .bool bl] w fun e w' => e = .returned (.int .i64 (psize n bl (bs t))) ∧ w' = w := by
  cases bl
  · have hp : psize n false (bs t) = n := by simp [psize]
    rw [hp]
    clear hp
    go_enter Tryd.func16, Tryd.ntmps16
    go_wp2_with fail
    refine wp_loop_rounds 1 ?_
    rw [rounds_succ]
    go_wp2_with fail
    go_ret
    exact ⟨rfl, rfl⟩
  · have hp : psize n true (bs t) = (cutAt (bs t) n).getD n := by simp [psize]
    rw [hp]
    have h0 : Hid (cutAt (bs t) n = cutAt (bs t) n) := rfl
    clear hp
    go_enter Tryd.func16, Tryd.ntmps16
    go_wp2_with fail
    go_loopw [7] (fun ff wr => ∃ f : Nat, f ≤ n ∧ ff = .int .i64 f ∧ Hid (cutAt (bs t) n = cutAt (bs t) f) ∧ Hid (wr = w)) (fun ff _ => (intOf ff).toNat)
    case atStart => exact ⟨n, Nat.le_refl _, rfl, rfl, rfl⟩
    case round =>
      obtain ⟨f, hf, rfl, hcut, hw⟩ := hrel
      by_cases h0' : f = 0
      · subst h0'
        have hr : Hid ((cutAt (bs t) n).getD n = n) := by rw [unhide hcut]; rfl
        go_wp2_with fail
        go_ret
        exact ⟨by rw [unhide hr]; rfl, unhide hw⟩
      · obtain ⟨c, hc, hix⟩ := idx_pred t f (by omega) (by omega)
        have hf0 : (0 : Int) < (f : Int) := by omega
        have hgd : (bs t).getD (f - 1) 0 = c := by rw [List.getD, hc]; rfl
        have hstep : cutAt (bs t) f = if blk c = true then some f else cutAt (bs t) (f - 1) := by
          obtain ⟨f', rfl⟩ : ∃ f', f = f' + 1 := ⟨f - 1, by omega⟩
          rw [show f' + 1 - 1 = f' by omega] at hgd
          rw [cutAt, hgd]; rfl
        have C := hide (blank_any c wr)
        have HST := hide hstep
        clear hgd hstep hc
        cases hb : blk c
        · rw [hb] at C
          have hcut2 : Hid (cutAt (bs t) n = cutAt (bs t) (f - 1)) := by rw [unhide hcut, unhide HST, hb]; simp [Hid]
          clear hb HST hcut
          go_wp2_with fail
          refine (unhide C).mono ?_
          rintro e w2 ⟨rfl, hw2⟩
          have hw3 : Hid (w2 = w) := hw2.trans (unhide hw)
          clear C hw2 hw
          go_wp2_with fail
          go_roundw
          case rel => exact ⟨f - 1, by omega, by go_num, hcut2, hw3⟩
          case measure => simp [intOf]; omega
        · rw [hb] at C
          have hr : Hid ((cutAt (bs t) n).getD n = f) := by rw [unhide hcut, unhide HST, hb]; simp [Hid]
          clear hb HST hcut
          go_wp2_with fail
          refine (unhide C).mono ?_
          rintro e w2 ⟨rfl, hw2⟩
          have hw3 : Hid (w2 = w) := hw2.trans (unhide hw)
          clear C hw2 hw
          go_wp2_with fail
          go_ret
          exact ⟨by rw [unhide hr]; rfl, unhide hw3⟩

set_option maxRecDepth 100000 in
set_option maxHeartbeats 1000000 in
theorem rfold_bad (s : ByteArray) (n : Int) (bl : Bool) (w : World) (h : n < 1 ∨ 65536 < n) :
    Calls Tryd.prog 7 #[.string s, .int .i64 n, .bool bl] w fun e w' => e = .returned (.tuple #[.slice none 0 0, .int .i64 1]) ∧ w' = w := by
  by_cases h1 : n < 1
  · clear h
    go_enter Tryd.func7, Tryd.ntmps7
    go_wp2_with fail
    go_ret2
    exact ⟨rfl, rfl⟩
  · have h2 : 65536 < n := by omega
    clear h
    go_enter Tryd.func7, Tryd.ntmps7
    go_wp2_with fail
    go_ret2
    exact ⟨rfl, rfl⟩

set_option maxRecDepth 100000 in
set_option maxHeartbeats 1000000 in
theorem rfold_any (s : ByteArray) (n : Nat) (bl : Bool) (w : World) (hn1 : 1 ≤ n) (hn2 : n ≤ 65536) (hs : s.size ≤ 1073741823) :
    Calls Tryd.prog 7 #[.string s, .int .i64 n, .bool bl] w fun e w' => ∃ v, e = .returned (.tuple #[v, .int .i64 0]) ∧ RowS w.heap.size v (foldL n bl (bs s)) w' ∧ Below w.heap.size w w' := by
  obtain ⟨i1, hi1, hy0, hy1, hy2⟩ := info_parts Tryd.infoStr
  have h1 : ¬ (n : Int) < 1 := by omega
  have h2 : ¬ 65536 < (n : Int) := by omega
  have hlen := foldL_len n bl hn1 (bs s).length (bs s) (Nat.le_refl _)
  rw [bs_len] at hlen
  go_enter Tryd.func7, Tryd.ntmps7
  go_wp2_with fail
  go_loopw [0, 8] (fun sv u wr => ∃ (t : ByteArray) (pre : List Bs), sv = .string t ∧ t.size ≤ s.size ∧ Hid (foldL n bl (bs s) = pre ++ foldL n bl (bs t)) ∧ Hid (RowS w.heap.size u pre wr) ∧ Hid (Below w.heap.size w wr)) (fun sv _ _ => strLen sv)
  case atStart => exact ⟨s, [], rfl, Nat.le_refl _, rfl, World.ownsRow_nil _ _ _ _, Below.refl _ _⟩
  case round =>
    obtain ⟨t, pre, rfl, hts, hcut, hrow, hbl⟩ := hrel
    have hsz := (unhide hbl).size
    have hpl : pre.length ≤ s.size + 1 := by
      have := congrArg List.length (unhide hcut)
      rw [List.length_append] at this; omega
    by_cases hlt : n < t.size
    · have hlt' : (n : Int) < (t.size : Int) := by omega
      obtain ⟨hk1, hk2⟩ := psize_le n bl (bs t) hn1
      have hx : Hid (foldL n bl (bs s) = (pre ++ [(bs t).take (psize n bl (bs t))]) ++ foldL n bl ((bs t).drop (psize n bl (bs t)))) := by
        rw [unhide hcut, foldL_step n bl (bs t) hn1 (by rw [bs_len]; exact hlt)]; simp [Hid]
      have C := hide (rcut_any t n bl wr hn1 (by omega) (by omega))
      obtain ⟨k, hk⟩ : ∃ k, k = psize n bl (bs t) := ⟨_, rfl⟩
      rw [← hk] at hx hk1 hk2 C
      have hbx : Hid (bs (t.extract k t.size) = (bs t).drop k) := bs_from t k
      have hsx : (t.extract k t.size).size = t.size - k := size_from t k
      have hte : Hid (t.extract 0 k = bt ((bs t).take k)) := by rw [bt_extract]; exact rfl
      clear hk hcut
      go_wp2_with fail
      refine (unhide C).mono ?_
      rintro e w2 ⟨rfl, rfl⟩
      clear C
      go_wp2_with (at_builtin; refine wpList_append_own _ rfl _ _ 23 rfl w.heap.size 9 i1 _ 1 16 Tryd.underlying23 hi1 hy0 hy1 hy2 rfl (by decide) _ _ _ rfl ((unhide hrow).alloc _) ⟨w2.heap.size, 0, none⟩ 1 1 [.string (t.extract 0 k)] rfl rfl (byte_new _ _ _) (by simp [Value.oneCell']) (by unfold maxLen; omega) (by omega) (by simp; omega) ?_; intro v' w9 hown9 hg9 hnil9; have hn' : Hid (RowS w.heap.size v' (pre ++ [(bs t).take k]) w9) := (by rw [unhide hte] at hown9; show w9.ownsRow _ _ _ _ _ _; rw [cellsS_snoc, List.length_append]; exact hown9); have hB9 : Hid (Below w.heap.size w w9) := (unhide hbl).grown (grown_alloc hg9) hsz (fun i hi => ((unhide hrow).lt i hi).1); clear hown9 hg9 hnil9)
      go_roundw
      case rel => exact ⟨t.extract k t.size, _, rfl, by omega, by rw [unhide hbx]; exact hx, hn', hB9⟩
      case measure => simp only [strLen]; omega
    · have hge : ¬ (n : Int) < (t.size : Int) := by omega
      have hx : Hid (foldL n bl (bs s) = pre ++ [bs t]) := by rw [unhide hcut, foldL_end n bl (bs t) (by rw [bs_len]; omega)]; exact rfl
      clear hcut
      go_wp2_with (at_builtin; refine wpList_append_own _ rfl _ _ 23 rfl w.heap.size 9 i1 _ 1 16 Tryd.underlying23 hi1 hy0 hy1 hy2 rfl (by decide) _ _ _ rfl ((unhide hrow).alloc _) ⟨wr.heap.size, 0, none⟩ 1 1 [.string t] rfl rfl (byte_new _ _ _) (by simp [Value.oneCell']) (by unfold maxLen; omega) (by omega) (by simp; omega) ?_; intro v' w9 hown9 hg9 hnil9; have hn' : Hid (RowS w.heap.size v' (pre ++ [bs t]) w9) := (by show w9.ownsRow _ _ _ _ _ _; rw [cellsS_snoc, List.length_append]; exact hown9); have hB9 : Hid (Below w.heap.size w w9) := (unhide hbl).grown (grown_alloc hg9) hsz (fun i hi => ((unhide hrow).lt i hi).1); clear hown9 hg9 hnil9)
      go_ret2
      exact ⟨v', rfl, by rw [unhide hx]; exact unhide hn', unhide hB9⟩
end Go.Proofs.YtpfdjnnnemkoiaaDoor.Cu
