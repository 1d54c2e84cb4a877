/- What the document's Head, Tail, HeadBytes and TailBytes answer: the same. -/
import Derived.Test.YtbamldjifempfaaLnReach
namespace Go.Proofs.Ytbamldjifempfaa.Ln
open Go.RowKit Go.Shelf

theorem ext_all (s : ByteArray) : s.extract 0 s.size = s := by
  rw [bt_extract, List.take_of_length_le (by simp)]
  simp [bt]
theorem drop_dropLast (l : List UInt8) (i : Nat) : l.dropLast.drop i = (l.drop i).dropLast := by
  rw [List.dropLast_eq_take, List.dropLast_eq_take, List.drop_take, List.length_drop]
  congr 1
  omega
theorem reachN_nil (n : Int) : reachN [] n = 0 := by simp [reachN, parts, szs]
theorem reachN_zero (l : List UInt8) (n : Int) (h : n ≤ 0) : reachN l n = 0 := by
  unfold reachN; rw [show n.toNat = 0 by omega]; simp [szs]
theorem reachN_cons (c : UInt8) (l : List UInt8) (n : Int) (h : 0 < n) : reachN (c :: l) n = 1 + reachN l (if isEnd c then n - 1 else n) := by
  unfold reachN
  rw [parts]
  obtain ⟨k, hk⟩ : ∃ k, n.toNat = k + 1 := ⟨n.toNat - 1, by omega⟩
  split
  · rw [hk, List.take_succ_cons, show (n - 1).toNat = k by omega]; simp [szs, sz]
  · rw [hk]
    split
    · rename_i h1; simp [h1, szs, sz]
    · rename_i h1; rw [h1, List.take_succ_cons, List.take_succ_cons]; simp [szs, sz]; omega

set_option maxRecDepth 100000 in
set_option maxHeartbeats 1000000 in
theorem refHead_any (s : ByteArray) (n : Int) (w : World) (hs : s.size ≤ 1073741824) (hn0 : -9223372036854775808 ≤ n) (hn1 : n ≤ 9223372036854775807) :
    Calls Try.prog 15 #[.string s, .int .i64 n] w fun e w' => e = .returned (.string (bt (s.data.toList.take (reachN s.data.toList n)))) ∧ w' = w := by
  have e : bt (s.data.toList.take (reachN s.data.toList n)) = s.extract 0 (reachN s.data.toList n) := by rw [bt_extract]; simp
  rw [e]
  obtain ⟨r, hr⟩ : ∃ r, r = reachN s.data.toList n := ⟨_, rfl⟩
  rw [← hr]
  have HR := hide hr
  clear hr e
  go_enter Try.func15, Try.ntmps15
  go_wp2
  go_loopw [1, 5] (fun nv i wr => ∃ (b : Nat) (n' : Int), nv = .int .i64 n' ∧ i = .int .i64 b ∧ b ≤ s.size ∧ -9223372036854775808 ≤ n' ∧ n' ≤ 9223372036854775807 ∧ Hid (r = b + reachN (s.data.toList.drop b) n') ∧ wr = w) (fun _ i _ => s.size - (intOf i).toNat)
  case atStart => exact ⟨0, n, rfl, rfl, Nat.zero_le _, hn0, hn1, by show r = _; rw [unhide HR]; simp, rfl⟩
  case round =>
    obtain ⟨b, n', rfl, rfl, hb, h0, h1, hinv, rfl⟩ := hrel
    by_cases hlt : b < s.size
    · have hlt' : (b : Int) < (s.size : Int) := by omega
      have hll : b < s.data.toList.length := hlt
      by_cases hn : n' ≤ 0
      · have hrb : r = b := by rw [unhide hinv, reachN_zero _ _ hn]; rfl
        subst hrb
        go_wp2
        go_ret
        exact ⟨rfl, rfl⟩
      · have hdc : s.data.toList.drop b = s[b] :: s.data.toList.drop (b + 1) := List.drop_eq_getElem_cons hll
        have hst := unhide hinv
        rw [hdc, reachN_cons _ _ _ (by omega)] at hst
        clear hdc
        have hst' := hide hst
        clear hst hinv
        by_cases hc : s[b].toNat = 10
        · have hc' : (s[b].toNat : Int) = 10 := by omega
          have hst2 : Hid (r = (b + 1 : Nat) + reachN (s.data.toList.drop (b + 1)) (n' - 1)) := by
            show r = _
            have := unhide hst'
            simp only [isEnd, hc, decide_true, if_true] at this
            omega
          clear hst' hc
          go_wp2
          go_roundw
          case rel => exact ⟨b + 1, n' - 1, by go_num, by go_num, by omega, by omega, by omega, hst2, by simp⟩
          case measure => simp [intOf]; omega
        · have hc' : ¬ (s[b].toNat : Int) = 10 := by omega
          have hst2 : Hid (r = (b + 1 : Nat) + reachN (s.data.toList.drop (b + 1)) n') := by
            show r = _
            have := unhide hst'
            simp only [isEnd, hc, decide_false] at this
            simp at this
            omega
          clear hst' hc
          go_wp2
          go_roundw
          case rel => exact ⟨b + 1, n', by go_num, by go_num, by omega, by omega, by omega, hst2, by simp⟩
          case measure => simp [intOf]; omega
    · obtain rfl : b = s.size := by omega
      have hrb : r = s.size := by
        rw [unhide hinv, List.drop_eq_nil_of_le (show s.data.toList.length ≤ s.size from Nat.le_refl _), reachN_nil]; rfl
      subst hrb
      go_wp2
      go_ret
      rw [ext_all]
      exact ⟨rfl, rfl⟩

def cntE (l : List UInt8) : Nat := (l.filter isEnd).length
theorem parts_count : ∀ l : List UInt8, l ≠ [] → (parts isEnd l).length = cntE l.dropLast + 1
  | [], h => absurd rfl h
  | [c], _ => by simp [parts, cntE]; split <;> rfl
  | c :: d :: l, _ => by
    have ih := parts_count (d :: l) (by simp)
    rw [parts]
    simp only [List.dropLast_cons_cons]
    split
    · rename_i h; simp [ih, cntE, h]
    · rename_i h
      have : parts isEnd (d :: l) ≠ [] := fun e => by have := parts_none _ e; simp at this
      split
      · rename_i h1; exact absurd h1 this
      · rename_i h1; rw [h1] at ih; simp [cntE, h] at ih ⊢; omega
/-- the last so many lines begin behind an end -/
theorem tail_at (l : List UInt8) (i : Nat) (h0 : 0 < i) (h1 : i < l.length) (he : isEnd l[i - 1] = true) (n : Int) (hn : n = cntE (l.dropLast.drop (i - 1))) :
    reachN l ((parts isEnd l).length - n) = i := by
  have e1 : l.take i ++ l.drop i = l := List.take_append_drop _ _
  have e2 : l.take i = l.take (i - 1) ++ [l[i - 1]] := by
    have := List.take_succ_eq_append_getElem (i := i - 1) (l := l) (by omega)
    rwa [show i - 1 + 1 = i by omega] at this
  have e3 : parts isEnd l = parts isEnd (l.take i) ++ parts isEnd (l.drop i) := by
    have := parts_two (l.take (i - 1)) l[i - 1] (l.drop i) he
    rw [← e2] at this
    rw [← this]
    congr 1
    rw [← List.singleton_append, ← List.append_assoc, ← e2, e1]
  have e4 : (parts isEnd (l.drop i)).length = cntE (l.drop i).dropLast + 1 := parts_count _ (by intro e; have := congrArg List.length e; simp at this; omega)
  have e5 : l.dropLast.drop (i - 1) = l[i - 1] :: (l.drop i).dropLast := by
    rw [List.drop_eq_getElem_cons (by simp; omega), List.getElem_dropLast, show i - 1 + 1 = i by omega, drop_dropLast]
  have e6 : cntE (l.dropLast.drop (i - 1)) = cntE (l.drop i).dropLast + 1 := by rw [e5]; simp [cntE, he]
  unfold reachN
  have e7 : ((parts isEnd l).length - n).toNat = (parts isEnd (l.take i)).length := by rw [hn, e6, e3, List.length_append, e4]; omega
  rw [e7, e3, List.take_left, szs_parts, List.length_take]
  omega
theorem tail_all (l : List UInt8) (n : Int) (h : (cntE l.dropLast : Int) < n) : reachN l ((parts isEnd l).length - n) = 0 := by
  refine reachN_zero _ _ ?_
  by_cases hl : l = []
  · subst hl; simp [parts]; omega
  · rw [parts_count l hl]; omega
theorem tail_none (l : List UInt8) : reachN l ((parts isEnd l).length - 0) = l.length := by
  unfold reachN
  rw [List.take_of_length_le (by omega), szs_parts]
theorem cnt_down (l : List UInt8) (i : Nat) (h0 : 0 < i) (h1 : i < l.length) : cntE (l.dropLast.drop (i - 1)) = cntE (l.dropLast.drop i) + if isEnd l[i - 1] then 1 else 0 := by
  rw [List.drop_eq_getElem_cons (i := i - 1) (by simp; omega), List.getElem_dropLast, show i - 1 + 1 = i by omega]
  unfold cntE
  rw [List.filter_cons]
  split <;> simp

set_option maxRecDepth 100000 in
set_option maxHeartbeats 1000000 in
theorem refTail_any (s : ByteArray) (n : Int) (w : World) (hs : s.size ≤ 1073741824) (hn0 : -9223372036854775808 ≤ n) (hn1 : n ≤ 9223372036854775807) :
    Calls Try.prog 17 #[.string s, .int .i64 n] w fun e w' => e = .returned (.string (bt (s.data.toList.drop (reachN s.data.toList (((parts isEnd s.data.toList).length : Int) - max n 0))))) ∧ w' = w := by
  by_cases hneg : n ≤ 0
  · rw [show max n 0 = 0 by omega, tail_none, List.drop_eq_nil_of_le (Nat.le_refl _)]
    go_enter Try.func17, Try.ntmps17
    go_wp2
    go_ret
    exact ⟨rfl, rfl⟩
  · rw [show max n 0 = n by omega, bt_drop]
    obtain ⟨r, hr⟩ : ∃ r, r = reachN s.data.toList (((parts isEnd s.data.toList).length : Int) - n) := ⟨_, rfl⟩
    rw [← hr]
    have HR := hide hr
    clear hr
    have hneg' : ¬ n ≤ 0 := hneg
    have hpos : 0 < n := by omega
    go_enter Try.func17, Try.ntmps17
    go_wp2
    go_loopw [1, 5] (fun nv i wr => ∃ (b : Nat) (n' : Int), nv = .int .i64 n' ∧ i = .int .i64 ((b : Int) - 1) ∧ b ≤ s.size ∧ 0 < n' ∧ n' ≤ 9223372036854775807 ∧ Hid (n' = n - cntE (s.data.toList.dropLast.drop (b - 1))) ∧ wr = w) (fun _ i _ => (intOf i).toNat)
    case atStart =>
      refine ⟨s.size, n, rfl, by go_num, Nat.le_refl _, hpos, hn1, ?_, rfl⟩
      show n = _
      rw [List.drop_eq_nil_of_le (by simp)]; simp [cntE]
    case round =>
      obtain ⟨b, n', rfl, rfl, hb, h0, h1, hinv, rfl⟩ := hrel
      by_cases hlt : 1 < b
      · obtain ⟨k, rfl⟩ : ∃ k, b = k + 2 := ⟨b - 2, by omega⟩
        have e1 : ((k + 2 : Nat) : Int) - 1 = ((k + 1 : Nat) : Int) := by omega
        rw [e1]
        have hll : k < s.size := by omega
        have hlk : k + 1 < s.data.toList.length := hb
        have hcd := cnt_down s.data.toList (k + 1) (by omega) hlk
        have hta := tail_at s.data.toList (k + 1) (by omega) hlk
        simp only [Nat.add_sub_cancel] at hcd hta
        have hgt : s.data.toList[k] = s[k] := rfl
        rw [hgt] at hcd hta
        have hinv' : n' = n - cntE (s.data.toList.dropLast.drop (k + 1)) := unhide hinv
        clear hinv
        by_cases hc : s[k].toNat = 10
        · have hc' : (s[k].toNat : Int) = 10 := by omega
          have hie : isEnd s[k] = true := by simp [isEnd, hc]
          rw [hie] at hcd
          by_cases hz : n' - 1 ≤ 0
          · have hrk : r = k + 1 := by rw [unhide HR]; exact hta hie n (by rw [hcd]; simp; omega)
            subst hrk
            clear hta hcd hinv' HR hie hc
            go_wp2
            go_ret
            exact ⟨rfl, rfl⟩
          · have hi2 : Hid (n' - 1 = n - cntE (s.data.toList.dropLast.drop k)) := by
              show _ = _
              rw [hcd]; simp; omega
            have hz' : ¬ n' - 1 ≤ 0 := hz
            clear hta hcd hinv' hie hc
            go_wp2
            go_roundw
            case rel => exact ⟨k + 1, n' - 1, by go_num, by go_num, by omega, by omega, by omega, hi2, by simp⟩
            case measure => simp [intOf] <;> omega
        · have hc' : ¬ (s[k].toNat : Int) = 10 := by omega
          have hie : isEnd s[k] = false := by simp [isEnd, hc]
          rw [hie] at hcd
          have hi2 : Hid (n' = n - cntE (s.data.toList.dropLast.drop k)) := by
            show _ = _
            rw [hcd]; simp; omega
          have hz' : ¬ n' ≤ 0 := by omega
          clear hta hcd hinv' hie hc
          go_wp2
          go_roundw
          case rel => exact ⟨k + 1, n', by go_num, by go_num, by omega, by omega, by omega, hi2, by simp⟩
          case measure => simp [intOf] <;> omega
      · have hr0 : r = 0 := by
          rw [unhide HR]
          refine tail_all _ _ ?_
          have := unhide hinv
          rw [show b - 1 = 0 by omega] at this
          simp at this
          omega
        subst hr0
        have hl2 : ¬ (0 : Int) < (b : Int) - 1 := by omega
        go_wp2
        go_ret
        exact ⟨rfl, rfl⟩

theorem size_zero (s : ByteArray) (h : s.size = 0) : s = ByteArray.empty := by
  apply ByteArray.ext
  exact Array.eq_empty_of_size_eq_zero h
set_option maxRecDepth 100000 in
set_option maxHeartbeats 1000000 in
theorem refHeadBytes_any (s : ByteArray) (n : Int) (w : World) (hs : s.size ≤ 1073741824) (hn0 : -9223372036854775808 ≤ n) (hn1 : n ≤ 9223372036854775807) :
    Calls Try.prog 19 #[.string s, .int .i64 n] w fun e w' => e = .returned (.string (bt (s.data.toList.take (min n.toNat s.size)))) ∧ w' = w := by
  have e : bt (s.data.toList.take (min n.toNat s.size)) = s.extract 0 (min n.toNat s.size) := by rw [bt_extract]; simp
  rw [e]
  rcases (show n ≤ 0 ∨ (0 < n ∧ n ≤ s.size) ∨ (s.size : Int) < n by omega) with h | ⟨h, h'⟩ | h
  · rw [show min n.toNat s.size = 0 by omega]
    have h2 : ¬ (s.size : Int) < n := by omega
    have h3 : n ≤ (s.size : Int) := by omega
    go_enter Try.func19, Try.ntmps19
    go_wp2
    go_ret
    exact ⟨rfl, rfl⟩
  · obtain ⟨k, rfl⟩ : ∃ k : Nat, n = k := ⟨n.toNat, by omega⟩
    have hk : k ≤ s.size := by omega
    have hk0 : 0 < k := by omega
    rw [show min (k : Int).toNat s.size = k by omega]
    go_enter Try.func19, Try.ntmps19
    go_wp2
    all_goals go_ret
    all_goals first | exact ⟨rfl, rfl⟩ | (rw [ext_all]; exact ⟨rfl, rfl⟩) | (exfalso; omega)
  · rw [show min n.toNat s.size = s.size by omega]
    by_cases hz : s.size = 0
    · obtain rfl := size_zero s hz
      have hn : 0 < n := by simpa using h
      have hn' : (0 : Int) ≤ n := by omega
      go_enter Try.func19, Try.ntmps19
      go_wp2
      all_goals go_ret
      all_goals first | exact ⟨rfl, rfl⟩ | (rw [ext_all]; exact ⟨rfl, rfl⟩) | (exfalso; omega)
    · have hz' : 0 < s.size := by omega
      have hz2 : (0 : Int) < (s.size : Int) := by omega
      go_enter Try.func19, Try.ntmps19
      go_wp2
      all_goals go_ret
      all_goals first | exact ⟨rfl, rfl⟩ | (rw [ext_all]; exact ⟨rfl, rfl⟩) | (exfalso; omega)
set_option maxRecDepth 100000 in
set_option maxHeartbeats 1000000 in
theorem refTailBytes_any (s : ByteArray) (n : Int) (w : World) (hs : s.size ≤ 1073741824) (hn0 : -9223372036854775808 ≤ n) (hn1 : n ≤ 9223372036854775807) :
    Calls Try.prog 21 #[.string s, .int .i64 n] w fun e w' => e = .returned (.string (bt (s.data.toList.drop (s.size - min n.toNat s.size)))) ∧ w' = w := by
  rw [bt_drop]
  rcases (show n ≤ 0 ∨ (0 < n ∧ n ≤ s.size) ∨ (s.size : Int) < n by omega) with h | ⟨h, h'⟩ | h
  · rw [show s.size - min n.toNat s.size = s.size by omega]
    have h2 : ¬ (s.size : Int) < n := by omega
    have h3 : n ≤ (s.size : Int) := by omega
    go_enter Try.func21, Try.ntmps21
    go_wp2
    go_ret
    exact ⟨rfl, rfl⟩
  · obtain ⟨k, rfl⟩ : ∃ k : Nat, n = k := ⟨n.toNat, by omega⟩
    have hk : k ≤ s.size := by omega
    have hk0 : 0 < k := by omega
    obtain ⟨j, hj⟩ : ∃ j : Nat, j = s.size - min (k : Int).toNat s.size := ⟨_, rfl⟩
    have hj2 : (s.size : Int) - (k : Int) = (j : Int) := by omega
    rw [← hj]
    clear hj
    go_enter Try.func21, Try.ntmps21
    go_wp2
    all_goals go_ret
    all_goals first | exact ⟨rfl, rfl⟩ | (rw [ext_all]; exact ⟨rfl, rfl⟩) | (exfalso; omega)
  · rw [show s.size - min n.toNat s.size = 0 by omega]
    by_cases hz : s.size = 0
    · obtain rfl := size_zero s hz
      have hn : 0 < n := by simpa using h
      have hn' : (0 : Int) ≤ n := by omega
      go_enter Try.func21, Try.ntmps21
      go_wp2
      all_goals go_ret
      all_goals first | exact ⟨rfl, rfl⟩ | (rw [ext_all]; exact ⟨rfl, rfl⟩) | (exfalso; omega)
    · have hz' : 0 < s.size := by omega
      have hz2 : (0 : Int) < (s.size : Int) := by omega
      go_enter Try.func21, Try.ntmps21
      go_wp2
      all_goals go_ret
      all_goals first | exact ⟨rfl, rfl⟩ | (rw [ext_all]; exact ⟨rfl, rfl⟩) | (exfalso; omega)

end Go.Proofs.Ytbamldjifempfaa.Ln
