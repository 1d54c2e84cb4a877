/- The law LinesHalves's walk. -/
import Derived.Test.YtbamldjifempfabLnAlive
import Derived.Test.YtbamldjifempfabBeyond
namespace Go.Proofs.Ytbamldjifempfab.Ln
open Go.RowKit Go.Shelf Pa

theorem tx_take {w : World} {a : Option Addr} {n cap : Nat} {ss : List ByteArray} (h : Tx w a n cap ss) (k : Nat) (hk : k ≤ n) : Tx w a k cap (ss.take k) := by
  refine ⟨by rw [List.length_take, h.len]; omega, by have := h.le; omega, fun e => ⟨by have := (h.nil e).1; omega, (h.nil e).2⟩, ?_⟩
  rcases h.cells with h0 | ⟨b, off, e, hlt, hc⟩
  · exact .inl (by omega)
  · refine .inr ⟨b, off, e, hlt, fun i hi => ?_⟩
    rw [hc i (by omega)]
    simp [List.getD, hi]
theorem tx_drop {w : World} {a : Option Addr} {n cap : Nat} {ss : List ByteArray} (h : Tx w a n cap ss) (j : Nat) (hj : j ≤ n) : Tx w (if cap = j then a else a.map (·.add j)) (n - j) (cap - j) (ss.drop j) := by
  have hle := h.le
  refine ⟨by rw [List.length_drop, h.len], by omega, fun e => ?_, ?_⟩
  · split at e
    · have := h.nil e; omega
    · cases a with
      | none => have := h.nil rfl; omega
      | some ad => simp at e
  · by_cases hz : n - j = 0
    · exact .inl hz
    · rcases h.cells with h0 | ⟨b, off, rfl, hlt, hc⟩
      · omega
      · refine .inr ⟨b, off + j, ?_, hlt, fun i hi => ?_⟩
        · rw [if_neg (by omega)]
          simp [add_none]
        · rw [Nat.add_assoc, hc (j + i) (by omega)]
          simp [List.getD, List.getElem?_drop]

theorem linesB_head (s : ByteArray) (n : Int) : linesB (bt (s.data.toList.take (reachN s.data.toList n))) = (linesB s).take n.toNat := by
  have h := (parts_take isEnd s.data.toList n.toNat).1
  unfold linesB
  rw [show (bt (s.data.toList.take (reachN s.data.toList n))).data.toList = s.data.toList.take (reachN s.data.toList n) by simp [bt]]
  unfold reachN
  rw [h, List.map_take]
theorem linesB_tail (s : ByteArray) (n : Int) : linesB (bt (s.data.toList.drop (reachN s.data.toList n))) = (linesB s).drop n.toNat := by
  have h := (parts_take isEnd s.data.toList n.toNat).2
  unfold linesB
  rw [show (bt (s.data.toList.drop (reachN s.data.toList n))).data.toList = s.data.toList.drop (reachN s.data.toList n) by simp [bt]]
  unfold reachN
  rw [h, List.map_drop]
theorem bt_two (s : ByteArray) (r : Nat) : bt (s.data.toList.take r) ++ bt (s.data.toList.drop r) = s := by
  apply ByteArray.ext
  apply Array.ext'
  simp [bt, ByteArray.data_append]
theorem reachN_same (l : List UInt8) (n n' : Int) (h : min n.toNat (parts isEnd l).length = min n'.toNat (parts isEnd l).length) : reachN l n = reachN l n' := by
  unfold reachN
  rw [List.take_eq_take_min, List.take_eq_take_min (i := n'.toNat), h]
theorem bt_size_take (s : ByteArray) (r : Nat) (h : r ≤ s.size) : (bt (s.data.toList.take r)).size = r := by
  have h1 : (bt (s.data.toList.take r)).size = (s.data.toList.take r).length := rfl
  have h2 : s.data.toList.length = s.size := rfl
  rw [h1, List.length_take]
  omega
theorem bt_size_le (s : ByteArray) (r : Nat) : (bt (s.data.toList.take r)).size ≤ s.size := by
  have h1 : (bt (s.data.toList.take r)).size = (s.data.toList.take r).length := rfl
  have h2 : s.data.toList.length = s.size := rfl
  rw [h1, List.length_take]
  omega
theorem bt_size_drop (s : ByteArray) (r : Nat) : (bt (s.data.toList.drop r)).size ≤ s.size := by
  have h1 : (bt (s.data.toList.drop r)).size = (s.data.toList.drop r).length := rfl
  have h2 : s.data.toList.length = s.size := rfl
  rw [h1, List.length_drop]
  omega

theorem no_lines (s : ByteArray) (h : (linesB s).length = 0) : s.size = 0 := by
  rw [linesB_len] at h
  have h1 := parts_none _ (List.eq_nil_of_length_eq_zero h)
  have h2 : s.data.toList.length = s.size := rfl
  rw [h1] at h2
  simpa using h2.symm
/-- all that the law's calls answer, told by n, the number of lines and the size -/
structure Calls5 (s : ByteArray) (n : Int) (k b : Nat) (X1 X2 X3 Y1 Y2 : ByteArray) (ss : List ByteArray) : Prop where
  head : ∀ W, Calls Try.prog 10 #[.string s, .int .i64 n] W fun e w' => e = .returned (.string X1) ∧ Below W.heap.size W w'
  tail : ∀ W, Calls Try.prog 11 #[.string s, .int .i64 n] W fun e w' => e = .returned (.string X2) ∧ Below W.heap.size W w'
  tailR : ∀ W (t : Int), t = (ss.length : Int) - k → Calls Try.prog 11 #[.string s, .int .i64 t] W fun e w' => e = .returned (.string X3) ∧ Below W.heap.size W w'
  hb : ∀ W, Calls Try.prog 12 #[.string s, .int .i64 n] W fun e w' => e = .returned (.string Y1) ∧ w' = W
  tb : ∀ W (t : Int), t = (s.size : Int) - b → Calls Try.prog 13 #[.string s, .int .i64 t] W fun e w' => e = .returned (.string Y2) ∧ w' = W
  s1 : ∀ W, Calls Try.prog 9 #[.string X1] W fun e w' => ∃ a cap lb, e = .returned (.tuple #[.slice a k cap, .bool lb]) ∧ Tx w' a k cap (ss.take k) ∧ Below W.heap.size W w'
  s2 : ∀ W, Calls Try.prog 9 #[.string X2] W fun e w' => ∃ a cap lb, e = .returned (.tuple #[.slice a k cap, .bool lb]) ∧ Tx w' a k cap (ss.drop (ss.length - k)) ∧ Below W.heap.size W w'
  cat1 : X1 ++ X3 = s
  cat2 : Y1 ++ Y2 = s
  sizeY : Y1.size = b

theorem calls5 (s : ByteArray) (n : Int) (hs : s.size ≤ 1048576) (hn0 : -9223372036854775808 ≤ n) (hn1 : n ≤ 9223372036854775807) :
    ∃ X1 X2 X3 Y1 Y2, Calls5 s n (min n.toNat (linesB s).length) (min n.toNat s.size) X1 X2 X3 Y1 Y2 (linesB s) := by
  have hll : (linesB s).length ≤ s.size := by rw [linesB_len]; exact parts_len _ _
  have e0 : ((parts isEnd s.data.toList).length : Int) = (linesB s).length := by rw [linesB_len]
  refine ⟨_, _, _, _, _, ⟨fun W => head_any s n W (by omega) hn0 hn1, fun W => tail_any s n W (by omega) hn0 hn1, fun W t ht => ?_, fun W => headBytes_any s n W (by omega) hn0 hn1, fun W t ht => ?_, fun W => ?_, fun W => ?_, bt_two s (reachN s.data.toList n), bt_two s (min n.toNat s.size), ?_⟩⟩
  · refine (tail_any s t W (by omega) (by omega) (by omega)).mono fun e w' h => ⟨?_, h.2⟩
    rw [h.1]
    refine congrArg (fun r => Ending.returned (.string (bt (s.data.toList.drop r)))) ?_
    refine reachN_same _ _ _ ?_
    rw [e0]
    have := linesB_len s
    omega
  · refine (tailBytes_any s t W (by omega) (by omega) (by omega)).mono fun e w' h => ⟨?_, h.2⟩
    rw [h.1]
    refine congrArg (fun r => Ending.returned (.string (bt (s.data.toList.drop r)))) ?_
    omega
  · refine (split_is (linesB_head s n) rfl W (by have := bt_size_le s (reachN s.data.toList n); omega)).mono ?_
    rintro e w' ⟨a, cap, rfl, hT, hB⟩
    have e1 : ((linesB s).take n.toNat).length = min n.toNat (linesB s).length := by rw [List.length_take]
    have e2 : (linesB s).take n.toNat = (linesB s).take (min n.toNat (linesB s).length) := by rw [List.take_eq_take_min]
    rw [e1] at hT ⊢
    rw [e2] at hT
    exact ⟨a, cap, _, rfl, hT, hB⟩
  · refine (split_is (linesB_tail s (((parts isEnd s.data.toList).length : Int) - max n 0)) rfl W (by have := bt_size_drop s (reachN s.data.toList (((parts isEnd s.data.toList).length : Int) - max n 0)); omega)).mono ?_
    rintro e w' ⟨a, cap, rfl, hT, hB⟩
    have e3 : (((parts isEnd s.data.toList).length : Int) - max n 0).toNat = (linesB s).length - min n.toNat (linesB s).length := by rw [e0]; omega
    have e1 : ((linesB s).drop (((parts isEnd s.data.toList).length : Int) - max n 0).toNat).length = min n.toNat (linesB s).length := by rw [List.length_drop, e3]; omega
    rw [e1] at hT ⊢
    rw [e3] at hT
    exact ⟨a, cap, _, rfl, hT, hB⟩
  · exact bt_size_take s _ (by omega)

set_option maxRecDepth 100000 in
set_option maxHeartbeats 1000000 in
theorem linesHalves_any (s : ByteArray) (n : Int) (w : World) (hs : s.size ≤ 4611686018427387904) (hn0 : -9223372036854775808 ≤ n) (hn1 : n ≤ 9223372036854775807) :
    Calls Try.prog 3 #[.string s, .int .i64 n] w fun e w' => e = .returned (.bool true) ∧ Below w.heap.size w w' := by
  go_enter Try.func3, Try.ntmps3
  go_wp2_with fail
  refine (alive_any w).mono ?_
  rintro e w0 ⟨rfl, hB0⟩
  go_wp2_with fail
  refine (Beyond.beyond_one (s.size : Int) w0.heap.size _ (by simp) (by omega) (by omega)).mono ?_
  rintro e w' ⟨rfl, rfl⟩
  have hB1 : Below w.heap.size w (w0.alloc (.cells #[.int .i64 s.size] 3)) := hB0.alloc hB0.size _
  generalize (w0.alloc (.cells #[.int .i64 s.size] 3)) = w1 at *
  clear hB0
  by_cases hb : 1048576 < (s.size : Int)
  · go_wp2_with fail
    refine (alive_any w1).mono ?_
    rintro e w2 ⟨rfl, hB2⟩
    go_wp2_with fail
    go_ret
    exact ⟨rfl, hB1.trans (hB2.mono hB1.size)⟩
  · obtain ⟨X1, X2, X3, Y1, Y2, h5⟩ := calls5 s n (by omega) hn0 hn1
    have C1 := hide (split_tx s w1 (by omega))
    have hm1 : (linesB s).length ≤ s.size := by rw [linesB_len]; exact parts_len _ _
    have hm2 := no_lines s
    generalize lastB (parts isEnd s.data.toList) = lb at *
    generalize linesB s = ss at *
    obtain ⟨m, hm⟩ : ∃ m, m = ss.length := ⟨_, rfl⟩
    rw [← hm] at C1 h5 hm1 hm2
    obtain ⟨k, hk⟩ : ∃ k, k = min n.toNat m := ⟨_, rfl⟩
    obtain ⟨b, hbb⟩ : ∃ b, b = min n.toNat s.size := ⟨_, rfl⟩
    rw [← hk, ← hbb] at h5
    have H5 := hide h5
    have HM := hide hm
    have hcat1 := h5.cat1
    have hcat2 := h5.cat2
    have hsY := h5.sizeY
    have hz1 : X1.size + X3.size = s.size := by rw [← hcat1, ByteArray.size_append]
    have hz2 : Y1.size + Y2.size = s.size := by rw [← hcat2, ByteArray.size_append]
    clear h5 hm
    go_wp2_with fail
    refine (unhide C1).mono ?_
    rintro e w2 ⟨a, cap, rfl, hT, hb2⟩
    have hB2 : Below w.heap.size w w2 := hB1.trans (hb2.mono hB1.size)
    have HT := hide hT
    have hcap := hT.le
    clear C1 hB1 hb2 hT
    rcases (show (n ≤ 0 ∧ k = 0 ∧ b = 0) ∨ (∃ j : Nat, n = j ∧ 0 < j ∧ j ≤ m ∧ k = j ∧ b = j) ∨ (∃ j : Nat, n = j ∧ m < j ∧ j ≤ s.size ∧ k = m ∧ b = j ∧ 0 < m) ∨ ((s.size : Int) < n ∧ k = m ∧ b = s.size ∧ 0 < m) ∨ (0 < n ∧ k = 0 ∧ b = 0 ∧ m = 0 ∧ s.size = 0) by
      rcases (show n ≤ 0 ∨ (0 < n ∧ n ≤ m) ∨ ((m : Int) < n ∧ n ≤ s.size ∧ 0 < m) ∨ ((s.size : Int) < n ∧ 0 < m) ∨ (0 < n ∧ m = 0) by omega) with h | h | h | h | h
      · exact .inl (by omega)
      · exact .inr (.inl ⟨n.toNat, by omega⟩)
      · exact .inr (.inr (.inl ⟨n.toNat, by omega⟩))
      · exact .inr (.inr (.inr (.inl (by omega))))
      · exact .inr (.inr (.inr (.inr (by have := hm2 h.2; omega))))) with ⟨hc, rfl, rfl⟩ | ⟨j, rfl, hj0, hj1, rfl, rfl⟩ | ⟨j, rfl, hj0, hj1, rfl, rfl, hm0⟩ | ⟨hc, rfl, rfl, hm0⟩ | ⟨hc, rfl, rfl, rfl, hz⟩
    · clear hk hbb hm2
      have hc2 : n ≤ (m : Int) := by omega
      have hc3 : n ≤ (s.size : Int) := by omega
      go_wp2_with fail
      refine ((unhide H5).head _).mono ?_
      rintro e w3 ⟨rfl, hb3⟩
      have hB3 : Below w.heap.size w w3 := hB2.trans (hb3.mono hB2.size)
      have HT3 := hide ((unhide HT).below hb3)
      clear hB2 hb3 HT
      go_wp2_with fail
      refine ((unhide H5).s1 _).mono ?_
      rintro e w4 ⟨a1, c1, l1, rfl, hT1, hb4⟩
      have hB4 : Below w.heap.size w w4 := hB3.trans (hb4.mono hB3.size)
      have HT4 := hide ((unhide HT3).below hb4)
      have HS4 := hide hT1
      clear hB3 hb4 HT3 hT1
      go_wp2_with fail
      refine ((unhide H5).tail _).mono ?_
      rintro e w5 ⟨rfl, hb5⟩
      have hB5 : Below w.heap.size w w5 := hB4.trans (hb5.mono hB4.size)
      have HT5 := hide ((unhide HT4).below hb5)
      have HS5 := hide ((unhide HS4).below hb5)
      clear hB4 hb5 HT4 HS4
      go_wp2_with fail
      refine ((unhide H5).s2 _).mono ?_
      rintro e w6 ⟨a2, c2, l2, rfl, hT2, hb6⟩
      have hB6 : Below w.heap.size w w6 := hB5.trans (hb6.mono hB5.size)
      have HT6 := hide ((unhide HT5).below hb6)
      have HS6 := hide ((unhide HS5).below hb6)
      have HR6 := hide hT2
      clear hB5 hb6 HT5 HS5 hT2
      go_wp2_with fail
      refine ((unhide H5).head _).mono ?_
      rintro e w7 ⟨rfl, hb7⟩
      have hB7 : Below w.heap.size w w7 := hB6.trans (hb7.mono hB6.size)
      have HT7 := hide ((unhide HT6).below hb7)
      have HS7 := hide ((unhide HS6).below hb7)
      have HR7 := hide ((unhide HR6).below hb7)
      clear hB6 hb7 HT6 HS6 HR6
      go_wp2_with fail
      refine ((unhide H5).tailR _ _ (by have := unhide HM; omega)).mono ?_
      rintro e w8 ⟨rfl, hb8⟩
      have hB8 : Below w.heap.size w w8 := hB7.trans (hb8.mono hB7.size)
      have HT8 := hide ((unhide HT7).below hb8)
      have HS8 := hide ((unhide HS7).below hb8)
      have HR8 := hide ((unhide HR7).below hb8)
      clear hB7 hb8 HT7 HS7 HR7
      go_wp2_with fail
      refine ((unhide H5).hb _).mono ?_
      rintro e w9 ⟨rfl, rfl⟩
      go_wp2_with fail
      refine ((unhide H5).tb _ _ (by omega)).mono ?_
      rintro e w9 ⟨rfl, rfl⟩
      go_wp2_with fail
      refine ((unhide H5).hb _).mono ?_
      rintro e w9 ⟨rfl, rfl⟩
      go_wp2_with fail
      refine (sameTexts_any _ _ _ _ _ _ _ _ _ (by omega) (unhide HS8) (tx_take (unhide HT8) _ (by omega))).mono ?_
      rintro e w10 ⟨rfl, hb10⟩
      have hB10 : Below w.heap.size w w10 := hB8.trans (hb10.mono hB8.size)
      have HT10 := hide ((unhide HT8).below hb10)
      have HR10 := hide ((unhide HR8).below hb10)
      clear hB8 hb10 HT8 HS8 HR8
      go_wp2_with fail
      all_goals
        refine (sameTexts_none _ _ _ _ _).mono ?_
        rintro e w11 ⟨rfl, rfl⟩
        go_wp2_with fail
        go_ret
        exact ⟨rfl, hB10⟩
    · clear hk hbb hm2
      go_wp2_with fail
      refine ((unhide H5).head _).mono ?_
      rintro e w3 ⟨rfl, hb3⟩
      have hB3 : Below w.heap.size w w3 := hB2.trans (hb3.mono hB2.size)
      have HT3 := hide ((unhide HT).below hb3)
      clear hB2 hb3 HT
      go_wp2_with fail
      refine ((unhide H5).s1 _).mono ?_
      rintro e w4 ⟨a1, c1, l1, rfl, hT1, hb4⟩
      have hB4 : Below w.heap.size w w4 := hB3.trans (hb4.mono hB3.size)
      have HT4 := hide ((unhide HT3).below hb4)
      have HS4 := hide hT1
      clear hB3 hb4 HT3 hT1
      go_wp2_with fail
      refine ((unhide H5).tail _).mono ?_
      rintro e w5 ⟨rfl, hb5⟩
      have hB5 : Below w.heap.size w w5 := hB4.trans (hb5.mono hB4.size)
      have HT5 := hide ((unhide HT4).below hb5)
      have HS5 := hide ((unhide HS4).below hb5)
      clear hB4 hb5 HT4 HS4
      go_wp2_with fail
      refine ((unhide H5).s2 _).mono ?_
      rintro e w6 ⟨a2, c2, l2, rfl, hT2, hb6⟩
      have hB6 : Below w.heap.size w w6 := hB5.trans (hb6.mono hB5.size)
      have HT6 := hide ((unhide HT5).below hb6)
      have HS6 := hide ((unhide HS5).below hb6)
      have HR6 := hide hT2
      clear hB5 hb6 HT5 HS5 hT2
      go_wp2_with fail
      refine ((unhide H5).head _).mono ?_
      rintro e w7 ⟨rfl, hb7⟩
      have hB7 : Below w.heap.size w w7 := hB6.trans (hb7.mono hB6.size)
      have HT7 := hide ((unhide HT6).below hb7)
      have HS7 := hide ((unhide HS6).below hb7)
      have HR7 := hide ((unhide HR6).below hb7)
      clear hB6 hb7 HT6 HS6 HR6
      go_wp2_with fail
      refine ((unhide H5).tailR _ _ (by have := unhide HM; omega)).mono ?_
      rintro e w8 ⟨rfl, hb8⟩
      have hB8 : Below w.heap.size w w8 := hB7.trans (hb8.mono hB7.size)
      have HT8 := hide ((unhide HT7).below hb8)
      have HS8 := hide ((unhide HS7).below hb8)
      have HR8 := hide ((unhide HR7).below hb8)
      clear hB7 hb8 HT7 HS7 HR7
      go_wp2_with fail
      refine ((unhide H5).hb _).mono ?_
      rintro e w9 ⟨rfl, rfl⟩
      go_wp2_with fail
      refine ((unhide H5).tb _ _ (by omega)).mono ?_
      rintro e w9 ⟨rfl, rfl⟩
      go_wp2_with fail
      refine ((unhide H5).hb _).mono ?_
      rintro e w9 ⟨rfl, rfl⟩
      go_wp2_with fail
      refine (sameTexts_any _ _ _ _ _ _ _ _ _ (by omega) (unhide HS8) (tx_take (unhide HT8) _ (by omega))).mono ?_
      rintro e w10 ⟨rfl, hb10⟩
      have hB10 : Below w.heap.size w w10 := hB8.trans (hb10.mono hB8.size)
      have HT10 := hide ((unhide HT8).below hb10)
      have HR10 := hide ((unhide HR8).below hb10)
      clear hB8 hb10 HT8 HS8 HR8
      have hd := tx_drop (unhide HT10) (m - b) (by omega)
      rw [if_neg (by omega)] at hd
      have el : m - (m - b) = b := by omega
      have HR11 := unhide HR10
      rw [← unhide HM] at HR11
      rw [el] at hd
      have HD := hide hd
      have HQ := hide HR11
      clear hd HR11 HR10 HT10
      go_wp2_with fail
      refine (sameTexts_any _ _ _ _ _ _ _ _ _ (by omega) (unhide HQ) (unhide HD)).mono ?_
      rintro e w11 ⟨rfl, hb11⟩
      go_wp2_with fail
      go_ret
      exact ⟨rfl, hB10.trans (hb11.mono hB10.size)⟩
    · clear hk hbb hm2
      go_wp2_with fail
      refine ((unhide H5).head _).mono ?_
      rintro e w3 ⟨rfl, hb3⟩
      have hB3 : Below w.heap.size w w3 := hB2.trans (hb3.mono hB2.size)
      have HT3 := hide ((unhide HT).below hb3)
      clear hB2 hb3 HT
      go_wp2_with fail
      refine ((unhide H5).s1 _).mono ?_
      rintro e w4 ⟨a1, c1, l1, rfl, hT1, hb4⟩
      have hB4 : Below w.heap.size w w4 := hB3.trans (hb4.mono hB3.size)
      have HT4 := hide ((unhide HT3).below hb4)
      have HS4 := hide hT1
      clear hB3 hb4 HT3 hT1
      go_wp2_with fail
      refine ((unhide H5).tail _).mono ?_
      rintro e w5 ⟨rfl, hb5⟩
      have hB5 : Below w.heap.size w w5 := hB4.trans (hb5.mono hB4.size)
      have HT5 := hide ((unhide HT4).below hb5)
      have HS5 := hide ((unhide HS4).below hb5)
      clear hB4 hb5 HT4 HS4
      go_wp2_with fail
      refine ((unhide H5).s2 _).mono ?_
      rintro e w6 ⟨a2, c2, l2, rfl, hT2, hb6⟩
      have hB6 : Below w.heap.size w w6 := hB5.trans (hb6.mono hB5.size)
      have HT6 := hide ((unhide HT5).below hb6)
      have HS6 := hide ((unhide HS5).below hb6)
      have HR6 := hide hT2
      clear hB5 hb6 HT5 HS5 hT2
      go_wp2_with fail
      refine ((unhide H5).head _).mono ?_
      rintro e w7 ⟨rfl, hb7⟩
      have hB7 : Below w.heap.size w w7 := hB6.trans (hb7.mono hB6.size)
      have HT7 := hide ((unhide HT6).below hb7)
      have HS7 := hide ((unhide HS6).below hb7)
      have HR7 := hide ((unhide HR6).below hb7)
      clear hB6 hb7 HT6 HS6 HR6
      go_wp2_with fail
      refine ((unhide H5).tailR _ _ (by have := unhide HM; omega)).mono ?_
      rintro e w8 ⟨rfl, hb8⟩
      have hB8 : Below w.heap.size w w8 := hB7.trans (hb8.mono hB7.size)
      have HT8 := hide ((unhide HT7).below hb8)
      have HS8 := hide ((unhide HS7).below hb8)
      have HR8 := hide ((unhide HR7).below hb8)
      clear hB7 hb8 HT7 HS7 HR7
      go_wp2_with fail
      refine ((unhide H5).hb _).mono ?_
      rintro e w9 ⟨rfl, rfl⟩
      go_wp2_with fail
      refine ((unhide H5).tb _ _ (by omega)).mono ?_
      rintro e w9 ⟨rfl, rfl⟩
      go_wp2_with fail
      refine ((unhide H5).hb _).mono ?_
      rintro e w9 ⟨rfl, rfl⟩
      go_wp2_with fail
      refine (sameTexts_any _ _ _ _ _ _ _ _ _ (by omega) (unhide HS8) (tx_take (unhide HT8) _ (by omega))).mono ?_
      rintro e w10 ⟨rfl, hb10⟩
      have hB10 : Below w.heap.size w w10 := hB8.trans (hb10.mono hB8.size)
      have HT10 := hide ((unhide HT8).below hb10)
      have HR10 := hide ((unhide HR8).below hb10)
      clear hB8 hb10 HT8 HS8 HR8
      have HR11 := unhide HR10
      rw [← unhide HM, Nat.sub_self, List.drop_zero] at HR11
      have HQ := hide HR11
      clear HR11 HR10
      go_wp2_with fail
      refine (sameTexts_any _ _ _ _ _ _ _ _ _ (by omega) (unhide HQ) (unhide HT10)).mono ?_
      rintro e w11 ⟨rfl, hb11⟩
      go_wp2_with fail
      go_ret
      exact ⟨rfl, hB10.trans (hb11.mono hB10.size)⟩
    · clear hk hbb hm2
      have hz0 : 0 < s.size := by omega
      go_wp2_with fail
      refine ((unhide H5).head _).mono ?_
      rintro e w3 ⟨rfl, hb3⟩
      have hB3 : Below w.heap.size w w3 := hB2.trans (hb3.mono hB2.size)
      have HT3 := hide ((unhide HT).below hb3)
      clear hB2 hb3 HT
      go_wp2_with fail
      refine ((unhide H5).s1 _).mono ?_
      rintro e w4 ⟨a1, c1, l1, rfl, hT1, hb4⟩
      have hB4 : Below w.heap.size w w4 := hB3.trans (hb4.mono hB3.size)
      have HT4 := hide ((unhide HT3).below hb4)
      have HS4 := hide hT1
      clear hB3 hb4 HT3 hT1
      go_wp2_with fail
      refine ((unhide H5).tail _).mono ?_
      rintro e w5 ⟨rfl, hb5⟩
      have hB5 : Below w.heap.size w w5 := hB4.trans (hb5.mono hB4.size)
      have HT5 := hide ((unhide HT4).below hb5)
      have HS5 := hide ((unhide HS4).below hb5)
      clear hB4 hb5 HT4 HS4
      go_wp2_with fail
      refine ((unhide H5).s2 _).mono ?_
      rintro e w6 ⟨a2, c2, l2, rfl, hT2, hb6⟩
      have hB6 : Below w.heap.size w w6 := hB5.trans (hb6.mono hB5.size)
      have HT6 := hide ((unhide HT5).below hb6)
      have HS6 := hide ((unhide HS5).below hb6)
      have HR6 := hide hT2
      clear hB5 hb6 HT5 HS5 hT2
      go_wp2_with fail
      refine ((unhide H5).head _).mono ?_
      rintro e w7 ⟨rfl, hb7⟩
      have hB7 : Below w.heap.size w w7 := hB6.trans (hb7.mono hB6.size)
      have HT7 := hide ((unhide HT6).below hb7)
      have HS7 := hide ((unhide HS6).below hb7)
      have HR7 := hide ((unhide HR6).below hb7)
      clear hB6 hb7 HT6 HS6 HR6
      go_wp2_with fail
      refine ((unhide H5).tailR _ _ (by have := unhide HM; omega)).mono ?_
      rintro e w8 ⟨rfl, hb8⟩
      have hB8 : Below w.heap.size w w8 := hB7.trans (hb8.mono hB7.size)
      have HT8 := hide ((unhide HT7).below hb8)
      have HS8 := hide ((unhide HS7).below hb8)
      have HR8 := hide ((unhide HR7).below hb8)
      clear hB7 hb8 HT7 HS7 HR7
      go_wp2_with fail
      refine ((unhide H5).hb _).mono ?_
      rintro e w9 ⟨rfl, rfl⟩
      go_wp2_with fail
      refine ((unhide H5).tb _ _ (by omega)).mono ?_
      rintro e w9 ⟨rfl, rfl⟩
      go_wp2_with fail
      refine ((unhide H5).hb _).mono ?_
      rintro e w9 ⟨rfl, rfl⟩
      go_wp2_with fail
      refine (sameTexts_any _ _ _ _ _ _ _ _ _ (by omega) (unhide HS8) (tx_take (unhide HT8) _ (by omega))).mono ?_
      rintro e w10 ⟨rfl, hb10⟩
      have hB10 : Below w.heap.size w w10 := hB8.trans (hb10.mono hB8.size)
      have HT10 := hide ((unhide HT8).below hb10)
      have HR10 := hide ((unhide HR8).below hb10)
      clear hB8 hb10 HT8 HS8 HR8
      have HR11 := unhide HR10
      rw [← unhide HM, Nat.sub_self, List.drop_zero] at HR11
      have HQ := hide HR11
      clear HR11 HR10
      go_wp2_with fail
      refine (sameTexts_any _ _ _ _ _ _ _ _ _ (by omega) (unhide HQ) (unhide HT10)).mono ?_
      rintro e w11 ⟨rfl, hb11⟩
      go_wp2_with fail
      go_ret
      exact ⟨rfl, hB10.trans (hb11.mono hB10.size)⟩
    · clear hk hbb hm2
      go_wp2_with fail
      refine ((unhide H5).head _).mono ?_
      rintro e w3 ⟨rfl, hb3⟩
      have hB3 : Below w.heap.size w w3 := hB2.trans (hb3.mono hB2.size)
      have HT3 := hide ((unhide HT).below hb3)
      clear hB2 hb3 HT
      go_wp2_with fail
      refine ((unhide H5).s1 _).mono ?_
      rintro e w4 ⟨a1, c1, l1, rfl, hT1, hb4⟩
      have hB4 : Below w.heap.size w w4 := hB3.trans (hb4.mono hB3.size)
      have HT4 := hide ((unhide HT3).below hb4)
      have HS4 := hide hT1
      clear hB3 hb4 HT3 hT1
      go_wp2_with fail
      refine ((unhide H5).tail _).mono ?_
      rintro e w5 ⟨rfl, hb5⟩
      have hB5 : Below w.heap.size w w5 := hB4.trans (hb5.mono hB4.size)
      have HT5 := hide ((unhide HT4).below hb5)
      have HS5 := hide ((unhide HS4).below hb5)
      clear hB4 hb5 HT4 HS4
      go_wp2_with fail
      refine ((unhide H5).s2 _).mono ?_
      rintro e w6 ⟨a2, c2, l2, rfl, hT2, hb6⟩
      have hB6 : Below w.heap.size w w6 := hB5.trans (hb6.mono hB5.size)
      have HT6 := hide ((unhide HT5).below hb6)
      have HS6 := hide ((unhide HS5).below hb6)
      have HR6 := hide hT2
      clear hB5 hb6 HT5 HS5 hT2
      go_wp2_with fail
      refine ((unhide H5).head _).mono ?_
      rintro e w7 ⟨rfl, hb7⟩
      have hB7 : Below w.heap.size w w7 := hB6.trans (hb7.mono hB6.size)
      have HT7 := hide ((unhide HT6).below hb7)
      have HS7 := hide ((unhide HS6).below hb7)
      have HR7 := hide ((unhide HR6).below hb7)
      clear hB6 hb7 HT6 HS6 HR6
      go_wp2_with fail
      refine ((unhide H5).tailR _ _ (by have := unhide HM; omega)).mono ?_
      rintro e w8 ⟨rfl, hb8⟩
      have hB8 : Below w.heap.size w w8 := hB7.trans (hb8.mono hB7.size)
      have HT8 := hide ((unhide HT7).below hb8)
      have HS8 := hide ((unhide HS7).below hb8)
      have HR8 := hide ((unhide HR7).below hb8)
      clear hB7 hb8 HT7 HS7 HR7
      go_wp2_with fail
      refine ((unhide H5).hb _).mono ?_
      rintro e w9 ⟨rfl, rfl⟩
      go_wp2_with fail
      refine ((unhide H5).tb _ _ (by omega)).mono ?_
      rintro e w9 ⟨rfl, rfl⟩
      go_wp2_with fail
      refine ((unhide H5).hb _).mono ?_
      rintro e w9 ⟨rfl, rfl⟩
      go_wp2_with fail
      refine (sameTexts_any _ _ _ _ _ _ _ _ _ (by omega) (unhide HS8) (tx_take (unhide HT8) _ (by omega))).mono ?_
      rintro e w10 ⟨rfl, hb10⟩
      have hB10 : Below w.heap.size w w10 := hB8.trans (hb10.mono hB8.size)
      have HT10 := hide ((unhide HT8).below hb10)
      have HR10 := hide ((unhide HR8).below hb10)
      clear hB8 hb10 HT8 HS8 HR8
      go_wp2_with fail
      all_goals
        refine (sameTexts_none _ _ _ _ _).mono ?_
        rintro e w11 ⟨rfl, rfl⟩
        go_wp2_with fail
        go_ret
        exact ⟨rfl, hB10⟩

end Go.Proofs.Ytbamldjifempfab.Ln
