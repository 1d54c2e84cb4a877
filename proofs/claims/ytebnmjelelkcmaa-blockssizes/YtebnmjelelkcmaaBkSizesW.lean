/- BlocksSizes, walked: the document's Size. -/
import Derived.Test.YtebnmjelelkcmaaBkSize
import Derived.Test.YtebnmjelelkcmaaBeyond
set_option linter.unusedVariables false
namespace Go.Proofs.Ytebnmjelelkcmaa.Bk
open Go.RowKit Cu Plain

theorem fin_short {d : Bs} {T : Int} (h : ¬ (1 ≤ d.length ∧ d.length ≤ 10)) : fin d T = false := by
  unfold fin
  by_cases h1 : 1 ≤ d.length
  · rw [decide_eq_false (p := d.length ≤ 10) (by omega)]; simp
  · rw [decide_eq_false (p := 1 ≤ d.length) h1]; simp
theorem fin_odd {d : Bs} {T : Int} (h : d.all dig = false) : fin d T = false := by unfold fin; rw [h]; simp
theorem fin_num {d : Bs} {T : Int} (h1 : 1 ≤ d.length) (h2 : d.length ≤ 10) (h : d.all dig = true) : fin d T = decide (nval d * T ≤ 2147483647) := by
  unfold fin; rw [h, decide_eq_true h1, decide_eq_true h2]; rfl
set_option maxRecDepth 100000 in
set_option maxHeartbeats 1000000 in
theorem rsize_k (s d : ByteArray) (w : World) (hs : s.size ≤ 4611686018427387904) (hp : 0 < s.size) (hb : (s[s.size - 1].toNat : Int) = 107) (hd : Hid (d = s.extract 0 (s.size - 1))) :
    Calls Try.prog 15 #[.string s] w fun e w' => e = .returned (finA (bs d) 1024) ∧ w' = w := by
  have h0 : (0 : Int) < (s.size : Int) := by omega
  have i0 : 0 ≤ (s.size : Int) - 1 := by omega
  have i1 : (s.size : Int) - 1 < (s.size : Int) := by omega
  have i2 : (s.size : Int) - 1 ≤ (s.size : Int) := by omega
  have i3 : ((s.size : Int) - 1).toNat = s.size - 1 := by omega
  have kb : ((s[s.size - 1].toNat : Int) == 107) = true := by simp [hb]
  have bb : ((s[s.size - 1].toNat : Int) == 98) = false := by simp [hb]
  clear hb
  have HDZ : Hid (d.size = s.size - 1) := by rw [unhide hd, ← bs_len, bs_to, List.length_take, bs_len]; show min _ _ = _; omega
  by_cases hl : 1 ≤ d.size ∧ d.size ≤ 10
  · obtain ⟨hl1, hl2⟩ := hl
    have hl1' : ¬ ((s.size - 1 : Nat) : Int) < 1 := by have hdz := unhide HDZ; omega
    have hl2' : ¬ (10 : Int) < ((s.size - 1 : Nat) : Int) := by have hdz := unhide HDZ; omega
    go_enter Try.func15, Try.ntmps15
    go_wp2_with fail
    rw [← unhide hd]
    go_loop [5, 6] (fun v i => ∃ k : Nat, k ≤ d.size ∧ i = .int .i64 k ∧ (d.data.toList.take k).all dig = true ∧ v = .int .i64 (nval (d.data.toList.take k))) (fun _ i => d.size - (intOf i).toNat)
    case atStart => exact ⟨0, Nat.zero_le _, rfl, rfl, rfl⟩
    case round =>
      obtain ⟨k, hk, rfl, ha, rfl⟩ := hrel
      by_cases hlt : k < d.size
      · have hlt' : (k : Int) < (d.size : Int) := by omega
        have hv := nval_lt _ ha 10 (by simp; omega)
        simp only [Int.reducePow] at hv
        by_cases hd : 48 ≤ (d[k].toNat : Int) ∧ (d[k].toNat : Int) ≤ 57
        · have st := hide (NumWalks.step d k hlt ha hd.1 hd.2)
          clear ha
          obtain ⟨hd1, hd2⟩ := hd
          have hd1' : ¬ (d[k].toNat : Int) < 48 := by omega
          have hd2' : ¬ 57 < (d[k].toNat : Int) := by omega
          go_wp2_with fail
          go_round
          case rel => exact ⟨k + 1, by omega, by go_num, (unhide st).1, by rw [(unhide st).2]; go_num⟩
          case measure => simp [intOf]; omega
        · have st := NumWalks.stop d k hlt hd
          have HNo := hide (finA_no (T := 1024) (fin_odd (d := bs d) st))
          clear ha st
          by_cases h1 : (d[k].toNat : Int) < 48
          · clear hd
            go_wp2_with fail
            go_ret2
            exact ⟨by rw [unhide HNo]; rfl, rfl⟩
          · have h2 : 57 < (d[k].toNat : Int) := by omega
            clear hd
            go_wp2_with fail
            go_ret2
            exact ⟨by rw [unhide HNo]; rfl, rfl⟩
      · have hlt' : ¬ (k : Int) < (d.size : Int) := by omega
        have hds := NumWalks.done d k (by omega)
        rw [hds] at ha ⊢
        have hv := nval_lt _ ha 10 (by simp; omega)
        simp only [Int.reducePow] at hv
        have HF : Hid (fin (bs d) 1024 = decide (nval (bs d) * 1024 ≤ 2147483647)) := fin_num (by rw [bs_len]; exact hl1) (by rw [bs_len]; exact hl2) ha
        clear ha hds
        by_cases hg : nval (bs d) * 1024 ≤ 2147483647
        · have HNo := hide (finA_yes ((unhide HF).trans (by simpa using hg)))
          clear HF
          have hg' : ¬ 2147483647 < nval (bs d) * 1024 := by omega
          unfold bs at hg hg' HNo
          have HV : Hid (nval (bs d) = nval d.data.toList) := rfl
          generalize nval d.data.toList = V at *
          go_wp2_with fail
          go_ret2
          exact ⟨by rw [unhide HNo]; first | rfl | (simp; done) | go_num, rfl⟩
        · have HNo := hide (finA_no ((unhide HF).trans (by simpa using hg)))
          clear HF
          have hg' : 2147483647 < nval (bs d) * 1024 := by omega
          unfold bs at hg hg'
          generalize nval d.data.toList = V at *
          go_wp2_with fail
          go_ret2
          exact ⟨by rw [unhide HNo]; rfl, rfl⟩
  · rw [finA_no (fin_short (by rw [bs_len]; exact hl))]
    by_cases hl1 : ((s.size - 1 : Nat) : Int) < 1
    · clear hl
      go_enter Try.func15, Try.ntmps15
      go_wp2_with fail
      all_goals (go_ret2; exact ⟨rfl, rfl⟩)
    · have hl2 : 10 < ((s.size - 1 : Nat) : Int) := by have hdz := unhide HDZ; omega
      clear hl
      go_enter Try.func15, Try.ntmps15
      go_wp2_with fail
      go_ret2
      exact ⟨rfl, rfl⟩
set_option maxRecDepth 100000 in
set_option maxHeartbeats 1000000 in
theorem rsize_b (s d : ByteArray) (w : World) (hs : s.size ≤ 4611686018427387904) (hp : 0 < s.size) (hb : (s[s.size - 1].toNat : Int) = 98) (hd : Hid (d = s.extract 0 (s.size - 1))) :
    Calls Try.prog 15 #[.string s] w fun e w' => e = .returned (finA (bs d) 512) ∧ w' = w := by
  have h0 : (0 : Int) < (s.size : Int) := by omega
  have i0 : 0 ≤ (s.size : Int) - 1 := by omega
  have i1 : (s.size : Int) - 1 < (s.size : Int) := by omega
  have i2 : (s.size : Int) - 1 ≤ (s.size : Int) := by omega
  have i3 : ((s.size : Int) - 1).toNat = s.size - 1 := by omega
  have kb : ((s[s.size - 1].toNat : Int) == 107) = false := by simp [hb]
  have bb : ((s[s.size - 1].toNat : Int) == 98) = true := by simp [hb]
  clear hb
  have HDZ : Hid (d.size = s.size - 1) := by rw [unhide hd, ← bs_len, bs_to, List.length_take, bs_len]; show min _ _ = _; omega
  by_cases hl : 1 ≤ d.size ∧ d.size ≤ 10
  · obtain ⟨hl1, hl2⟩ := hl
    have hl1' : ¬ ((s.size - 1 : Nat) : Int) < 1 := by have hdz := unhide HDZ; omega
    have hl2' : ¬ (10 : Int) < ((s.size - 1 : Nat) : Int) := by have hdz := unhide HDZ; omega
    go_enter Try.func15, Try.ntmps15
    go_wp2_with fail
    rw [← unhide hd]
    go_loop [5, 6] (fun v i => ∃ k : Nat, k ≤ d.size ∧ i = .int .i64 k ∧ (d.data.toList.take k).all dig = true ∧ v = .int .i64 (nval (d.data.toList.take k))) (fun _ i => d.size - (intOf i).toNat)
    case atStart => exact ⟨0, Nat.zero_le _, rfl, rfl, rfl⟩
    case round =>
      obtain ⟨k, hk, rfl, ha, rfl⟩ := hrel
      by_cases hlt : k < d.size
      · have hlt' : (k : Int) < (d.size : Int) := by omega
        have hv := nval_lt _ ha 10 (by simp; omega)
        simp only [Int.reducePow] at hv
        by_cases hd : 48 ≤ (d[k].toNat : Int) ∧ (d[k].toNat : Int) ≤ 57
        · have st := hide (NumWalks.step d k hlt ha hd.1 hd.2)
          clear ha
          obtain ⟨hd1, hd2⟩ := hd
          have hd1' : ¬ (d[k].toNat : Int) < 48 := by omega
          have hd2' : ¬ 57 < (d[k].toNat : Int) := by omega
          go_wp2_with fail
          go_round
          case rel => exact ⟨k + 1, by omega, by go_num, (unhide st).1, by rw [(unhide st).2]; go_num⟩
          case measure => simp [intOf]; omega
        · have st := NumWalks.stop d k hlt hd
          have HNo := hide (finA_no (T := 512) (fin_odd (d := bs d) st))
          clear ha st
          by_cases h1 : (d[k].toNat : Int) < 48
          · clear hd
            go_wp2_with fail
            go_ret2
            exact ⟨by rw [unhide HNo]; rfl, rfl⟩
          · have h2 : 57 < (d[k].toNat : Int) := by omega
            clear hd
            go_wp2_with fail
            go_ret2
            exact ⟨by rw [unhide HNo]; rfl, rfl⟩
      · have hlt' : ¬ (k : Int) < (d.size : Int) := by omega
        have hds := NumWalks.done d k (by omega)
        rw [hds] at ha ⊢
        have hv := nval_lt _ ha 10 (by simp; omega)
        simp only [Int.reducePow] at hv
        have HF : Hid (fin (bs d) 512 = decide (nval (bs d) * 512 ≤ 2147483647)) := fin_num (by rw [bs_len]; exact hl1) (by rw [bs_len]; exact hl2) ha
        clear ha hds
        by_cases hg : nval (bs d) * 512 ≤ 2147483647
        · have HNo := hide (finA_yes ((unhide HF).trans (by simpa using hg)))
          clear HF
          have hg' : ¬ 2147483647 < nval (bs d) * 512 := by omega
          unfold bs at hg hg' HNo
          have HV : Hid (nval (bs d) = nval d.data.toList) := rfl
          generalize nval d.data.toList = V at *
          go_wp2_with fail
          go_ret2
          exact ⟨by rw [unhide HNo]; first | rfl | (simp; done) | go_num, rfl⟩
        · have HNo := hide (finA_no ((unhide HF).trans (by simpa using hg)))
          clear HF
          have hg' : 2147483647 < nval (bs d) * 512 := by omega
          unfold bs at hg hg'
          generalize nval d.data.toList = V at *
          go_wp2_with fail
          go_ret2
          exact ⟨by rw [unhide HNo]; rfl, rfl⟩
  · rw [finA_no (fin_short (by rw [bs_len]; exact hl))]
    by_cases hl1 : ((s.size - 1 : Nat) : Int) < 1
    · clear hl
      go_enter Try.func15, Try.ntmps15
      go_wp2_with fail
      all_goals (go_ret2; exact ⟨rfl, rfl⟩)
    · have hl2 : 10 < ((s.size - 1 : Nat) : Int) := by have hdz := unhide HDZ; omega
      clear hl
      go_enter Try.func15, Try.ntmps15
      go_wp2_with fail
      go_ret2
      exact ⟨rfl, rfl⟩
set_option maxRecDepth 100000 in
set_option maxHeartbeats 1000000 in
theorem rsize_n (s d : ByteArray) (w : World) (hs : s.size ≤ 4611686018427387904) (hp : 0 < s.size) (hb : ¬ (s[s.size - 1].toNat : Int) = 107) (hb2 : ¬ (s[s.size - 1].toNat : Int) = 98) (hd : d = s) :
    Calls Try.prog 15 #[.string s] w fun e w' => e = .returned (finA (bs d) 1) ∧ w' = w := by
  have h0 : (0 : Int) < (s.size : Int) := by omega
  have i0 : 0 ≤ (s.size : Int) - 1 := by omega
  have i1 : (s.size : Int) - 1 < (s.size : Int) := by omega
  have i2 : (s.size : Int) - 1 ≤ (s.size : Int) := by omega
  have i3 : ((s.size : Int) - 1).toNat = s.size - 1 := by omega
  have kb : ((s[s.size - 1].toNat : Int) == 107) = false := by simp; omega
  have bb : ((s[s.size - 1].toNat : Int) == 98) = false := by simp; omega
  clear hb hb2
  subst hd
  by_cases hl : 1 ≤ d.size ∧ d.size ≤ 10
  · obtain ⟨hl1, hl2⟩ := hl
    have hl1' : ¬ (d.size : Int) < 1 := by omega
    have hl2' : ¬ (10 : Int) < (d.size : Int) := by omega
    go_enter Try.func15, Try.ntmps15
    go_wp2_with fail
    go_loop [5, 6] (fun v i => ∃ k : Nat, k ≤ d.size ∧ i = .int .i64 k ∧ (d.data.toList.take k).all dig = true ∧ v = .int .i64 (nval (d.data.toList.take k))) (fun _ i => d.size - (intOf i).toNat)
    case atStart => exact ⟨0, Nat.zero_le _, rfl, rfl, rfl⟩
    case round =>
      obtain ⟨k, hk, rfl, ha, rfl⟩ := hrel
      by_cases hlt : k < d.size
      · have hlt' : (k : Int) < (d.size : Int) := by omega
        have hv := nval_lt _ ha 10 (by simp; omega)
        simp only [Int.reducePow] at hv
        by_cases hd : 48 ≤ (d[k].toNat : Int) ∧ (d[k].toNat : Int) ≤ 57
        · have st := hide (NumWalks.step d k hlt ha hd.1 hd.2)
          clear ha
          obtain ⟨hd1, hd2⟩ := hd
          have hd1' : ¬ (d[k].toNat : Int) < 48 := by omega
          have hd2' : ¬ 57 < (d[k].toNat : Int) := by omega
          go_wp2_with fail
          go_round
          case rel => exact ⟨k + 1, by omega, by go_num, (unhide st).1, by rw [(unhide st).2]; go_num⟩
          case measure => simp [intOf]; omega
        · have st := NumWalks.stop d k hlt hd
          have HNo := hide (finA_no (T := 1) (fin_odd (d := bs d) st))
          clear ha st
          by_cases h1 : (d[k].toNat : Int) < 48
          · clear hd
            go_wp2_with fail
            go_ret2
            exact ⟨by rw [unhide HNo]; rfl, rfl⟩
          · have h2 : 57 < (d[k].toNat : Int) := by omega
            clear hd
            go_wp2_with fail
            go_ret2
            exact ⟨by rw [unhide HNo]; rfl, rfl⟩
      · have hlt' : ¬ (k : Int) < (d.size : Int) := by omega
        have hds := NumWalks.done d k (by omega)
        rw [hds] at ha ⊢
        have hv := nval_lt _ ha 10 (by simp; omega)
        simp only [Int.reducePow] at hv
        have HF : Hid (fin (bs d) 1 = decide (nval (bs d) * 1 ≤ 2147483647)) := fin_num (by rw [bs_len]; exact hl1) (by rw [bs_len]; exact hl2) ha
        clear ha hds
        by_cases hg : nval (bs d) * 1 ≤ 2147483647
        · have HNo := hide (finA_yes ((unhide HF).trans (by simpa using hg)))
          clear HF
          have hg' : ¬ 2147483647 < nval (bs d) * 1 := by omega
          unfold bs at hg hg' HNo
          have HV : Hid (nval (bs d) = nval d.data.toList) := rfl
          generalize nval d.data.toList = V at *
          go_wp2_with fail
          go_ret2
          exact ⟨by rw [unhide HNo]; first | rfl | (simp; done) | go_num, rfl⟩
        · have HNo := hide (finA_no ((unhide HF).trans (by simpa using hg)))
          clear HF
          have hg' : 2147483647 < nval (bs d) * 1 := by omega
          unfold bs at hg hg'
          generalize nval d.data.toList = V at *
          go_wp2_with fail
          go_ret2
          exact ⟨by rw [unhide HNo]; rfl, rfl⟩
  · rw [finA_no (fin_short (by rw [bs_len]; exact hl))]
    by_cases hl1 : (d.size : Int) < 1
    · clear hl
      go_enter Try.func15, Try.ntmps15
      go_wp2_with fail
      all_goals (go_ret2; exact ⟨rfl, rfl⟩)
    · have hl2 : 10 < (d.size : Int) := by omega
      clear hl
      go_enter Try.func15, Try.ntmps15
      go_wp2_with fail
      go_ret2
      exact ⟨rfl, rfl⟩
set_option maxRecDepth 100000 in
set_option maxHeartbeats 1000000 in
theorem rsize_nil (s : ByteArray) (w : World) (h : s.size = 0) : Calls Try.prog 15 #[.string s] w fun e w' => e = .returned (finA (bs s) 1) ∧ w' = w := by
  have hN := finA_no (T := 1) (fin_short (d := bs s) (by rw [bs_len]; omega))
  rw [hN]
  have h0 : ¬ (0 : Int) < (s.size : Int) := by omega
  have h1 : (s.size : Int) < 1 := by omega
  clear hN h
  go_enter Try.func15, Try.ntmps15
  go_wp2_with fail
  go_ret2
  exact ⟨rfl, rfl⟩
theorem last_byte (s : ByteArray) (h : 0 < s.size) : (bs s).getLast? = some s[s.size - 1] := by
  rw [List.getLast?_eq_getElem?, bs_len, List.getElem?_eq_getElem (by rw [bs_len]; omega)]
  rfl
theorem rsize_any (s : ByteArray) (w : World) (hs : s.size ≤ 4611686018427387904) : Calls Try.prog 15 #[.string s] w fun e w' => e = .returned (szA (bs s)) ∧ w' = w := by
  have e0 : szA (bs s) = finA (szD (bs s)) (szT (bs s)) := rfl
  rw [e0]
  by_cases hp : 0 < s.size
  · have hl := last_byte s hp
    by_cases hk : (s[s.size - 1].toNat : Int) = 107
    · have hk' : (bs s).getLast? = some 107 := by rw [hl]; congr 1; exact UInt8.toNat_inj.1 (by simpa using (by omega : s[s.size - 1].toNat = 107))
      rw [show szD (bs s) = bs (s.extract 0 (s.size - 1)) by rw [bs_cut]; unfold szD; rw [if_pos (.inl hk')], show szT (bs s) = 1024 by unfold szT; rw [if_pos hk']]
      exact rsize_k s _ w hs hp hk rfl
    · have hk' : ¬ (bs s).getLast? = some 107 := by
        rw [hl]; intro e; injection e with e; rw [e] at hk; exact hk rfl
      by_cases hb : (s[s.size - 1].toNat : Int) = 98
      · have hb' : (bs s).getLast? = some 98 := by rw [hl]; congr 1; exact UInt8.toNat_inj.1 (by simpa using (by omega : s[s.size - 1].toNat = 98))
        rw [show szD (bs s) = bs (s.extract 0 (s.size - 1)) by rw [bs_cut]; unfold szD; rw [if_pos (.inr hb')], show szT (bs s) = 512 by unfold szT; rw [if_neg hk', if_pos hb']]
        exact rsize_b s _ w hs hp hb rfl
      · have hb' : ¬ (bs s).getLast? = some 98 := by
          rw [hl]; intro e; injection e with e; rw [e] at hb; exact hb rfl
        rw [show szD (bs s) = bs s by unfold szD; rw [if_neg (fun h => h.elim hk' hb')], show szT (bs s) = 1 by unfold szT; rw [if_neg hk', if_neg hb']]
        exact rsize_n s s w hs hp hk hb rfl
  · have h0 : bs s = [] := List.eq_nil_of_length_eq_zero (by rw [bs_len]; omega)
    rw [show szD (bs s) = bs s by rw [h0]; rfl, show szT (bs s) = 1 by rw [h0]; rfl]
    exact rsize_nil s w (by omega)
set_option maxRecDepth 100000 in
set_option maxHeartbeats 1000000 in
theorem sizes_walk (s : ByteArray) (w : World) (hs : s.size ≤ 4611686018427387904) :
    Calls Try.prog 4 #[.string s] w fun e w' => e = .returned (.bool true) ∧ Below w.heap.size w w' := by
  have hc : (w.alloc (.cells #[.int .i64 (s.size : Int)] 3)).cell? ⟨w.heap.size, 0, none⟩ = some (.int .i64 s.size) := by simp
  have HB := hide (Beyond.beyond_one (s.size : Int) w.heap.size _ hc (by omega) (by omega))
  have hb0 : Below w.heap.size w (w.alloc (.cells #[.int .i64 (s.size : Int)] 3)) := (Below.refl _ _).alloc (Nat.le_refl _) _
  by_cases h1 : 1048576 < (s.size : Int)
  · rw [decide_eq_true h1] at HB
    clear hc
    go_enter Try.func4, Try.ntmps4
    go_wp2_with fail
    refine (unhide HB).mono ?_
    rintro e w1 ⟨rfl, rfl⟩
    go_wp2_with fail
    go_ret
    exact ⟨rfl, hb0⟩
  · rw [decide_eq_false h1] at HB
    have C1 := hide (fun W => size_any s W (by omega))
    have C2 := hide (fun W => rsize_any s W hs)
    unfold szA at C1 C2
    generalize szV (bs s) = V at *
    generalize szB (bs s) = B at *
    clear hc
    cases B
    all_goals
      go_enter Try.func4, Try.ntmps4
      go_wp2_with fail
      refine (unhide HB).mono ?_
      rintro e w1 ⟨rfl, rfl⟩
      go_wp2_with fail
      refine (unhide C1 _).mono ?_
      rintro e w2 ⟨rfl, rfl⟩
      go_wp2_with fail
      refine (unhide C2 _).mono ?_
      rintro e w3 ⟨rfl, rfl⟩
      go_wp2_with fail
      go_ret
      first | exact ⟨rfl, hb0⟩ | exact ⟨by simp, hb0⟩
end Go.Proofs.Ytebnmjelelkcmaa.Bk
