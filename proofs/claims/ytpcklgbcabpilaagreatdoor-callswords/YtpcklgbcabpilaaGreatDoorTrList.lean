import Derived.Test.YtpcklgbcabpilaaGreatDoorTrNode
import Derived.Deep.RegionHeld3
import Derived.Laws.Cover1
/- What IndexByte, isTarget and isName answer. -/
namespace Go.Proofs.YtpcklgbcabpilaaGreatDoor.Tr
open Go.RowKit Go.Proofs.YtpcklgbcabpilaaGreatDoor.Cu

theorem indexByte_neg (l : Bs) (c : UInt8) : (c ∈ l ∧ 0 ≤ Lib.indexByte l c) ∨ (¬ c ∈ l ∧ Lib.indexByte l c = -1) := by
  induction l with
  | nil => right; simp [Lib.indexByte]
  | cons b l ih =>
    by_cases h : b = c
    · left; subst h; simp [Lib.indexByte]
    · have h1 : (b == c) = false := by simpa using h
      have h2 : ¬ c = b := fun e => h e.symm
      rw [Lib.indexByte, h1]
      simp only [Bool.false_eq_true, if_false, List.mem_cons, h2, false_or]
      rcases ih with ⟨h3, h4⟩ | ⟨h3, h4⟩
      · left
        have h5 : (Lib.indexByte l c == -1) = false := by rw [beq_eq_false_iff_ne]; omega
        rw [h5]; simp [h3]; omega
      · right
        rw [h4]; simp [h3]
set_option maxHeartbeats 1000000 in
set_option maxRecDepth 100000 in
theorem indexByte_any (s : ByteArray) (c : UInt8) (w : World) :
    Calls Tryz.prog 182 #[.string s, .int .u8 c.toNat] w fun e w' => e = .returned (.int .i64 (Lib.indexByte (bs s) c)) ∧ w' = w := by
  have hrun : ∀ (w : World), Calls Tryz.prog 235 #[.string s, .int .u8 c.toNat] w fun e w' => e = .returned (.int .i64 (Lib.indexByte (bs s) c)) ∧ w' = w := by
    intro w
    go_enter Tryz.func235, Tryz.ntmps235
    go_wp2
    rw [run_callFunc_extern Tryz.func263 (by kernel_rfl) (by kernel_rfl) (by kernel_rfl) (e := Extern.BytealgIndexByte.indexByte) (by kernel_rfl), Lib.run_indexByteString]
    simp only [Result.andThen]
    rw [Oper.upon_value]
    go_wp2
    go_ret
    refine ⟨congrArg (fun b => Ending.returned (.int .i64 (Lib.indexByte (bs s) b))) ?_, rfl⟩
    simp
  have HR := hide hrun
  clear hrun
  go_enter Tryz.func182, Tryz.ntmps182
  go_wp2_with fail
  refine (unhide HR _).mono ?_
  rintro e w' ⟨rfl, rfl⟩
  go_wp2_with fail
  go_ret
  exact ⟨rfl, rfl⟩
/-- the place of a byte: below 0 if it is not there -/
theorem indexHas (s : ByteArray) (c : UInt8) : ∃ ix : Int, (∀ w : World, Calls Tryz.prog 182 #[.string s, .int .u8 c.toNat] w fun e w' => e = .returned (.int .i64 ix) ∧ w' = w) ∧ ((hasB s c = true ∧ 0 ≤ ix) ∨ (hasB s c = false ∧ ix = -1)) := by
  refine ⟨_, fun w => indexByte_any s c w, ?_⟩
  unfold hasB
  rcases indexByte_neg (bs s) c with ⟨h, h2⟩ | ⟨h, h2⟩
  · left; exact ⟨by simp [h], h2⟩
  · right; exact ⟨by simp [h], h2⟩
theorem toList_ne {s t : ByteArray} (h : s ≠ t) : (s.toList == t.toList) = false := by
  rw [beq_eq_false_iff_ne]
  intro e
  rw [ByteArray.toList_eq, ByteArray.toList_eq] at e
  exact h (ba_ext e)
theorem toList_same (s : ByteArray) : (s.toList == s.toList) = true := by simp

set_option maxRecDepth 100000 in
set_option maxHeartbeats 1000000 in
theorem isTarget_any (s : ByteArray) (w : World) : Calls Tryz.prog 262 #[.string s] w fun e w' => e = .returned (.bool (targetP s)) ∧ w' = w := by
  obtain ⟨i0, H0, h0⟩ := indexHas s 0
  have HI := hide H0
  clear H0
  by_cases a1 : 1 ≤ (s.size : Int)
  case neg =>
    rw [show targetP s = false by simp [targetP]; omega]
    clear h0
    go_enter Tryz.func262, Tryz.ntmps262
    go_wp2
    go_ret
    exact ⟨rfl, rfl⟩
  by_cases a2 : (s.size : Int) ≤ 1024
  case neg =>
    rw [show targetP s = false by simp [targetP]; omega]
    clear h0
    go_enter Tryz.func262, Tryz.ntmps262
    go_wp2
    go_ret
    exact ⟨rfl, rfl⟩
  have a3 : targetP s = !hasB s 0 := by
    unfold targetP
    rw [show decide (1 ≤ s.size) = true by simp; omega, show decide (s.size ≤ 1024) = true by simp; omega]; rfl
  rw [a3]
  clear a3
  rcases h0 with ⟨hh, hi⟩ | ⟨hh, rfl⟩
  · rw [hh]
    go_enter Tryz.func262, Tryz.ntmps262
    go_wp2_with (go_at_call 182; refine (unhide HI _).mono ?_; rintro e w' ⟨rfl, rfl⟩)
    go_ret
    exact ⟨by simp; omega, rfl⟩
  · rw [hh]
    go_enter Tryz.func262, Tryz.ntmps262
    go_wp2_with (go_at_call 182; refine (unhide HI _).mono ?_; rintro e w' ⟨rfl, rfl⟩)
    go_ret
    exact ⟨rfl, rfl⟩
set_option maxRecDepth 100000 in
set_option maxHeartbeats 1000000 in
theorem isName_any (s : ByteArray) (w : World) : Calls Tryz.prog 275 #[.string s] w fun e w' => e = .returned (.bool (nameP s)) ∧ w' = w := by
  obtain ⟨i0, H0, h0⟩ := indexHas s 0
  obtain ⟨i1, H1, h1⟩ := indexHas s 47
  have HI := hide H0
  have HJ := hide H1
  clear H0 H1
  by_cases a1 : 1 ≤ (s.size : Int)
  case neg =>
    rw [show nameP s = false by simp [nameP]; omega]
    clear h0 h1
    go_enter Tryz.func275, Tryz.ntmps275
    go_wp2
    go_ret
    exact ⟨rfl, rfl⟩
  by_cases a2 : (s.size : Int) ≤ 64
  case neg =>
    rw [show nameP s = false by simp [nameP]; omega]
    clear h0 h1
    go_enter Tryz.func275, Tryz.ntmps275
    go_wp2
    go_ret
    exact ⟨rfl, rfl⟩
  have a3 : nameP s = (decide (s ≠ ⟨#[46]⟩) && decide (s ≠ ⟨#[46, 46]⟩) && !hasB s 0 && !hasB s 47) := by
    unfold nameP
    rw [show decide (1 ≤ s.size) = true by simp; omega, show decide (s.size ≤ 64) = true by simp; omega]; rfl
  rw [a3]
  clear a3
  by_cases b1 : s = ⟨#[46]⟩
  · rw [show decide (s ≠ ⟨#[46]⟩) = false by simp [b1]]
    subst b1
    clear h0 h1 a1 a2
    simp only [Bool.false_and]
    go_enter Tryz.func275, Tryz.ntmps275
    go_wp2
    go_ret
    exact ⟨rfl, rfl⟩
  by_cases b2 : s = ⟨#[46, 46]⟩
  · rw [show decide (s ≠ ⟨#[46, 46]⟩) = false by simp [b2], Bool.and_false]
    subst b2
    clear h0 h1 a1 a2
    simp only [Bool.false_and]
    go_enter Tryz.func275, Tryz.ntmps275
    go_wp2
    go_ret
    exact ⟨rfl, rfl⟩
  rw [show decide (s ≠ ⟨#[46]⟩) = true by simp [b1], show decide (s ≠ ⟨#[46, 46]⟩) = true by simp [b2]]
  have c1 : ¬ s.toList = [46] := fun h => b1 (ba_ext (by rw [ByteArray.toList_eq] at h; exact h))
  have c2 : ¬ s.toList = [46, 46] := fun h => b2 (ba_ext (by rw [ByteArray.toList_eq] at h; exact h))
  clear b1 b2
  rcases h0 with ⟨hh, hi⟩ | ⟨hh, rfl⟩
  · rw [hh]
    clear hh h1
    simp only [Bool.not_true, Bool.and_false, Bool.false_and]
    go_enter Tryz.func275, Tryz.ntmps275
    go_wp2_with (go_at_call 182; refine (unhide HI _).mono ?_; rintro e w' ⟨rfl, rfl⟩)
    go_ret
    exact ⟨rfl, rfl⟩
  rw [hh]
  rcases h1 with ⟨h2, hi⟩ | ⟨h2, rfl⟩
  · rw [h2]
    clear h2 hh
    go_enter Tryz.func275, Tryz.ntmps275
    go_wp2_with (first | (go_at_call 182; refine (unhide HI _).mono ?_; rintro e w' ⟨rfl, rfl⟩) | (go_at_call 182; refine (unhide HJ _).mono ?_; rintro e w' ⟨rfl, rfl⟩))
    go_ret
    exact ⟨by simp [c1, c2]; omega, rfl⟩
  · rw [h2]
    clear h2 hh
    go_enter Tryz.func275, Tryz.ntmps275
    go_wp2_with (first | (go_at_call 182; refine (unhide HI _).mono ?_; rintro e w' ⟨rfl, rfl⟩) | (go_at_call 182; refine (unhide HJ _).mono ?_; rintro e w' ⟨rfl, rfl⟩))
    go_ret
    exact ⟨by simp [c1, c2], rfl⟩
end Go.Proofs.YtpcklgbcabpilaaGreatDoor.Tr

/- What isList and the functions that ask whether a node may be answer. -/
namespace Go.Proofs.YtpcklgbcabpilaaGreatDoor.Tr
open Go.RowKit Go.Proofs.YtpcklgbcabpilaaGreatDoor.Cu

theorem wrap_small (x : Int) (h : -9223372036854775808 ≤ x) (h' : x ≤ 9223372036854775807) : IntKind.i64.wrap x = x := by
  rw [IntWalk.i64_left]; unfold wrap64; omega
set_option maxRecDepth 100000 in
set_option maxHeartbeats 1000000 in
theorem isList_any (a : Option Addr) (n cap : Nat) (es : List En) (w : World) (h : Eg w a n cap es) : Calls Tryz.prog 261 #[.slice a n cap] w fun e w' => e = .returned (.bool (listP es)) ∧ Below w.heap.size w w' := by
  by_cases a1 : (n : Int) ≤ 512
  case neg =>
    rw [show listP es = false by simp [listP, h.len]; omega]
    go_enter Tryz.func261, Tryz.ntmps261
    go_wp2
    go_ret
    exact ⟨rfl, Below.refl _ _⟩
  have hP : listP es = allTo n (okE es) := by
    unfold listP
    rw [h.len, show decide (n ≤ 512) = true by simp; omega]; rfl
  rw [hP]
  clear hP
  rcases h.cells with rfl | ⟨b, off, rfl, hb, hc⟩
  · go_enter Tryz.func261, Tryz.ntmps261
    go_wp2
    refine wp_loop_rounds 1 ?_
    rw [rounds_succ]
    go_wp2
    go_ret
    exact ⟨rfl, Below.refl _ _⟩
  have HC := hide hc
  clear hc h
  go_enter Tryz.func261, Tryz.ntmps261
  go_wp2
  go_loopw [10] (fun i wr => ∃ k : Nat, k ≤ n ∧ i = .int .i64 k ∧ Hid (allTo k (okE es) = true) ∧ Hid (Below w.heap.size w wr)) (fun i _ => n - (intOf i).toNat)
  case atStart => exact ⟨0, Nat.zero_le _, rfl, rfl, Below.refl _ _⟩
  case round =>
    obtain ⟨k, hk, rfl, hall, hnx⟩ := hrel
    have hsz := (unhide hnx).size
    by_cases hlt : k < n
    · have hlt' : (k : Int) < (n : Int) := by omega
      have hc := (unhide HC k hlt).of fun o => (unhide hnx).cell (p := ⟨b, o, none⟩) hb
      have hc0 := hc.c0
      have hc1 := hc.c1
      clear hc
      have hB2 : Hid (∀ o, Below w.heap.size w (wr.alloc o)) := fun o => (unhide hnx).alloc hsz o
      have hokk : okE es k = (nameP (en es k).name && (decide (k = 0) || ltB (en es (k - 1)).name (en es k).name)) := rfl
      have hs := hide (allTo_succ k (okE es))
      have hf := hide (fun h => allTo_false (p := okE es) hlt h)
      have hpre : k = 0 ∨ ∃ j, k = j + 1 ∧ wr.cell? ⟨b, off + j * 2, none⟩ = some (.string (en es j).name) := by
        cases k with
        | zero => exact .inl rfl
        | succ j => exact .inr ⟨j, rfl, ((unhide HC j (by omega)).of fun o => (unhide hnx).cell (p := ⟨b, o, none⟩) hb).c0⟩
      obtain ⟨nm, hnm⟩ : ∃ x, x = (en es k).name := ⟨_, rfl⟩
      obtain ⟨no, hno⟩ : ∃ x, x = (en es k).node := ⟨_, rfl⟩
      rw [← hnm] at hc0 hokk
      rw [← hno] at hc1
      clear hno hnm
      have HN : Hid (∀ W, Calls Tryz.prog 275 #[.string nm] W fun e w' => e = .returned (.bool (nameP nm)) ∧ w' = W) := fun W => isName_any nm W
      cases hN : nameP nm with
      | false =>
        rw [hN] at hokk HN
        have hF := hide (unhide hf (by rw [hokk]; rfl))
        clear hf hs hokk hpre hN
        go_wp2
        go_quiet ((go_at_call 275; exact Calls.quiet_of_same (unhide HN _)))
        go_wp2
        go_ret
        exact ⟨by rw [unhide hF]; rfl, below_drewN (unhide hB2 _) _⟩
      | true =>
        rw [hN] at hokk HN
        rcases hpre with hk0 | ⟨j, hkj, hcj⟩
        · rw [show okE es k = true by rw [hokk, hk0]; rfl] at hs
          have hd : decide (0 < k) = false := by simp; omega
          clear hf hokk hN hk0
          go_wp2
          go_quiet ((go_at_call 275; exact Calls.quiet_of_same (unhide HN _)))
          go_wp2
          go_roundw
          case rel => exact ⟨k + 1, by omega, by go_num, hide (by rw [unhide hs, unhide hall]; rfl), below_drewN (unhide hB2 _) _⟩
          case measure => simp [intOf]; omega
        · obtain ⟨pm, hpm⟩ : ∃ x, x = (en es j).name := ⟨_, rfl⟩
          rw [show k - 1 = j by omega, ← hpm, show decide (k = 0) = false by simp; omega] at hokk
          rw [← hpm] at hcj
          have hw : IntKind.i64.wrap ((k : Int) - 1) = (j : Int) := by rw [show (k : Int) - 1 = (j : Int) by omega]; exact wrap_small _ (by omega) (by omega)
          have hj : j < n := by omega
          have hbw : b < wr.heap.size := by omega
          have hd : decide (0 < k) = true := by simp; omega
          clear hpm hN hkj
          unfold ltB at hokk
          cases hL : Op.bytesLess pm.toList nm.toList with
          | false =>
            rw [hL] at hokk
            have hF := hide (unhide hf (by rw [hokk]; rfl))
            clear hf hs hokk
            go_wp2
            go_quiet ((go_at_call 275; exact Calls.quiet_of_same (unhide HN _)))
            go_wp2
            go_ret
            exact ⟨by rw [unhide hF]; rfl, below_drewN (unhide hB2 _) _⟩
          | true =>
            rw [show okE es k = true by rw [hokk, hL]; rfl] at hs
            clear hf hokk
            go_wp2
            go_quiet ((go_at_call 275; exact Calls.quiet_of_same (unhide HN _)))
            go_wp2
            go_roundw
            case rel => exact ⟨k + 1, by omega, by go_num, hide (by rw [unhide hs, unhide hall]; rfl), below_drewN (unhide hB2 _) _⟩
            case measure => simp [intOf]; omega
    · have e : k = n := by omega
      subst e
      go_wp2
      go_ret
      exact ⟨by rw [unhide hall]; rfl, unhide hnx⟩
end Go.Proofs.YtpcklgbcabpilaaGreatDoor.Tr
