/- What isList and the functions that ask whether a node may be answer. -/
import Derived.Test.YtbajjbgeohbdjaaTrName
import Derived.Deep.RegionHeld3
import Derived.Laws.Cover1
namespace Go.Proofs.Ytbajjbgeohbdjaa.Tr
open Go.RowKit Go.Proofs.Ytbajjbgeohbdjaa.Cu

theorem wrap_small (x : Int) (h : -9223372036854775808 ≤ x) (h' : x ≤ 9223372036854775807) : IntKind.i64.wrap x = x := by
  rw [IntWalk.i64_left]; unfold wrap64; omega
set_option maxRecDepth 100000 in
set_option maxHeartbeats 1000000 in
theorem isList_any (a : Option Addr) (n cap : Nat) (es : List En) (w : World) (h : Eg w a n cap es) : Calls Try.prog 70 #[.slice a n cap] w fun e w' => e = .returned (.bool (listP es)) ∧ Below w.heap.size w w' := by
  by_cases a1 : (n : Int) ≤ 512
  case neg =>
    rw [show listP es = false by simp [listP, h.len]; omega]
    go_enter Try.func70, Try.ntmps70
    go_wp2
    go_ret
    exact ⟨rfl, Below.refl _ _⟩
  have hP : listP es = allTo n (okE es) := by
    unfold listP
    rw [h.len, show decide (n ≤ 512) = true by simp; omega]; rfl
  rw [hP]
  clear hP
  rcases h.cells with rfl | ⟨b, off, rfl, hb, hc⟩
  · go_enter Try.func70, Try.ntmps70
    go_wp2
    refine wp_loop_rounds 1 ?_
    rw [rounds_succ]
    go_wp2
    go_ret
    exact ⟨rfl, Below.refl _ _⟩
  have HC := hide hc
  clear hc h
  go_enter Try.func70, Try.ntmps70
  go_wp2
  go_loopw [10] (fun i wr => ∃ k : Nat, k ≤ n ∧ i = .int .i64 k ∧ Hid (allTo k (okE es) = true) ∧ Hid (Below w.heap.size w wr)) (fun i _ => n - (intOf i).toNat)
  case atStart => exact ⟨0, Nat.zero_le _, rfl, rfl, Below.refl _ _⟩
  case round =>
    obtain ⟨k, hk, rfl, hall, hnx⟩ := hrel
    have hsz := (unhide hnx).size
    by_cases hlt : k < n
    · have hlt' : (k : Int) < (n : Int) := by omega
      have hc := (unhide HC k hlt).of fun o => (unhide hnx).cell (p := ⟨b, o, none⟩) hb
      have hc0 := hc.c0
      have hc1 := hc.c1
      clear hc
      have hB2 : Hid (∀ o, Below w.heap.size w (wr.alloc o)) := fun o => (unhide hnx).alloc hsz o
      have hokk : okE es k = (nameP (en es k).name && (decide (k = 0) || ltB (en es (k - 1)).name (en es k).name)) := rfl
      have hs := hide (allTo_succ k (okE es))
      have hf := hide (fun h => allTo_false (p := okE es) hlt h)
      have hpre : k = 0 ∨ ∃ j, k = j + 1 ∧ wr.cell? ⟨b, off + j * 2, none⟩ = some (.string (en es j).name) := by
        cases k with
        | zero => exact .inl rfl
        | succ j => exact .inr ⟨j, rfl, ((unhide HC j (by omega)).of fun o => (unhide hnx).cell (p := ⟨b, o, none⟩) hb).c0⟩
      obtain ⟨nm, hnm⟩ : ∃ x, x = (en es k).name := ⟨_, rfl⟩
      obtain ⟨no, hno⟩ : ∃ x, x = (en es k).node := ⟨_, rfl⟩
      rw [← hnm] at hc0 hokk
      rw [← hno] at hc1
      clear hno hnm
      have HN : Hid (∀ W, Calls Try.prog 78 #[.string nm] W fun e w' => e = .returned (.bool (nameP nm)) ∧ w' = W) := fun W => isName_any nm W
      cases hN : nameP nm with
      | false =>
        rw [hN] at hokk HN
        have hF := hide (unhide hf (by rw [hokk]; rfl))
        clear hf hs hokk hpre hN
        go_wp2
        go_quiet ((go_at_call 78; exact Calls.quiet_of_same (unhide HN _)))
        go_wp2
        go_ret
        exact ⟨by rw [unhide hF]; rfl, below_drewN (unhide hB2 _) _⟩
      | true =>
        rw [hN] at hokk HN
        rcases hpre with hk0 | ⟨j, hkj, hcj⟩
        · rw [show okE es k = true by rw [hokk, hk0]; rfl] at hs
          have hd : decide (0 < k) = false := by simp; omega
          clear hf hokk hN hk0
          go_wp2
          go_quiet ((go_at_call 78; exact Calls.quiet_of_same (unhide HN _)))
          go_wp2
          go_roundw
          case rel => exact ⟨k + 1, by omega, by go_num, hide (by rw [unhide hs, unhide hall]; rfl), below_drewN (unhide hB2 _) _⟩
          case measure => simp [intOf]; omega
        · obtain ⟨pm, hpm⟩ : ∃ x, x = (en es j).name := ⟨_, rfl⟩
          rw [show k - 1 = j by omega, ← hpm, show decide (k = 0) = false by simp; omega] at hokk
          rw [← hpm] at hcj
          have hw : IntKind.i64.wrap ((k : Int) - 1) = (j : Int) := by rw [show (k : Int) - 1 = (j : Int) by omega]; exact wrap_small _ (by omega) (by omega)
          have hj : j < n := by omega
          have hbw : b < wr.heap.size := by omega
          have hd : decide (0 < k) = true := by simp; omega
          clear hpm hN hkj
          unfold ltB at hokk
          cases hL : Op.bytesLess pm.toList nm.toList with
          | false =>
            rw [hL] at hokk
            have hF := hide (unhide hf (by rw [hokk]; rfl))
            clear hf hs hokk
            go_wp2
            go_quiet ((go_at_call 78; exact Calls.quiet_of_same (unhide HN _)))
            go_wp2
            go_ret
            exact ⟨by rw [unhide hF]; rfl, below_drewN (unhide hB2 _) _⟩
          | true =>
            rw [show okE es k = true by rw [hokk, hL]; rfl] at hs
            clear hf hokk
            go_wp2
            go_quiet ((go_at_call 78; exact Calls.quiet_of_same (unhide HN _)))
            go_wp2
            go_roundw
            case rel => exact ⟨k + 1, by omega, by go_num, hide (by rw [unhide hs, unhide hall]; rfl), below_drewN (unhide hB2 _) _⟩
            case measure => simp [intOf]; omega
    · have e : k = n := by omega
      subst e
      go_wp2
      go_ret
      exact ⟨by rw [unhide hall]; rfl, unhide hnx⟩
end Go.Proofs.Ytbajjbgeohbdjaa.Tr
