/- GlobsPlain answers true at every pattern and name. -/
import Derived.Test.YtelijbnamiefcabGlMet
namespace Go.Proofs.Ytelijbnamiefcab.Gl
open Go.RowKit

theorem match_plain (p n : Bs) (h : ∀ c ∈ p, sign c = false) (hl : p.length ≤ 2000) : matchP p n = decide (n = p) := by
  have := match_quote p n hl
  rwa [quote_same p h] at this
set_option maxHeartbeats 1000000 in
set_option maxRecDepth 100000 in
theorem globsPlain_any (p n : ByteArray) (w : World) (hp : p.size ≤ 4611686018427387904) (hn : n.size ≤ 4611686018427387904) :
    Calls Try.prog 4 #[.string p, .string n] w fun e w' => e = .returned (.bool true) ∧ Below w.heap.size w w' := by
  have HA := hide alive_any
  by_cases h1 : p.size ≤ 1000
  · by_cases h2 : n.size ≤ 1000
    · have h1' : ¬ (1000 : Int) < (p.size : Int) := by omega
      have h2' : ¬ (1000 : Int) < (n.size : Int) := by omega
      go_enter Try.func4, Try.ntmps4
      go_wp2_with fail
      refine (unhide HA _).mono ?_
      rintro e w1 ⟨rfl, b1⟩
      have B1 := hide b1
      clear b1
      go_wp2_with fail
      go_loopw [5] (fun v5 wr => ∃ k : Nat, k ≤ p.size ∧ v5 = .int .i64 k ∧ wr = w1 ∧ Hid (∀ c ∈ (bs p).take k, sign c = false)) (fun v5 _ => p.size - (intOf v5).toNat)
      case atStart => exact ⟨0, Nat.zero_le _, rfl, rfl, by simp [Hid]⟩
      case round =>
        obtain ⟨k, hk, rfl, rfl, hsg⟩ := hrel
        by_cases hlt : k < p.size
        · by_cases c42 : p[k] = 42
          · have hc' : (p[k].toNat : Int) = 42 := by rw [c42]; rfl
            clear c42
            go_wp2_with fail
            go_ret
            exact ⟨rfl, unhide B1⟩
          · have d42 : ¬ (p[k].toNat : Int) = 42 := fun e => c42 (u8_eq e)
            by_cases c63 : p[k] = 63
            · have hc' : (p[k].toNat : Int) = 63 := by rw [c63]; rfl
              clear c63 c42 d42
              go_wp2_with fail
              go_ret
              exact ⟨rfl, unhide B1⟩
            · have d63 : ¬ (p[k].toNat : Int) = 63 := fun e => c63 (u8_eq e)
              by_cases c91 : p[k] = 91
              · have hc' : (p[k].toNat : Int) = 91 := by rw [c91]; rfl
                clear c63 c42 c91 d42 d63
                go_wp2_with fail
                go_ret
                exact ⟨rfl, unhide B1⟩
              · have d91 : ¬ (p[k].toNat : Int) = 91 := fun e => c91 (u8_eq e)
                by_cases c92 : p[k] = 92
                · have hc' : (p[k].toNat : Int) = 92 := by rw [c92]; rfl
                  clear c63 c42 c91 c92 d42 d63 d91
                  go_wp2_with fail
                  go_ret
                  exact ⟨rfl, unhide B1⟩
                · have d92 : ¬ (p[k].toNat : Int) = 92 := fun e => c92 (u8_eq e)
                  have hsg' : Hid (∀ c ∈ (bs p).take (k + 1), sign c = false) := mem_take hlt (unhide hsg) (by simp [sign, c42, c63, c91, c92])
                  clear c63 c42 c91 c92 hsg
                  go_wp2_with fail
                  go_roundw
                  case rel => exact ⟨k + 1, by omega, by go_num, by trivial, hsg'⟩
                  case measure => simp [intOf]; omega
        · have hall : ∀ c ∈ bs p, sign c = false := by
            have h := unhide hsg
            rw [take_all p k (by omega)] at h
            exact h
          have HM := hide (fun W => match_below p n (decide (bs n = bs p)) W hp hn (match_plain _ _ hall (by rw [bs_len]; omega)))
          have HQ : Hid (∀ W, Calls Try.prog 7 #[.string p] W fun e w' => e = .returned (.string p) ∧ Below W.heap.size W w') := fun W => by
            have h := quote_any p W (by omega)
            rw [quote_same _ hall] at h
            exact h
          have hse := hide (str_eq p n)
          have hss := hide (str_eq p p)
          have hcm : Hid (decide (bs p = bs n) = decide (bs n = bs p)) := by
            show _ = _
            rw [decide_eq_decide]; exact eq_comm
          clear hsg hall
          go_wp2_with fail
          refine (unhide HM _).mono ?_
          rintro e w2 ⟨rfl, c2⟩
          have b2 := (unhide B1).trans (c2.mono (unhide B1).size)
          clear c2
          have heq : (p.toList == n.toList) = decide (bs n = bs p) := by rw [unhide hse, unhide hcm]
          generalize decide (bs n = bs p) = r at *
          clear hse hss hcm
          cases r
          · go_wp2_with fail
            refine (unhide HQ _).mono ?_
            rintro e w3 ⟨rfl, c3⟩
            have b3 := b2.trans (c3.mono b2.size)
            clear c3
            go_wp2_with fail
            go_ret
            refine ⟨congrArg (fun b => Ending.returned (.bool b)) ?_, b3⟩
            simp
          · go_wp2_with fail
            refine (unhide HQ _).mono ?_
            rintro e w3 ⟨rfl, c3⟩
            have b3 := b2.trans (c3.mono b2.size)
            clear c3
            go_wp2_with fail
            go_ret
            refine ⟨congrArg (fun b => Ending.returned (.bool b)) ?_, b3⟩
            simp
    · have h1' : ¬ (1000 : Int) < (p.size : Int) := by omega
      have h2' : (1000 : Int) < (n.size : Int) := by omega
      go_enter Try.func4, Try.ntmps4
      go_wp2_with fail
      refine (unhide HA _).mono ?_
      rintro e w1 ⟨rfl, b1⟩
      go_wp2_with fail
      refine (unhide HA _).mono ?_
      rintro e w2 ⟨rfl, c2⟩
      go_wp2_with fail
      go_ret
      exact ⟨rfl, b1.trans (c2.mono b1.size)⟩
  · have h1' : (1000 : Int) < (p.size : Int) := by omega
    go_enter Try.func4, Try.ntmps4
    go_wp2_with fail
    refine (unhide HA _).mono ?_
    rintro e w1 ⟨rfl, b1⟩
    go_wp2_with fail
    refine (unhide HA _).mono ?_
    rintro e w2 ⟨rfl, c2⟩
    go_wp2_with fail
    go_ret
    exact ⟨rfl, b1.trans (c2.mono b1.size)⟩
end Go.Proofs.Ytelijbnamiefcab.Gl
