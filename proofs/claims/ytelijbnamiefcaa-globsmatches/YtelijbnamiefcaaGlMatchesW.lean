/- GlobsMatches answers true at every pattern and name. -/
import Derived.Test.YtelijbnamiefcaaGlRefX
namespace Go.Proofs.Ytelijbnamiefcaa.Gl
open Go.RowKit

theorem rcheck_any (s : ByteArray) (b : Bool) (w : World) (hs : s.size ≤ 4611686018427387904) (h : checkP (bs s) = b) :
    Calls Try.prog 10 #[.string s] w fun e w' => e = .returned (.bool b) ∧ Below w.heap.size w w' := by
  subst h
  have HT := hide (things_any s w hs)
  obtain ⟨r, hr⟩ : ∃ r, r = checkP (bs s) := ⟨_, rfl⟩
  rw [← hr]
  have HRR : Hid (r = (readP (bs s)).isSome) := hr
  clear hr
  go_enter Try.func10, Try.ntmps10
  go_wp2_with fail
  refine (unhide HT).mono ?_
  rintro e w1 ⟨h | ⟨ts, v, hts, _, _, rfl, hO⟩, hb1⟩
  · obtain ⟨h1, rfl⟩ := h
    have hf : Hid (r = false) := by rw [unhide HRR, h1]; rfl
    clear h1 HRR HT
    go_wp2_with fail
    go_ret
    exact ⟨by rw [unhide hf]; rfl, hb1⟩
  · have hf : Hid (r = true) := by rw [unhide HRR, hts]; rfl
    obtain ⟨a, n, c, hv⟩ : ∃ a n c, v = .slice a n c := by
      rcases hO.2 with ⟨hv, _⟩ | ⟨g, cap, cur, hv, _⟩ <;> exact ⟨_, _, _, hv⟩
    subst hv
    clear hts HRR HT hO
    go_wp2_with fail
    go_ret
    exact ⟨by rw [unhide hf]; rfl, hb1⟩
theorem rmatch_below (s n : ByteArray) (b : Bool) (w : World) (hs : s.size ≤ 4611686018427387904) (hn : n.size ≤ 5000) (h : matchP (bs s) (bs n) = b) :
    Calls Try.prog 12 #[.string s, .string n] w fun e w' => e = .returned (.bool b) ∧ Below w.heap.size w w' := by
  subst h
  exact rmatch_any s n w hs hn
theorem mul_small (a b : Nat) (ha : a ≤ 5000) (hb : b ≤ 5000) : (a : Int) * (b : Int) ≤ 25000000 := by
  have h : a * b ≤ 5000 * 5000 := Nat.mul_le_mul ha hb
  have h2 : ((a * b : Nat) : Int) = (a : Int) * (b : Int) := by push_cast; rfl
  rw [← h2]; omega
set_option maxHeartbeats 1000000 in
set_option maxRecDepth 100000 in
theorem globsMatches_any (p n : ByteArray) (w : World) (hp : p.size ≤ 4611686018427387904) (hn : n.size ≤ 4611686018427387904) :
    Calls Try.prog 3 #[.string p, .string n] w fun e w' => e = .returned (.bool true) ∧ Below w.heap.size w w' := by
  by_cases h1 : p.size ≤ 5000
  · have h1' : ¬ (5000 : Int) < (p.size : Int) := by omega
    have h1'' : (p.size : Int) ≤ 5000 := by omega
    by_cases h2 : n.size ≤ 5000
    · have h2' : ¬ (5000 : Int) < (n.size : Int) := by omega
      have hm0 : (0 : Int) ≤ (p.size : Int) * (n.size : Int) := Int.mul_nonneg (by omega) (by omega)
      have hm1 := mul_small p.size n.size h1 h2
      obtain ⟨M, hM⟩ : ∃ M, M = (p.size : Int) * (n.size : Int) := ⟨_, rfl⟩
      rw [← hM] at hm0 hm1
      have hwr : wrap64 ((p.size : Int) * (n.size : Int)) = M := by rw [← hM]; unfold wrap64; omega
      have hMM : (p.size : Int) * (n.size : Int) = M := hM.symm
      clear hM
      obtain ⟨b1, hb1⟩ : ∃ b, b = checkP (bs p) := ⟨_, rfl⟩
      obtain ⟨b2, hb2⟩ : ∃ b, b = matchP (bs p) (bs n) := ⟨_, rfl⟩
      have C1 := hide (fun W => check_below p b1 W hp hb1.symm)
      have C2 := hide (fun W => rcheck_any p b1 W hp hb1.symm)
      have C3 := hide (fun W => match_below p n b2 W hp hn hb2.symm)
      have C4 := hide (fun W => rmatch_below p n b2 W hp h2 hb2.symm)
      clear hb1 hb2
      by_cases h3 : M ≤ 1000000
      · have h3' : ¬ (1000000 : Int) < M := by omega
        go_enter Try.func3, Try.ntmps3
        go_wp2_with fail
        refine (unhide C1 _).mono ?_
        rintro e w1 ⟨rfl, d1⟩
        go_wp2_with fail
        refine (unhide C2 _).mono ?_
        rintro e w2 ⟨rfl, c2⟩
        have d2 := d1.trans (c2.mono d1.size)
        clear c2 d1
        go_wp2_with fail
        refine (unhide C3 _).mono ?_
        rintro e w3 ⟨rfl, c3⟩
        have d3 := d2.trans (c3.mono d2.size)
        clear c3 d2
        go_wp2_with fail
        refine (unhide C4 _).mono ?_
        rintro e w4 ⟨rfl, c4⟩
        have d4 := d3.trans (c4.mono d3.size)
        clear c4 d3
        go_wp2_with fail
        go_ret
        exact ⟨by simp, d4⟩
      · have h3' : (1000000 : Int) < M := by omega
        go_enter Try.func3, Try.ntmps3
        go_wp2_with fail
        go_ret
        exact ⟨by simp, Below.refl _ _⟩
    · have h2' : (5000 : Int) < (n.size : Int) := by omega
      go_enter Try.func3, Try.ntmps3
      go_wp2_with fail
      go_ret
      exact ⟨by simp, Below.refl _ _⟩
  · have h1' : (5000 : Int) < (p.size : Int) := by omega
    have h1'' : ¬ (p.size : Int) ≤ 5000 := by omega
    have HC := hide (fun W => check_below (p.extract 0 4097) false W (by rw [← bs_len, bs_to, List.length_take]; omega) (by
      unfold checkP readP
      rw [if_pos (by rw [bs_to, List.length_take, bs_len]; omega)]; rfl))
    go_enter Try.func3, Try.ntmps3
    go_wp2_with fail
    refine (unhide HC _).mono ?_
    rintro e w1 ⟨rfl, b1⟩
    go_wp2_with fail
    go_ret
    exact ⟨rfl, b1⟩
end Go.Proofs.Ytelijbnamiefcaa.Gl
