/- GlobsAlone answers true at every two names. -/
import Derived.Test.YtelijbnamiefcaaGlQuote
import Derived.Test.YtelijbnamiefcaaGlFacts
namespace Go.Proofs.Ytelijbnamiefcaa.Gl
open Go.RowKit

theorem str_eq (a b : ByteArray) : (a.toList == b.toList) = decide (bs a = bs b) := by
  rw [ByteArray.toList_eq, ByteArray.toList_eq, Bool.eq_iff_iff]
  simp
theorem check_below (s : ByteArray) (b : Bool) (w : World) (hs : s.size ≤ 4611686018427387904) (h : checkP (bs s) = b) : Calls Try.prog 9 #[.string s] w fun e w' => e = .returned (.bool b) ∧ Below w.heap.size w w' := by
  subst h
  exact (check_any s w hs).mono fun e w' h => ⟨h.1, by obtain ⟨q, hq⟩ := h.2; rw [hq]; exact below_drew _ _⟩
theorem match_below (s n : ByteArray) (b : Bool) (w : World) (hs : s.size ≤ 4611686018427387904) (hn : n.size ≤ 4611686018427387904) (h : matchP (bs s) (bs n) = b) : Calls Try.prog 11 #[.string s, .string n] w fun e w' => e = .returned (.bool b) ∧ Below w.heap.size w w' := by
  subst h
  exact match_any s n w hs hn
set_option maxHeartbeats 400000 in
set_option maxRecDepth 100000 in
theorem globsAlone_any (n o : ByteArray) (w : World) (hn : n.size ≤ 4611686018427387904) (ho : o.size ≤ 4611686018427387904) :
    Calls Try.prog 5 #[.string n, .string o] w fun e w' => e = .returned (.bool true) ∧ Below w.heap.size w w' := by
  have HA := hide alive_any
  by_cases h1 : n.size ≤ 2000
  · by_cases h2 : o.size ≤ 2000
    · have h1' : ¬ (2000 : Int) < (n.size : Int) := by omega
      have h2' : ¬ (2000 : Int) < (o.size : Int) := by omega
      have hql := quote_len (bs n)
      rw [bs_len] at hql
      obtain ⟨p, hp⟩ : ∃ p : ByteArray, p = ⟨(quoteP (bs n)).toArray⟩ := ⟨_, rfl⟩
      have hbp : bs p = quoteP (bs n) := by rw [hp]
      have hps : p.size ≤ 4000 := by rw [← bs_len, hbp]; omega
      have HQ : Hid (∀ W, Calls Try.prog 14 #[.string n] W fun e w' => e = .returned (.string p) ∧ Below W.heap.size W w') := fun W => by rw [hp]; exact quote_any n W (by omega)
      have HC := hide (fun W => check_below p true W (by omega) (by unfold checkP; rw [hbp]; exact check_quote _ h1))
      have HM1 := hide (fun W => match_below p n true W (by omega) (by omega) (by rw [hbp, match_quote _ _ h1]; simp))
      have HM2 := hide (fun W => match_below p o (decide (bs o = bs n)) W (by omega) (by omega) (by rw [hbp, match_quote _ _ h1]))
      have hse := hide (str_eq o n)
      clear hp hbp hql
      go_enter Try.func5, Try.ntmps5
      go_wp2_with fail
      refine (unhide HA _).mono ?_
      rintro e w1 ⟨rfl, b1⟩
      go_wp2_with fail
      refine (unhide HQ _).mono ?_
      rintro e w2 ⟨rfl, c2⟩
      have b2 := b1.trans (c2.mono b1.size)
      clear c2 b1
      go_wp2_with fail
      refine (unhide HC _).mono ?_
      rintro e w3 ⟨rfl, c3⟩
      have b3 := b2.trans (c3.mono b2.size)
      clear c3 b2
      go_wp2_with fail
      refine (unhide HM1 _).mono ?_
      rintro e w4 ⟨rfl, c4⟩
      have b4 := b3.trans (c4.mono b3.size)
      clear c4 b3
      go_wp2_with fail
      refine (unhide HM2 _).mono ?_
      rintro e w5 ⟨rfl, c5⟩
      have b5 := b4.trans (c5.mono b4.size)
      clear c5 b4
      go_wp2_with fail
      go_ret
      refine ⟨congrArg (fun b => Ending.returned (.bool b)) ?_, b5⟩
      rw [unhide hse]
      simp
    · have h1' : ¬ (2000 : Int) < (n.size : Int) := by omega
      have h2' : (2000 : Int) < (o.size : Int) := by omega
      go_enter Try.func5, Try.ntmps5
      go_wp2_with fail
      refine (unhide HA _).mono ?_
      rintro e w1 ⟨rfl, b1⟩
      go_wp2_with fail
      refine (unhide HA _).mono ?_
      rintro e w2 ⟨rfl, c2⟩
      go_wp2_with fail
      go_ret
      exact ⟨rfl, b1.trans (c2.mono b1.size)⟩
  · have h1' : (2000 : Int) < (n.size : Int) := by omega
    go_enter Try.func5, Try.ntmps5
    go_wp2_with fail
    refine (unhide HA _).mono ?_
    rintro e w1 ⟨rfl, b1⟩
    go_wp2_with fail
    refine (unhide HA _).mono ?_
    rintro e w2 ⟨rfl, c2⟩
    go_wp2_with fail
    go_ret
    exact ⟨rfl, b1.trans (c2.mono b1.size)⟩
end Go.Proofs.Ytelijbnamiefcaa.Gl
