/- The walk of CutsExpands. -/
import Derived.Test.YtpfdjnnnemkoiaaCuRefExp
import Derived.Test.YtpfdjnnnemkoiaaBeyond
namespace Go.Proofs.Ytpfdjnnnemkoiaa.Cu
open Go.RowKit

theorem exAns_tuple (n : Int) (s : Bs) : ∃ (t : ByteArray) (k : Nat), exAns n s = .tuple #[.string t, .int .i64 k] ∧ k ≤ 3 := by
  unfold exAns noText
  split
  · exact ⟨_, 1, rfl, by omega⟩
  · split
    · exact ⟨_, 3, rfl, by omega⟩
    · exact ⟨_, 0, rfl, by omega⟩

set_option maxHeartbeats 1000000 in
set_option maxRecDepth 100000 in
theorem expands_walk (s : ByteArray) (n : Int) (w : World) (hs : s.size ≤ 4611686018427387904) :
    Calls Try.prog 5 #[.string s, .int .i64 n] w fun e w' => e = .returned (.bool true) ∧ Below w.heap.size w w' := by
  have hB0 : Below w.heap.size w (w.alloc (.cells #[.int .i64 s.size] 3)) := (Below.refl _ w).alloc (Nat.le_refl _) _
  have hsz0 := hB0.size
  go_enter Try.func5, Try.ntmps5
  go_wp2_with fail
  refine (Beyond.beyond_one (s.size : Int) w.heap.size _ (by simp) (by omega) (by omega)).mono ?_
  rintro e w1 ⟨rfl, rfl⟩
  by_cases hb : (1048576 : Int) < (s.size : Int)
  · rw [decide_eq_true hb]
    go_wp2_with fail
    go_ret
    exact ⟨rfl, hB0⟩
  · rw [decide_eq_false hb]
    obtain ⟨t, k, ht, hk⟩ := exAns_tuple n (bs s)
    have H1 := hide (expand_any s n (w.alloc (.cells #[.int .i64 s.size] 3)) hs)
    rw [ht] at H1
    go_wp2_with fail
    refine (unhide H1).mono ?_
    rintro e w2 ⟨rfl, hB1⟩
    have hB2 : Below w.heap.size w w2 := hB0.trans (hB1.mono hsz0)
    have H2 := hide (rexpand_any s n w2 hs)
    rw [ht] at H2
    clear H1
    go_wp2_with fail
    refine (unhide H2).mono ?_
    rintro e w3 ⟨rfl, hB3⟩
    have hB4 : Below w.heap.size w w3 := hB2.trans (hB3.mono hB2.size)
    clear H2
    go_wp2_with fail
    go_ret
    exact ⟨rfl, hB4⟩
end Go.Proofs.Ytpfdjnnnemkoiaa.Cu
