/- The law LinesCuts's walk. -/
import Derived.Test.YtbamldjifempfaaLnRefCuts
import Derived.Test.YtbamldjifempfaaBeyond
namespace Go.Proofs.Ytbamldjifempfaa.Ln
open Go.RowKit Go.Shelf

set_option maxRecDepth 100000 in
set_option maxHeartbeats 2000000 in
theorem linesCuts_any (s : ByteArray) (n : Int) (w : World) (hs : s.size ≤ maxLen) (hn0 : -9223372036854775808 ≤ n) (hn1 : n ≤ 9223372036854775807) :
    Calls Try.prog 4 #[.string s, .int .i64 n] w fun e w' => e = .returned (.bool true) ∧ Below w.heap.size w w' := by
  have hs' : s.size ≤ 9223372036854775807 := by unfold maxLen at hs; omega
  go_enter Try.func4, Try.ntmps4
  go_wp2_with fail
  refine (Beyond.beyond_one (s.size : Int) w.heap.size _ (by simp) (by omega) (by omega)).mono ?_
  rintro e w' ⟨rfl, rfl⟩
  by_cases hb : 1048576 < (s.size : Int)
  · go_wp2_with fail
    go_ret
    exact ⟨rfl, (Below.refl _ _).alloc (Nat.le_refl _) _⟩
  · have hs2 : s.size ≤ 1073741824 := by omega
    have H1 := hide (head_any s n (w.alloc (.cells #[.int .i64 s.size] 3)) hs2 hn0 hn1)
    have H2 : Hid (∀ W, Calls Try.prog 15 #[.string s, .int .i64 n] W fun e w' => e = .returned (.string (bt (s.data.toList.take (reachN s.data.toList n)))) ∧ w' = W) := fun W => refHead_any s n W hs2 hn0 hn1
    have H3 : Hid (∀ W, Calls Try.prog 16 #[.string s, .int .i64 n] W fun e w' => e = .returned (.string (bt (s.data.toList.drop (reachN s.data.toList (((parts isEnd s.data.toList).length : Int) - max n 0))))) ∧ Below W.heap.size W w') := fun W => tail_any s n W hs2 hn0 hn1
    have H4 : Hid (∀ W, Calls Try.prog 17 #[.string s, .int .i64 n] W fun e w' => e = .returned (.string (bt (s.data.toList.drop (reachN s.data.toList (((parts isEnd s.data.toList).length : Int) - max n 0))))) ∧ w' = W) := fun W => refTail_any s n W hs2 hn0 hn1
    have H5 : Hid (∀ W, Calls Try.prog 18 #[.string s, .int .i64 n] W fun e w' => e = .returned (.string (bt (s.data.toList.take (min n.toNat s.size)))) ∧ w' = W) := fun W => headBytes_any s n W hs2 hn0 hn1
    have H6 : Hid (∀ W, Calls Try.prog 19 #[.string s, .int .i64 n] W fun e w' => e = .returned (.string (bt (s.data.toList.take (min n.toNat s.size)))) ∧ w' = W) := fun W => refHeadBytes_any s n W hs2 hn0 hn1
    have H7 : Hid (∀ W, Calls Try.prog 20 #[.string s, .int .i64 n] W fun e w' => e = .returned (.string (bt (s.data.toList.drop (s.size - min n.toNat s.size)))) ∧ w' = W) := fun W => tailBytes_any s n W hs2 hn0 hn1
    have H8 : Hid (∀ W, Calls Try.prog 21 #[.string s, .int .i64 n] W fun e w' => e = .returned (.string (bt (s.data.toList.drop (s.size - min n.toNat s.size)))) ∧ w' = W) := fun W => refTailBytes_any s n W hs2 hn0 hn1
    generalize bt (s.data.toList.take (reachN s.data.toList n)) = x1 at *
    generalize bt (s.data.toList.drop (reachN s.data.toList (((parts isEnd s.data.toList).length : Int) - max n 0))) = x2 at *
    generalize bt (s.data.toList.take (min n.toNat s.size)) = x3 at *
    generalize bt (s.data.toList.drop (s.size - min n.toNat s.size)) = x4 at *
    have hB0 : Below w.heap.size w (w.alloc (.cells #[.int .i64 s.size] 3)) := (Below.refl _ _).alloc (Nat.le_refl _) _
    go_wp2_with fail
    refine (unhide H1).mono ?_
    rintro e w1 ⟨rfl, hB1⟩
    have hB1' : Below w.heap.size w w1 := hB0.trans (hB1.mono hB0.size)
    clear hB0 hB1
    go_wp2_with fail
    refine (unhide H2 _).mono ?_
    rintro e w2 ⟨rfl, rfl⟩
    go_wp2_with fail
    refine (unhide H3 _).mono ?_
    rintro e w3 ⟨rfl, hB3⟩
    have hB3' : Below w.heap.size w w3 := hB1'.trans (hB3.mono hB1'.size)
    clear hB1' hB3
    go_wp2_with fail
    refine (unhide H4 _).mono ?_
    rintro e w4 ⟨rfl, rfl⟩
    go_wp2_with fail
    refine (unhide H5 _).mono ?_
    rintro e w4 ⟨rfl, rfl⟩
    go_wp2_with fail
    refine (unhide H6 _).mono ?_
    rintro e w4 ⟨rfl, rfl⟩
    go_wp2_with fail
    refine (unhide H7 _).mono ?_
    rintro e w4 ⟨rfl, rfl⟩
    go_wp2_with fail
    refine (unhide H8 _).mono ?_
    rintro e w4 ⟨rfl, rfl⟩
    go_wp2_with fail
    go_ret
    exact ⟨rfl, hB3'⟩

end Go.Proofs.Ytbamldjifempfaa.Ln
