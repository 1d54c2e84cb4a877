/- The law LinesAdds's walk. -/
import Derived.Test.YtbamldjifempfabLnAlive
import Derived.Test.YtbamldjifempfabLnCPlain
import Derived.Test.YtbamldjifempfabBeyond2
namespace Go.Proofs.Ytbamldjifempfab.Ln
open Go.RowKit Go.Shelf Pa

theorem between (s t : ByteArray) : (s ++ ({ data := #[10] } : ByteArray) ++ t).data.toList = s.data.toList ++ 10 :: t.data.toList := by
  simp [ByteArray.data_append]
theorem between_size (s t : ByteArray) : (s ++ ({ data := #[10] } : ByteArray) ++ t).size = s.size + t.size + 1 := by
  have h := congrArg List.length (between s t)
  have e1 : (s ++ ({ data := #[10] } : ByteArray) ++ t).data.toList.length = (s ++ ({ data := #[10] } : ByteArray) ++ t).size := rfl
  have e2 : s.data.toList.length = s.size := rfl
  have e3 : t.data.toList.length = t.size := rfl
  rw [e1, List.length_append, List.length_cons, e2, e3] at h
  omega

set_option maxRecDepth 100000 in
set_option maxHeartbeats 1000000 in
theorem linesAdds_any (s t : ByteArray) (w : World) (hs : s.size ≤ 4611686018427387904) (ht : t.size ≤ 4611686018427387904) :
    Calls Try.prog 5 #[.string s, .string t] w fun e w' => e = .returned (.bool true) ∧ Below w.heap.size w w' := by
  go_enter Try.func5, Try.ntmps5
  go_wp2_with fail
  refine (alive_any w).mono ?_
  rintro e w0 ⟨rfl, hB0⟩
  go_wp2_with fail
  refine (beyond_two (s.size : Int) (t.size : Int) w0.heap.size _ (by simp) (by simp) (by omega) (by omega) (by omega) (by omega)).mono ?_
  rintro e w' ⟨rfl, rfl⟩
  have hB1 : Below w.heap.size w (w0.alloc (.cells #[.int .i64 s.size, .int .i64 t.size] 3)) := hB0.alloc hB0.size _
  generalize (w0.alloc (.cells #[.int .i64 s.size, .int .i64 t.size] 3)) = w1 at *
  clear hB0
  by_cases hb : 1048576 < (s.size : Int) + (t.size : Int)
  · go_wp2_with fail
    refine (alive_any w1).mono ?_
    rintro e w2 ⟨rfl, hB2⟩
    go_wp2_with fail
    go_ret
    exact ⟨rfl, hB1.trans (hB2.mono hB1.size)⟩
  · have C1 : Hid (∀ W, Calls Try.prog 16 #[.string s] W fun e w' => e = .returned (countAns s) ∧ Below W.heap.size W w') := fun W => count_any s W (by omega)
    have C2 : Hid (∀ W, Calls Try.prog 16 #[.string t] W fun e w' => e = .returned (countAns t) ∧ Below W.heap.size W w') := fun W => count_any t W (by omega)
    have C3 : Hid (∀ W, Calls Try.prog 16 #[.string (s ++ ({ data := #[10] } : ByteArray) ++ t)] W fun e w' => e = .returned (countAns (s ++ ({ data := #[10] } : ByteArray) ++ t)) ∧ Below W.heap.size W w') := fun W => count_any _ W (by rw [between_size]; omega)
    unfold countAns at C1 C2 C3
    rw [between, between_size, endsN_two, words_two, longN_two] at C3
    have q1 : endsN (parts isEnd s.data.toList) ≤ s.size := Nat.le_trans (endsN_le _) (parts_len _ _)
    have q2 : endsN (parts isEnd t.data.toList) ≤ t.size := Nat.le_trans (endsN_le _) (parts_len _ _)
    have q3 : (runsOf (parts isSpace s.data.toList)).length ≤ s.size := Nat.le_trans (runsOf_len _) (parts_len _ _)
    have q4 : (runsOf (parts isSpace t.data.toList)).length ≤ t.size := Nat.le_trans (runsOf_len _) (parts_len _ _)
    have q5 : longN (parts isEnd s.data.toList) ≤ s.size := by have := longN_le (parts isEnd s.data.toList); rw [szs_parts] at this; exact this
    have q6 : longN (parts isEnd t.data.toList) ≤ t.size := by have := longN_le (parts isEnd t.data.toList); rw [szs_parts] at this; exact this
    generalize endsN (parts isEnd s.data.toList) = x1 at *
    generalize endsN (parts isEnd t.data.toList) = y1 at *
    generalize (runsOf (parts isSpace s.data.toList)).length = x2 at *
    generalize (runsOf (parts isSpace t.data.toList)).length = y2 at *
    generalize longN (parts isEnd s.data.toList) = x3 at *
    generalize longN (parts isEnd t.data.toList) = y3 at *
    obtain ⟨z3, hz3⟩ : ∃ z3, z3 = max x3 y3 := ⟨_, rfl⟩
    rw [← hz3] at C3
    have hz : (x3 < y3 ∧ z3 = y3) ∨ (y3 ≤ x3 ∧ z3 = x3) := by omega
    clear hz3
    go_wp2_with fail
    refine (unhide C1 _).mono ?_
    rintro e w2 ⟨rfl, hb2⟩
    have hB2 : Below w.heap.size w w2 := hB1.trans (hb2.mono hB1.size)
    clear hB1 hb2
    go_wp2_with fail
    refine (unhide C2 _).mono ?_
    rintro e w3 ⟨rfl, hb3⟩
    have hB3 : Below w.heap.size w w3 := hB2.trans (hb3.mono hB2.size)
    clear hB2 hb3
    go_wp2_with fail
    refine (unhide C3 _).mono ?_
    rintro e w4 ⟨rfl, hb4⟩
    have hB4 : Below w.heap.size w w4 := hB3.trans (hb4.mono hB3.size)
    clear hB3 hb4 C1 C2 C3
    have e1 : ((x1 + y1 + 1 : Nat) : Int) = (x1 : Int) + (y1 : Int) + 1 := by omega
    have e2 : ((x2 + y2 : Nat) : Int) = (x2 : Int) + (y2 : Int) := by omega
    have e3 : ((s.size + t.size + 1 : Nat) : Int) = (s.size : Int) + (t.size : Int) + 1 := by omega
    rw [e1, e2, e3]
    clear e1 e2 e3
    rcases hz with ⟨hz1, rfl⟩ | ⟨hz1, rfl⟩
    all_goals
      go_wp2_with fail
      go_ret
      exact ⟨rfl, hB4⟩
end Go.Proofs.Ytbamldjifempfab.Ln
