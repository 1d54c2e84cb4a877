/- What Beyond answers of two sizes. -/
import Derived.Test.YtebnmjelelkcmaaRows
import Derived.WalkKit
import Derived.WalkSpells
namespace Go.Proofs.Ytebnmjelelkcmaa.Pa
open Go.RowKit

set_option maxHeartbeats 400000 in
theorem beyond_two (n m : Int) (b : Nat) (w : World) (hc : w.cell? ⟨b, 0, none⟩ = some (.int .i64 n)) (hd : w.cell? ⟨b, 1, none⟩ = some (.int .i64 m)) (h0 : 0 ≤ n) (h1 : n ≤ 4611686018428436480) (h2 : 0 ≤ m) (h3 : m ≤ 4611686018428436480) :
    Calls Try.prog 9 #[.slice (some ⟨b, 0, none⟩) 2 2] w fun e w' => e = .returned (.bool (decide (1048576 < n + m))) ∧ w' = w := by
  by_cases hn : 1048576 < n
  · go_enter Try.func9, Try.ntmps9
    go_wp2
    refine wp_loop_rounds 3 ?_
    rw [rounds_succ]
    go_wp2
    go_ret
    exact ⟨by simp; omega, rfl⟩
  · by_cases hm : 1048576 < n + m
    · go_enter Try.func9, Try.ntmps9
      go_wp2
      refine wp_loop_rounds 3 ?_
      rw [rounds_succ]
      go_wp2
      rw [rounds_succ]
      go_wp2
      go_ret
      exact ⟨by simp; omega, rfl⟩
    · go_enter Try.func9, Try.ntmps9
      go_wp2
      refine wp_loop_rounds 3 ?_
      rw [rounds_succ]
      go_wp2
      rw [rounds_succ]
      go_wp2
      rw [rounds_succ]
      go_wp2
      go_ret
      exact ⟨by simp; omega, rfl⟩


end Go.Proofs.Ytebnmjelelkcmaa.Pa
