/- What Beyond answers of three sizes. -/
import Derived.Test.YtjgboecifonjdaaRows
import Derived.WalkKit
import Derived.WalkSpells
namespace Go.Proofs.Ytjgboecifonjdaa.Beyond
open Go.RowKit

set_option maxHeartbeats 400000 in
theorem beyond_three (n m p : Int) (b : Nat) (w : World) (hc : w.cell? ⟨b, 0, none⟩ = some (.int .i64 n)) (hd : w.cell? ⟨b, 1, none⟩ = some (.int .i64 m)) (he : w.cell? ⟨b, 2, none⟩ = some (.int .i64 p)) (h0 : 0 ≤ n) (h1 : n ≤ 2305843009213693952) (h2 : 0 ≤ m) (h3 : m ≤ 2305843009213693952) (h4 : 0 ≤ p) (h5 : p ≤ 2305843009213693952) :
    Calls Try.prog 7 #[.slice (some ⟨b, 0, none⟩) 3 3] w fun e w' => e = .returned (.bool (decide (1048576 < n + m + p))) ∧ w' = w := by
  by_cases hn : 1048576 < n
  · go_enter Try.func7, Try.ntmps7
    go_wp2
    refine wp_loop_rounds 4 ?_
    rw [rounds_succ]
    go_wp2
    go_ret
    exact ⟨by simp; omega, rfl⟩
  · by_cases hm : 1048576 < n + m
    · go_enter Try.func7, Try.ntmps7
      go_wp2
      refine wp_loop_rounds 4 ?_
      rw [rounds_succ]
      go_wp2
      rw [rounds_succ]
      go_wp2
      go_ret
      exact ⟨by simp; omega, rfl⟩
    · by_cases hp : 1048576 < n + m + p
      · go_enter Try.func7, Try.ntmps7
        go_wp2
        refine wp_loop_rounds 4 ?_
        rw [rounds_succ]
        go_wp2
        rw [rounds_succ]
        go_wp2
        rw [rounds_succ]
        go_wp2
        go_ret
        exact ⟨by simp; omega, rfl⟩
      · go_enter Try.func7, Try.ntmps7
        go_wp2
        refine wp_loop_rounds 4 ?_
        rw [rounds_succ]
        go_wp2
        rw [rounds_succ]
        go_wp2
        rw [rounds_succ]
        go_wp2
        rw [rounds_succ]
        go_wp2
        go_ret
        exact ⟨by simp; omega, rfl⟩
end Go.Proofs.Ytjgboecifonjdaa.Beyond
