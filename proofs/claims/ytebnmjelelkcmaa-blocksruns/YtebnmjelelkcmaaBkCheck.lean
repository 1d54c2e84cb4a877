/- What isBlock, isNumber and Check answer. -/
import Derived.Test.YtebnmjelelkcmaaBkPlain
namespace Go.Proofs.Ytebnmjelelkcmaa.Bk
open Go.RowKit Cu

set_option maxHeartbeats 400000 in
theorem isBlock_any (n : Int) (w : World) : Calls Try.prog 20 #[.int .i64 n] w fun e w' => e = .returned (.bool (isB n)) ∧ w' = w := by
  by_cases a : 1 ≤ n
  · by_cases b : n ≤ 65536
    · go_enter Try.func20, Try.ntmps20
      go_wp2
      go_ret
      exact ⟨by simp [isB, a, b], rfl⟩
    · go_enter Try.func20, Try.ntmps20
      go_wp2
      go_ret
      exact ⟨by simp [isB, a, b], rfl⟩
  · go_enter Try.func20, Try.ntmps20
    go_wp2
    go_ret
    exact ⟨by simp [isB]; omega, rfl⟩
set_option maxHeartbeats 400000 in
theorem isNumber_any (n : Int) (w : World) : Calls Try.prog 21 #[.int .i64 n] w fun e w' => e = .returned (.bool (isN n)) ∧ w' = w := by
  by_cases a : 0 ≤ n
  · by_cases b : n ≤ 2147483647
    · go_enter Try.func21, Try.ntmps21
      go_wp2
      go_ret
      exact ⟨by simp [isN, a, b], rfl⟩
    · go_enter Try.func21, Try.ntmps21
      go_wp2
      go_ret
      exact ⟨by simp [isN, a, b], rfl⟩
  · go_enter Try.func21, Try.ntmps21
    go_wp2
    go_ret
    exact ⟨by simp [isN]; omega, rfl⟩
abbrev PlO (p : Pl) : Obj := .cells (plC p) 23
set_option maxRecDepth 100000 in
set_option maxHeartbeats 1000000 in
theorem check_any (p : Pl) (w : World) : Calls Try.prog 12 #[.agg (plC p)] w fun e w' => e = .returned (.bool (okP p)) ∧ w' = w.alloc (PlO p) := by
  obtain ⟨i, o, sk, ct, se, kp, sw, up, lo, sy⟩ := p
  unfold okP PlO plC
  simp only
  cases h1 : isB i
  · go_enter Try.func12, Try.ntmps12
    go_wp2_with (first | (go_at_call 20; refine (isBlock_any _ _).mono ?_; rintro e w' ⟨rfl, rfl⟩) | (go_at_call 21; refine (isNumber_any _ _).mono ?_; rintro e w' ⟨rfl, rfl⟩))
    go_ret
    exact ⟨by simp, rfl⟩
  cases h2 : isB o
  · go_enter Try.func12, Try.ntmps12
    go_wp2_with (first | (go_at_call 20; refine (isBlock_any _ _).mono ?_; rintro e w' ⟨rfl, rfl⟩) | (go_at_call 21; refine (isNumber_any _ _).mono ?_; rintro e w' ⟨rfl, rfl⟩))
    go_ret
    exact ⟨by simp, rfl⟩
  cases h3 : isN sk
  · go_enter Try.func12, Try.ntmps12
    go_wp2_with (first | (go_at_call 20; refine (isBlock_any _ _).mono ?_; rintro e w' ⟨rfl, rfl⟩) | (go_at_call 21; refine (isNumber_any _ _).mono ?_; rintro e w' ⟨rfl, rfl⟩))
    go_ret
    exact ⟨by simp, rfl⟩
  cases h4 : isN se
  · go_enter Try.func12, Try.ntmps12
    go_wp2_with (first | (go_at_call 20; refine (isBlock_any _ _).mono ?_; rintro e w' ⟨rfl, rfl⟩) | (go_at_call 21; refine (isNumber_any _ _).mono ?_; rintro e w' ⟨rfl, rfl⟩))
    go_ret
    exact ⟨by simp, rfl⟩
  cases up <;> cases lo
  all_goals
    go_enter Try.func12, Try.ntmps12
    go_wp2_with (first | (go_at_call 20; refine (isBlock_any _ _).mono ?_; rintro e w' ⟨rfl, rfl⟩) | (go_at_call 21; refine (isNumber_any _ _).mono ?_; rintro e w' ⟨rfl, rfl⟩))
    go_ret
    exact ⟨by simp, rfl⟩
end Go.Proofs.Ytebnmjelelkcmaa.Bk
