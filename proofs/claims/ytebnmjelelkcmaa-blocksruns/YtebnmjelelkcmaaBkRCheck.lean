/- What the document's Check answers. -/
import Derived.Test.YtebnmjelelkcmaaBkCheck
namespace Go.Proofs.Ytebnmjelelkcmaa.Bk
open Go.RowKit Cu

abbrev RlO (p : Pl) : Obj := .cells (plC p) 25
set_option maxRecDepth 100000 in
set_option maxHeartbeats 1000000 in
theorem rcheck_any (p : Pl) (w : World) : Calls Try.prog 13 #[.agg (plC p)] w fun e w' => e = .returned (.bool (okP p)) ∧ w' = w.alloc (RlO p) := by
  obtain ⟨i, o, sk, ct, se, kp, sw, up, lo, sy⟩ := p
  unfold okP RlO plC isB isN
  simp only
  by_cases a1 : 1 ≤ i
  case neg =>
    go_enter Try.func13, Try.ntmps13
    go_wp2_with fail
    go_ret
    exact ⟨by simp; intros; omega, rfl⟩
  by_cases a2 : i ≤ 65536
  case neg =>
    go_enter Try.func13, Try.ntmps13
    go_wp2_with fail
    go_ret
    exact ⟨by simp; intros; omega, rfl⟩
  by_cases a3 : 1 ≤ o
  case neg =>
    go_enter Try.func13, Try.ntmps13
    go_wp2_with fail
    go_ret
    exact ⟨by simp; intros; omega, rfl⟩
  by_cases a4 : o ≤ 65536
  case neg =>
    go_enter Try.func13, Try.ntmps13
    go_wp2_with fail
    go_ret
    exact ⟨by simp; intros; omega, rfl⟩
  by_cases a5 : 0 ≤ sk
  case neg =>
    go_enter Try.func13, Try.ntmps13
    go_wp2_with fail
    go_ret
    exact ⟨by simp; intros; omega, rfl⟩
  by_cases a6 : sk ≤ 2147483647
  case neg =>
    go_enter Try.func13, Try.ntmps13
    go_wp2_with fail
    go_ret
    exact ⟨by simp; intros; omega, rfl⟩
  by_cases a7 : 0 ≤ se
  case neg =>
    go_enter Try.func13, Try.ntmps13
    go_wp2_with fail
    go_ret
    exact ⟨by simp; intros; omega, rfl⟩
  by_cases a8 : se ≤ 2147483647
  case neg =>
    go_enter Try.func13, Try.ntmps13
    go_wp2_with fail
    go_ret
    exact ⟨by simp; intros; omega, rfl⟩
  cases up <;> cases lo
  all_goals
    go_enter Try.func13, Try.ntmps13
    go_wp2_with fail
    go_ret
    exact ⟨by simp [a1, a2, a3, a4, a5, a6, a7, a8], rfl⟩
end Go.Proofs.Ytebnmjelelkcmaa.Bk
