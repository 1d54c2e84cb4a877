/- What the small functions of package tree answer: times, owners, names, targets, nodes of each kind. -/
import Derived.Test.YtbajjbgeohbdjaaTrPlain
import Derived.Lib.Bytealg
namespace Go.Proofs.Ytbajjbgeohbdjaa.Tr
open Go.RowKit Go.Proofs.Ytbajjbgeohbdjaa.Cu

set_option maxRecDepth 100000 in
set_option maxHeartbeats 1000000 in
theorem isTime_any (n : Int) (w : World) : Calls Try.prog 16 #[.int .i64 n] w fun e w' => e = .returned (.bool (timeP n)) ∧ w' = w := by
  by_cases a1 : 0 ≤ n
  case neg =>
    have hv : timeP n = false := by simp [timeP, a1]
    rw [hv]
    clear hv
    go_enter Try.func16, Try.ntmps16
    go_wp2
    go_ret
    exact ⟨rfl, rfl⟩
  by_cases a2 : n ≤ 1099511627775
  case neg =>
    have hv : timeP n = false := by simp [timeP, a1, a2]
    rw [hv]
    clear hv
    go_enter Try.func16, Try.ntmps16
    go_wp2
    go_ret
    exact ⟨rfl, rfl⟩
  have hv : timeP n = true := by simp [timeP, a1, a2]
  rw [hv]
  clear hv
  go_enter Try.func16, Try.ntmps16
  go_wp2
  go_ret
  exact ⟨rfl, rfl⟩
set_option maxRecDepth 100000 in
set_option maxHeartbeats 1000000 in
theorem isOwner_any (n : Int) (w : World) : Calls Try.prog 77 #[.int .i64 n] w fun e w' => e = .returned (.bool (ownerP n)) ∧ w' = w := by
  by_cases a1 : 0 ≤ n
  case neg =>
    have hv : ownerP n = false := by simp [ownerP, a1]
    rw [hv]
    clear hv
    go_enter Try.func77, Try.ntmps77
    go_wp2
    go_ret
    exact ⟨rfl, rfl⟩
  by_cases a2 : n ≤ 65535
  case neg =>
    have hv : ownerP n = false := by simp [ownerP, a1, a2]
    rw [hv]
    clear hv
    go_enter Try.func77, Try.ntmps77
    go_wp2
    go_ret
    exact ⟨rfl, rfl⟩
  have hv : ownerP n = true := by simp [ownerP, a1, a2]
  rw [hv]
  clear hv
  go_enter Try.func77, Try.ntmps77
  go_wp2
  go_ret
  exact ⟨rfl, rfl⟩
abbrev nO (n : Nd) (d l : Value) : Obj := .cells (na n d l) 42
set_option maxRecDepth 100000 in
set_option maxHeartbeats 1000000 in
theorem hasOwner_any (n : Nd) (da : Option Addr) (dl dc : Nat) (la : Option Addr) (ll lc : Nat) (w : World) (hd : n.data.length = dl) (hl : n.list.length = ll) : Calls Try.prog 69 #[.agg (na n (.slice da dl dc) (.slice la ll lc))] w fun e w' => e = .returned (.bool (hasOwnerP n)) ∧ w' = w.alloc (nO n (.slice da dl dc) (.slice la ll lc)) := by
  obtain ⟨kd, md, us, gr, lk, ti, dt, tg, ls, pa⟩ := n
  unfold nO na
  simp only at hd hl ⊢
  by_cases a1 : 0 ≤ md
  case neg =>
    have hv : hasOwnerP ⟨kd, md, us, gr, lk, ti, dt, tg, ls, pa⟩ = false := by simp [hasOwnerP, a1]
    rw [hv]
    clear hv
    clear hd hl
    go_enter Try.func69, Try.ntmps69
    go_wp2_with (first | (go_at_call 77; refine (isOwner_any _ _).mono ?_; rintro e w' ⟨rfl, rfl⟩) | (go_at_call 16; refine (isTime_any _ _).mono ?_; rintro e w' ⟨rfl, rfl⟩))
    go_ret
    exact ⟨rfl, rfl⟩
  by_cases a2 : md ≤ 511
  case neg =>
    have hv : hasOwnerP ⟨kd, md, us, gr, lk, ti, dt, tg, ls, pa⟩ = false := by simp [hasOwnerP, a1, a2]
    rw [hv]
    clear hv
    clear hd hl
    go_enter Try.func69, Try.ntmps69
    go_wp2_with (first | (go_at_call 77; refine (isOwner_any _ _).mono ?_; rintro e w' ⟨rfl, rfl⟩) | (go_at_call 16; refine (isTime_any _ _).mono ?_; rintro e w' ⟨rfl, rfl⟩))
    go_ret
    exact ⟨rfl, rfl⟩
  by_cases a3 : ownerP us = true
  case neg =>
    have hv : hasOwnerP ⟨kd, md, us, gr, lk, ti, dt, tg, ls, pa⟩ = false := by simp [hasOwnerP, a1, a2, a3]
    rw [hv]
    clear hv
    clear hd hl
    go_enter Try.func69, Try.ntmps69
    go_wp2_with (first | (go_at_call 77; refine (isOwner_any _ _).mono ?_; rintro e w' ⟨rfl, rfl⟩) | (go_at_call 16; refine (isTime_any _ _).mono ?_; rintro e w' ⟨rfl, rfl⟩))
    go_ret
    exact ⟨rfl, rfl⟩
  by_cases a4 : ownerP gr = true
  case neg =>
    have hv : hasOwnerP ⟨kd, md, us, gr, lk, ti, dt, tg, ls, pa⟩ = false := by simp [hasOwnerP, a1, a2, a3, a4]
    rw [hv]
    clear hv
    clear hd hl
    go_enter Try.func69, Try.ntmps69
    go_wp2_with (first | (go_at_call 77; refine (isOwner_any _ _).mono ?_; rintro e w' ⟨rfl, rfl⟩) | (go_at_call 16; refine (isTime_any _ _).mono ?_; rintro e w' ⟨rfl, rfl⟩))
    go_ret
    exact ⟨rfl, rfl⟩
  have hv : hasOwnerP ⟨kd, md, us, gr, lk, ti, dt, tg, ls, pa⟩ = timeP ti := by simp [hasOwnerP, a1, a2, a3, a4]
  rw [hv]
  clear hv
  clear hd hl
  go_enter Try.func69, Try.ntmps69
  go_wp2_with (first | (go_at_call 77; refine (isOwner_any _ _).mono ?_; rintro e w' ⟨rfl, rfl⟩) | (go_at_call 16; refine (isTime_any _ _).mono ?_; rintro e w' ⟨rfl, rfl⟩))
  go_ret
  exact ⟨rfl, rfl⟩
set_option maxRecDepth 100000 in
set_option maxHeartbeats 1000000 in
theorem hasNoList_any (n : Nd) (da : Option Addr) (dl dc : Nat) (la : Option Addr) (ll lc : Nat) (w : World) (hd : n.data.length = dl) (hl : n.list.length = ll) : Calls Try.prog 68 #[.agg (na n (.slice da dl dc) (.slice la ll lc))] w fun e w' => e = .returned (.bool (noListP n)) ∧ w' = w.alloc (nO n (.slice da dl dc) (.slice la ll lc)) := by
  obtain ⟨kd, md, us, gr, lk, ti, dt, tg, ls, pa⟩ := n
  unfold nO na noListP
  simp only at hd hl ⊢
  rw [hl]
  clear hd hl
  by_cases a1 : ll = 0
  case neg =>
    rw [show decide (ll = 0) = false by simp [a1], Bool.false_and]
    have a2 : ¬ (ll : Int) = 0 := by omega
    clear a1
    go_enter Try.func68, Try.ntmps68
    go_wp2
    go_ret
    exact ⟨rfl, rfl⟩
  subst a1
  by_cases a2 : pa = 0
  case neg =>
    rw [show (decide (0 = 0) && decide (pa = 0)) = false by simp [a2]]
    go_enter Try.func68, Try.ntmps68
    go_wp2
    go_ret
    exact ⟨by simp [a2], rfl⟩
  subst a2
  go_enter Try.func68, Try.ntmps68
  go_wp2
  go_ret
  exact ⟨rfl, rfl⟩
end Go.Proofs.Ytbajjbgeohbdjaa.Tr
