/- The document's May and Owns walked. -/
import Derived.Test.YtngljliollbcnaaPmMay
namespace Go.Proofs.Ytngljliollbcnaa.Pm
open Go.RowKit Go.Proofs.Ytngljliollbcnaa.Cu Go.Proofs.Ytngljliollbcnaa.Tr

set_option maxRecDepth 100000 in
set_option maxHeartbeats 1000000 in
theorem rowns_any (n : Nd) (d l : Value) (e : Ev) (w : World) :
    Calls Try.prog 14 #[.agg (na n d l), .agg (ea e)] w fun r w' => r = .returned (.bool (ownsP n e)) ∧ Below w.heap.size w w' := by
  obtain ⟨kd, md, us, gr, lk, ti, dt, tg, ls, pa⟩ := n
  obtain ⟨u, g, mk, dr⟩ := e
  unfold na ea
  simp only
  by_cases a1 : u = 0
  · have hv : ownsP ⟨kd, md, us, gr, lk, ti, dt, tg, ls, pa⟩ ⟨u, g, mk, dr⟩ = true := by simp [ownsP, a1]
    rw [hv]
    subst a1
    clear hv
    go_enter Try.func14, Try.ntmps14
    go_wp2
    go_ret
    exact ⟨rfl, b2 _ _ _⟩
  · have hv : ownsP ⟨kd, md, us, gr, lk, ti, dt, tg, ls, pa⟩ ⟨u, g, mk, dr⟩ = (u == us) := by rw [Bool.eq_iff_iff]; simp [ownsP, a1]
    rw [hv]
    clear hv
    have h1 : (u == 0) = false := by simpa using a1
    clear a1
    go_enter Try.func14, Try.ntmps14
    go_wp2
    go_ret
    exact ⟨rfl, b2 _ _ _⟩
set_option maxRecDepth 100000 in
set_option maxHeartbeats 2000000 in
theorem rmay_any (n : Nd) (d l : Value) (e : Ev) (what : Int) (w : World) :
    Calls Try.prog 12 #[.agg (na n d l), .agg (ea e), .int .i64 what] w fun r w' => r = .returned (.bool (mayP n e what)) ∧ Below w.heap.size w w' := by
  obtain ⟨M, HM⟩ : ∃ M, Hid (M = mayP n e what) := ⟨_, rfl⟩
  rw [← unhide HM]
  have HMe : Hid (M = if what < 1 ∨ 7 < what ∨ n.kind = 0 then false else if e.user = 0 then decide (what % 2 = 0) || (!decide (n.kind = 1) || anyX n.mode) else sub what.toNat (bitsP n e)) := by
    show M = _
    rw [unhide HM]; rfl
  clear HM
  by_cases a1 : what < 1
  · obtain rfl : M = false := by rw [unhide HMe, if_pos (.inl a1)]
    clear HMe
    obtain ⟨kd, md, us, gr, lk, ti, dt, tg, ls, pa⟩ := n
    obtain ⟨u, g, mk, dr⟩ := e
    unfold na ea
    go_enter Try.func12, Try.ntmps12
    go_wp2
    go_ret
    exact ⟨rfl, b2 _ _ _⟩
  by_cases a2 : 7 < what
  · obtain rfl : M = false := by rw [unhide HMe, if_pos (.inr (.inl a2))]
    clear HMe
    obtain ⟨kd, md, us, gr, lk, ti, dt, tg, ls, pa⟩ := n
    obtain ⟨u, g, mk, dr⟩ := e
    unfold na ea
    go_enter Try.func12, Try.ntmps12
    go_wp2
    go_ret
    exact ⟨rfl, b2 _ _ _⟩
  by_cases a3 : n.kind = 0
  · obtain rfl : M = false := by rw [unhide HMe, if_pos (.inr (.inr a3))]
    clear HMe
    obtain ⟨kd, md, us, gr, lk, ti, dt, tg, ls, pa⟩ := n
    simp only at a3
    subst a3
    obtain ⟨u, g, mk, dr⟩ := e
    unfold na ea
    go_enter Try.func12, Try.ntmps12
    go_wp2
    go_ret
    exact ⟨rfl, b2 _ _ _⟩
  rw [if_neg (fun h => h.elim a1 fun h => h.elim a2 a3)] at HMe
  have hk : (((n.kind.toNat : Nat) : Int) == 0) = false := by have := kd_ne n.kind 0 a3; simpa using this
  obtain ⟨a, rfl⟩ : ∃ a : Nat, what = (a : Int) := ⟨what.toNat, by omega⟩
  have ha : a < 8 := by omega
  by_cases a4 : e.user = 0
  · rw [if_pos a4] at HMe
    by_cases a5 : (a : Int) % 2 = 0
    · obtain rfl : M = true := by rw [unhide HMe]; simp only [a5, decide_true, Bool.true_or]
      have h1 : (bits .and .i64 (a : Int) 1 == 0) = true := by rw [and1, a5]; rfl
      clear HMe a5 a3
      obtain ⟨kd, md, us, gr, lk, ti, dt, tg, ls, pa⟩ := n
      obtain ⟨u, g, mk, dr⟩ := e
      simp only at a4 hk
      subst a4
      unfold na ea
      go_enter Try.func12, Try.ntmps12
      go_wp2
      go_ret
      exact ⟨rfl, b2 _ _ _⟩
    have h1 : (bits .and .i64 (a : Int) 1 == 0) = false := by rw [and1]; exact decide_eq_false a5
    have hd : decide ((a : Int) % 2 = 0) = false := decide_eq_false a5
    rw [hd, Bool.false_or] at HMe
    by_cases a6 : n.kind = 1
    · have HM2 : Hid (M = (bits .and .i64 n.mode 73 != 0)) := by show M = _; rw [unhide HMe, a6]; rfl
      clear HMe a5 a3 hd
      obtain ⟨kd, md, us, gr, lk, ti, dt, tg, ls, pa⟩ := n
      obtain ⟨u, g, mk, dr⟩ := e
      simp only at a4 a6 hk HM2
      subst a4 a6
      unfold na ea
      clear hk
      go_enter Try.func12, Try.ntmps12
      go_wp2
      go_ret
      exact ⟨ret_b (unhide HM2).symm, b2 _ _ _⟩
    · obtain rfl : M = true := by rw [unhide HMe]; simp [a6]
      have hk1 : (((n.kind.toNat : Nat) : Int) != 1) = true := by have := kd_ne n.kind 1 a6; simpa using this
      clear HMe a5 a3 hd a6
      obtain ⟨kd, md, us, gr, lk, ti, dt, tg, ls, pa⟩ := n
      obtain ⟨u, g, mk, dr⟩ := e
      simp only at a4 hk hk1
      subst a4
      unfold na ea
      go_enter Try.func12, Try.ntmps12
      go_wp2
      go_ret
      exact ⟨rfl, b2 _ _ _⟩
  · rw [if_neg a4] at HMe
    have hB8 := bitsP_lt n e
    have HM2 : Hid ((bits .and .i64 ((bitsP n e : Nat) : Int) (a : Int) == (a : Int)) = M) := by
      show _ = M
      rw [and8 a ha _ hB8, unhide HMe]; rfl
    clear HMe a3
    by_cases c1 : e.user = n.user
    · have HB : Hid (bits .and .i64 (n.mode / 64) 7 = ((bitsP n e : Nat) : Int)) := by show _ = _; rw [Mo.and7]; simp only [bitsP, c1, if_true]; omega
      rw [← unhide HB] at HM2
      clear HB hB8
      obtain ⟨kd, md, us, gr, lk, ti, dt, tg, ls, pa⟩ := n
      obtain ⟨u, g, mk, dr⟩ := e
      simp only at a4 hk HM2 c1
      have h0 : (u == 0) = false := by simpa using a4
      subst c1
      clear a4
      unfold na ea
      go_enter Try.func12, Try.ntmps12
      go_wp2
      go_ret
      exact ⟨ret_b (unhide HM2), b2 _ _ _⟩
    by_cases c2 : e.group = n.group
    · have HB : Hid (bits .and .i64 (n.mode / 8) 7 = ((bitsP n e : Nat) : Int)) := by show _ = _; rw [Mo.and7]; simp only [bitsP, c1, c2, if_true, if_false]; omega
      rw [← unhide HB] at HM2
      clear HB hB8
      obtain ⟨kd, md, us, gr, lk, ti, dt, tg, ls, pa⟩ := n
      obtain ⟨u, g, mk, dr⟩ := e
      simp only at a4 hk HM2 c1 c2
      have h0 : (u == 0) = false := by simpa using a4
      have h1 : (u == us) = false := by simpa using c1
      subst c2
      clear a4 c1
      unfold na ea
      go_enter Try.func12, Try.ntmps12
      go_wp2
      go_ret
      exact ⟨ret_b (unhide HM2), b2 _ _ _⟩
    · have HB : Hid (bits .and .i64 n.mode 7 = ((bitsP n e : Nat) : Int)) := by show _ = _; rw [Mo.and7]; simp only [bitsP, c1, c2, if_false]; omega
      rw [← unhide HB] at HM2
      clear HB hB8
      obtain ⟨kd, md, us, gr, lk, ti, dt, tg, ls, pa⟩ := n
      obtain ⟨u, g, mk, dr⟩ := e
      simp only at a4 hk HM2 c1 c2
      have h0 : (u == 0) = false := by simpa using a4
      have h1 : (u == us) = false := by simpa using c1
      have h2 : (g == gr) = false := by simpa using c2
      clear a4 c1 c2
      unfold na ea
      go_enter Try.func12, Try.ntmps12
      go_wp2
      go_ret
      exact ⟨ret_b (unhide HM2), b2 _ _ _⟩
end Go.Proofs.Ytngljliollbcnaa.Pm
