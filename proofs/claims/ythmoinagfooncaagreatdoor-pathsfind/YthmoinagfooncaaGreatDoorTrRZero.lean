/- What the document's zero answers. -/
import Derived.Test.YthmoinagfooncaaGreatDoorTrMay
namespace Go.Proofs.YthmoinagfooncaaGreatDoor.Tr
open Go.RowKit Go.Proofs.YthmoinagfooncaaGreatDoor.Cu

/-- a node that is free, and says so -/
def zeroP (n : Nd) : Bool := decide (n.kind = 0) && freeP n
set_option maxRecDepth 100000 in
set_option maxHeartbeats 2000000 in
theorem rzero_any (n : Nd) (da : Option Addr) (dl dc : Nat) (la : Option Addr) (ll lc : Nat) (w : World) (hd : n.data.length = dl) (hl : n.list.length = ll) : Calls Tryz.prog 57 #[.agg (na n (.slice da dl dc) (.slice la ll lc))] w fun e w' => e = .returned (.bool (zeroP n)) ∧ Below w.heap.size w w' := by
  have HB1 : Hid (∀ o, Below w.heap.size w (w.alloc o)) := fun o => (Below.refl _ w).alloc (Nat.le_refl _) o
  have hP : zeroP n = (decide (n.kind = 0) && (decide (n.mode = 0) && decide (n.user = 0) && decide (n.group = 0) && decide (n.links = 0) && decide (n.time = 0) && decide (dl = 0) && emptyB n.target && (decide (ll = 0) && decide (n.parent = 0)))) := by rw [← hd, ← hl]; rfl
  rw [hP]
  clear hP
  obtain ⟨kd, md, us, gr, lk, ti, dt, tg, ls, pa⟩ := n
  unfold na at *
  simp only at hd hl ⊢
  clear hd hl
  by_cases ak : kd = 0
  case neg =>
    rw [show decide (kd = 0) = false by simp [ak]]
    simp only [Bool.false_and]
    have ak2 : ¬ (kd.toNat : Int) = 0 := fun h => ak (UInt8.toNat_inj.1 (by simpa using h))
    clear ak
    go_enter Tryz.func57, Tryz.ntmps57
    go_wp2
    go_ret
    exact ⟨rfl, unhide HB1 _⟩
  subst ak
  by_cases a0 : md = 0
  case neg =>
    rw [show decide (md = 0) = false by simp [a0]]
    simp only [Bool.false_and, Bool.and_false]
    go_enter Tryz.func57, Tryz.ntmps57
    go_wp2
    go_ret
    exact ⟨rfl, unhide HB1 _⟩
  subst a0
  by_cases a1 : us = 0
  case neg =>
    rw [show decide (us = 0) = false by simp [a1]]
    simp only [Bool.false_and, Bool.and_false]
    go_enter Tryz.func57, Tryz.ntmps57
    go_wp2
    go_ret
    exact ⟨rfl, unhide HB1 _⟩
  subst a1
  by_cases a2 : gr = 0
  case neg =>
    rw [show decide (gr = 0) = false by simp [a2]]
    simp only [Bool.false_and, Bool.and_false]
    go_enter Tryz.func57, Tryz.ntmps57
    go_wp2
    go_ret
    exact ⟨rfl, unhide HB1 _⟩
  subst a2
  by_cases a3 : lk = 0
  case neg =>
    rw [show decide (lk = 0) = false by simp [a3]]
    simp only [Bool.false_and, Bool.and_false]
    go_enter Tryz.func57, Tryz.ntmps57
    go_wp2
    go_ret
    exact ⟨rfl, unhide HB1 _⟩
  subst a3
  by_cases a4 : ti = 0
  case neg =>
    rw [show decide (ti = 0) = false by simp [a4]]
    simp only [Bool.false_and, Bool.and_false]
    go_enter Tryz.func57, Tryz.ntmps57
    go_wp2
    go_ret
    exact ⟨rfl, unhide HB1 _⟩
  subst a4
  by_cases a6 : dl = 0
  case neg =>
    rw [show decide (dl = 0) = false by simp [a6]]
    simp only [Bool.false_and, Bool.and_false]
    have a7 : ¬ (dl : Int) = 0 := by omega
    clear a6
    go_enter Tryz.func57, Tryz.ntmps57
    go_wp2
    go_ret
    exact ⟨rfl, unhide HB1 _⟩
  subst a6
  by_cases a8 : tg.size = 0
  case neg =>
    rw [emptyB_no a8]
    simp only [Bool.false_and, Bool.and_false]
    have a9 := empty_no a8
    clear a8
    go_enter Tryz.func57, Tryz.ntmps57
    go_wp2
    go_ret
    exact ⟨rfl, unhide HB1 _⟩
  obtain rfl := empty_is a8
  by_cases b6 : ll = 0
  case neg =>
    rw [show decide (ll = 0) = false by simp [b6]]
    simp only [Bool.false_and, Bool.and_false]
    have b7 : ¬ (ll : Int) = 0 := by omega
    clear b6
    go_enter Tryz.func57, Tryz.ntmps57
    go_wp2
    go_ret
    exact ⟨rfl, unhide HB1 _⟩
  subst b6
  by_cases b8 : pa = 0
  case neg =>
    rw [show decide (pa = 0) = false by simp [b8]]
    simp only [Bool.and_false]
    go_enter Tryz.func57, Tryz.ntmps57
    go_wp2
    go_ret
    exact ⟨by simp [b8], unhide HB1 _⟩
  subst b8
  go_enter Tryz.func57, Tryz.ntmps57
  go_wp2
  go_ret
  exact ⟨rfl, unhide HB1 _⟩
end Go.Proofs.YthmoinagfooncaaGreatDoor.Tr
