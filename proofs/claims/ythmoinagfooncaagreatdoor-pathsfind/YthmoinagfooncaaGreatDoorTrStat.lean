/- What Sizes, sizeOf and Stat answer. -/
import Derived.Test.YthmoinagfooncaaGreatDoorTrTells
namespace Go.Proofs.YthmoinagfooncaaGreatDoor.Tr
open Go.RowKit Go.Proofs.YthmoinagfooncaaGreatDoor.Cu

def nodesN (ns : List Nd) (k : Nat) : Nat := ((ns.take k).filter fun n => decide (n.kind ≠ 0)).length
theorem nodesN_succ (ns : List Nd) (k : Nat) (h : k < ns.length) : nodesN ns (k + 1) = nodesN ns k + (if (nd ns k).kind = 0 then 0 else 1) := by
  unfold nodesN; rw [take_nd ns k h, List.filter_append, List.length_append]
  by_cases e : (nd ns k).kind = 0
  · simp [e]
  · simp [e]
theorem nodesN_le (ns : List Nd) (k : Nat) : nodesN ns k ≤ k := by
  unfold nodesN
  exact Nat.le_trans (List.length_filter_le _ _) (by rw [List.length_take]; omega)
def sizesV (now : Int) (ns : List Nd) : Value := if checkP now ns then .tuple #[.int .i64 (nodesN ns ns.length), .int .i64 (bytesP ns ns.length)] else .tuple #[.int .i64 0, .int .i64 0]
def sizeP (n : Nd) : Nat := if n.kind = 1 then n.data.length else if n.kind = 2 then n.list.length else if n.kind = 3 then n.target.size else 0
set_option maxRecDepth 100000 in
set_option maxHeartbeats 1000000 in
theorem sizeOf_any (n : Nd) (da : Option Addr) (dl dc : Nat) (la : Option Addr) (ll lc : Nat) (w : World) (hd : n.data.length = dl) (hl : n.list.length = ll) :
    Calls Tryz.prog 72 #[.agg (na n (.slice da dl dc) (.slice la ll lc))] w fun e w' => e = .returned (.int .i64 (sizeP n)) ∧ w' = w.alloc (nO n (.slice da dl dc) (.slice la ll lc)) := by
  unfold sizeP
  rw [hd, hl]
  clear hd hl
  obtain ⟨kd, md, us, gr, lk, ti, dt, tg, ls, pa⟩ := n
  unfold nO na
  simp only
  by_cases a1 : kd = 1
  · subst a1
    go_enter Tryz.func72, Tryz.ntmps72
    go_wp2
    go_ret
    exact ⟨rfl, rfl⟩
  by_cases a2 : kd = 2
  · subst a2
    go_enter Tryz.func72, Tryz.ntmps72
    go_wp2
    go_ret
    exact ⟨rfl, rfl⟩
  by_cases a3 : kd = 3
  · subst a3
    go_enter Tryz.func72, Tryz.ntmps72
    go_wp2
    go_ret
    exact ⟨rfl, rfl⟩
  rw [if_neg a1, if_neg a2, if_neg a3]
  have b1 : ¬ (kd.toNat : Int) = 1 := fun e => a1 (UInt8.toNat_inj.1 (by show kd.toNat = 1; omega))
  have b2 : ¬ (kd.toNat : Int) = 2 := fun e => a2 (UInt8.toNat_inj.1 (by show kd.toNat = 2; omega))
  have b3 : ¬ (kd.toNat : Int) = 3 := fun e => a3 (UInt8.toNat_inj.1 (by show kd.toNat = 3; omega))
  go_enter Tryz.func72, Tryz.ntmps72
  go_wp2
  go_ret
  exact ⟨rfl, rfl⟩
end Go.Proofs.YthmoinagfooncaaGreatDoor.Tr
