/- What count answers: how often a line stands among lines. -/
import Derived.Test.YtmpppdbomdepoaaGreatDoorSoList
import Derived.Test.YtmpppdbomdepoaaGreatDoorKyBase
import Derived.Deep.LoopGhost
namespace Go.Proofs.YtmpppdbomdepoaaGreatDoor.So
open Go.RowKit Go.Shelf Ky
open Pa (Tx)

attribute [local go_sem] Oper.semAt_some

/-- how often -/
def cnt (A : Ls) (s : ByteArray) : Nat := A.countP (fun y => decide (y = s))
theorem cnt_take (A : Ls) (s : ByteArray) (k : Nat) (h : k < A.length) : cnt (A.take (k + 1)) s = cnt (A.take k) s + (if A.getD k ByteArray.empty = s then 1 else 0) := by
  have e : A.take (k + 1) = A.take k ++ [A.getD k ByteArray.empty] := by
    rw [List.take_succ_eq_append_getElem h]; simp [List.getD, List.getElem?_eq_getElem h]
  unfold cnt
  rw [e, List.countP_append]
  simp [List.countP_cons]
theorem cnt_le (A : Ls) (s : ByteArray) : cnt A s ≤ A.length := List.countP_le_length

set_option maxRecDepth 100000 in
set_option maxHeartbeats 400000 in
theorem count_any (A : Ls) (s : ByteArray) (a : Option Addr) (la ca : Nat) (w : World) (hT : Tx w a la ca A) (hl : la ≤ 4611686018427387904) :
    Calls Tryz.prog 18 #[.slice a la ca, .string s] w fun e w' => e = .returned (.int .i64 (cnt A s : Nat)) ∧ Below w.heap.size w w' := by
  have HL := hide hT.len
  have HT := hide hT
  clear hT
  go_enter Tryz.func18, Tryz.ntmps18
  go_wp2_with fail
  go_loopg [5, 6] la (fun g v5 v6 wr => ∃ k : Nat, k ≤ la ∧ g = la - k ∧ v5 = .int .i64 (cnt (A.take k) s : Nat) ∧ v6 = .int .i64 (k : Int) ∧ Hid (Below w.heap.size w wr))
  case atStart => exact ⟨0, Nat.zero_le _, rfl, rfl, rfl, Below.refl _ _⟩
  case round =>
    obtain ⟨k, hk, rfl, rfl, rfl, hB⟩ := hrel
    by_cases hlt : k < la
    · have hlt' : (k : Int) < (la : Int) := by omega
      have hkA : k < A.length := by rw [unhide HL]; exact hlt
      obtain ⟨g, off, hg0, hgl, ci⟩ := tx_at (unhide HT) hlt
      subst hg0
      have hst := cnt_take A s k hkA
      obtain ⟨x, hx⟩ : ∃ x, x = A.getD k ByteArray.empty := ⟨_, rfl⟩
      rw [← hx] at ci hst
      have cx := ((unhide hB).cell (p := ⟨g, off + k, none⟩) hgl).trans ci
      have hcl : cnt (A.take k) s ≤ k := by have := cnt_le (A.take k) s; rw [List.length_take] at this; omega
      generalize cnt (A.take k) s = n at *
      have HST := hide hst
      clear hst hx ci
      by_cases hxs : x = s
      · have he : (x.toList == s.toList) = true := by rw [hxs]; simp
        have hst2 : cnt (A.take (k + 1)) s = n + 1 := by rw [unhide HST, if_pos hxs]
        have HS2 := hide hst2
        clear HST hst2 hxs
        go_wp2_with fail
        go_roundg (la - (k + 1))
        case measure => omega
        case rel => exact ⟨k + 1, by omega, rfl, by rw [unhide HS2]; go_num, by go_num, hB⟩
      · have he : (x.toList == s.toList) = false := by
          rw [ByteArray.toList_eq, ByteArray.toList_eq]
          simp
          intro q; exact hxs (by cases x; cases s; simp at q; rw [q])
        have hst2 : cnt (A.take (k + 1)) s = n := by rw [unhide HST, if_neg hxs]; rfl
        have HS2 := hide hst2
        clear HST hst2 hxs
        go_wp2_with fail
        go_roundg (la - (k + 1))
        case measure => omega
        case rel => exact ⟨k + 1, by omega, rfl, by rw [unhide HS2], by go_num, hB⟩
    · have hlt' : ¬ (k : Int) < (la : Int) := by omega
      obtain rfl : k = la := by omega
      have hR : Hid (cnt A s = cnt (A.take k) s) := by show _ = _; rw [List.take_of_length_le (by rw [unhide HL]; exact Nat.le_refl _)]
      go_wp2_with fail
      go_ret
      exact ⟨by rw [unhide hR]; rfl, unhide hB⟩
end Go.Proofs.YtmpppdbomdepoaaGreatDoor.So
