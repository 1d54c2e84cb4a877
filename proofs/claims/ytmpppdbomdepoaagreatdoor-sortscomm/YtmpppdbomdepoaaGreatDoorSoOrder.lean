/- Items as lines; items in order. -/
import Derived.Test.YtmpppdbomdepoaaGreatDoorSoItems
namespace Go.Proofs.YtmpppdbomdepoaaGreatDoor.So
open Go.RowKit Go.Shelf Ky
open Pa (Tx)

attribute [local go_sem] Oper.semAt_some

/-- the first k lines of items -/
def lnTo (L : List It) (k : Nat) : List Value := (List.range L.length).map fun i => if i < k then .string (L.getD i it0).line else .string ByteArray.empty
theorem lnTo_len (L : List It) (k : Nat) : (lnTo L k).length = L.length := by simp [lnTo]
theorem lnTo_zero (L : List It) : lnTo L 0 = List.replicate L.length (.string ByteArray.empty) := by
  apply List.ext_getElem
  · simp [lnTo]
  · intro i h1 h2; simp [lnTo]
theorem lnTo_all (L : List It) (k : Nat) (h : L.length ≤ k) : lnTo L k = strs (L.map It.line) := by
  apply List.ext_getElem
  · simp [lnTo, strs]
  · intro i h1 h2
    have hi : i < L.length := by simpa [lnTo] using h1
    simp [lnTo, strs, show i < k by omega, List.getElem?_eq_getElem hi]
theorem lnTo_step (L : List It) (k : Nat) : (lnTo L k).set k (.string (L.getD k it0).line) = lnTo L (k + 1) := by
  apply List.ext_getElem
  · simp [lnTo]
  · intro i h1 h2
    have hi : i < L.length := by simpa [lnTo] using h2
    rw [List.getElem_set]
    by_cases e : k = i
    · subst e; simp [lnTo]
    · rw [if_neg e]
      simp only [lnTo, List.getElem_map, List.getElem_range]
      by_cases h3 : i < k
      · rw [if_pos h3, if_pos (by omega)]
      · rw [if_neg h3, if_neg (by omega)]
theorem lnTo_at (L : List It) (k : Nat) (h : k < L.length) : (lnTo L k)[k]? = some (.string ByteArray.empty) := by
  simp [lnTo, List.getElem?_range h]

set_option maxRecDepth 100000 in
set_option maxHeartbeats 400000 in
theorem linesOf_any (L : List It) (g cap : Nat) (w : World) (hR : Row3 g cap w L) (hl : L.length ≤ 65536) :
    Calls Tryz.prog 24 #[.slice (some ⟨g, 0, none⟩) L.length cap] w fun e w' => ∃ v, e = .returned v ∧ w'.ownsRow w.heap.size 9 1 v L.length (strs (L.map It.line)) ∧ Below w.heap.size w w' := by
  obtain ⟨i0, hi, hz0, hz1, hz2⟩ := info_parts Pa.Tryz.infoStr
  have hse : Hid (L.length ≤ maxLen) := by unfold maxLen; show L.length ≤ _; omega
  have hgl := hR.lt
  have HR := hide hR
  clear hR
  go_enter Tryz.func24, Tryz.ntmps24
  go_wp2_with (at_make; refine wpList_make_full _ rfl _ _ 25 rfl w.heap.size 9 i0 _ 1 Tryz.underlying25 hi hz0 hz1 _ _ _ _ L.length rfl rfl rfl rfl (by rw [hz2]; omega) (unhide hse) (Nat.le_refl _) ?_; intro w1 hown1 hgrow1)
  have hO1 : Hid (w1.ownsRow w.heap.size 9 1 (.slice (some ⟨w.heap.size, 0, none⟩) L.length L.length) L.length (lnTo L 0)) := by
    have q := hown1
    rw [Nat.mul_one, show (Value.string ByteArray.empty).cells = #[.string ByteArray.empty] from rfl, toList_madeCells_one, ← lnTo_zero] at q
    exact q
  have hB1 : Hid (Below w.heap.size w w1) := (Below.refl _ _).grown hgrow1 (Nat.le_refl _) (by simp)
  clear hown1 hgrow1 hi hz0 hz1 hz2 hse
  go_loopw [11] (fun i wr => ∃ k : Nat, k ≤ L.length ∧ i = .int .i64 k ∧ Hid (wr.ownsRow w.heap.size 9 1 (.slice (some ⟨w.heap.size, 0, none⟩) L.length L.length) L.length (lnTo L k)) ∧ Hid (Below w.heap.size w wr)) (fun i _ => L.length - (intOf i).toNat)
  case atStart => exact ⟨0, Nat.zero_le _, rfl, hO1, hB1⟩
  case round =>
    clear hO1 hB1
    obtain ⟨k, hk, rfl, hO, hB⟩ := hrel
    by_cases hlt : k < L.length
    · obtain ⟨d0, d1, d2⟩ := ((unhide HR).keep ((unhide hB).block _ hgl)).cells hlt
      have hoc := ((unhide hO).cellAt k (by omega)).trans (lnTo_at L k hlt)
      have hof := (unhide hO).frozenAt k
      have hst := ((unhide hO).stored k (.string (L.getD k it0).line)).1
      rw [lnTo_step] at hst
      have hzs : w.heap.size < wr.heap.size := by have := (unhide hO).lt w.heap.size rfl; exact this.2
      have hgz : g < wr.heap.size := by omega
      generalize L.getD k it0 = x at *
      obtain ⟨xl, xk, xp⟩ := x
      simp only at d0 d1 d2 hst
      have hO2 : Hid (((wr.setCell ⟨w.heap.size, k, none⟩ (.string xl)).alloc (.cells #[.string xl, .string xk, .int .i64 xp] 66)).ownsRow w.heap.size 9 1 (.slice (some ⟨w.heap.size, 0, none⟩) L.length L.length) L.length (lnTo L (k + 1))) := own_below hst ((Below.refl _ _).alloc (Nat.le_refl _) _)
      have hB2 : Hid (Below w.heap.size w ((wr.setCell ⟨w.heap.size, k, none⟩ (.string xl)).alloc (.cells #[.string xl, .string xk, .int .i64 xp] 66))) := ((unhide hB).setCell (p := ⟨w.heap.size, k, none⟩) (Nat.le_refl _) _).alloc (by simp [World.setCell]; omega) _
      clear hst hO hB
      go_wp2_with fail
      go_roundw
      case rel => exact ⟨k + 1, by omega, by go_num, hO2, hB2⟩
      case measure => simp [intOf]; omega
    · rw [lnTo_all L k (by omega)] at hO
      go_wp2_with fail
      go_ret
      exact ⟨_, rfl, unhide hO, unhide hB⟩
end Go.Proofs.YtmpppdbomdepoaaGreatDoor.So
