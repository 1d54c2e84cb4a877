/- What keepByte leaves: the Book holds one list of bytes more; marks of bytes. -/
import Derived.Test.YtbofidpoajdcmaaGreatDoorBookKeep
namespace Go.Proofs.YtbofidpoajdcmaaGreatDoor.Bk
open Go.RowKit

/-- the mark m of a byte -/
def bm (m : Nat) : Int := 1 + (m : Int)
set_option maxHeartbeats 400000 in
theorem markByte_any (m : Nat) (w : World) (h : m < 100) :
    Calls Tryz.prog 98 #[.int .i64 m] w fun e w' => e = .returned (.int .u8 (bm m)) ∧ w' = w := by
  have h1 : (m : Int) < 100 := by omega
  have h2 : (m : Int) % 250 = m := by omega
  unfold bm
  go_enter Tryz.func98, Tryz.ntmps98
  go_wp2
  go_ret
  exact ⟨rfl, rfl⟩
set_option maxHeartbeats 400000 in
theorem isByte_any (m : Nat) (w : World) (h : m < 100) :
    Calls Tryz.prog 110 #[.int .u8 (bm m), .int .i64 m] w fun e w' => e = .returned (.bool true) ∧ w' = w := by
  have h1 : (m : Int) < 100 := by omega
  have h2 : (m : Int) % 250 = m := by omega
  unfold bm
  go_enter Tryz.func110, Tryz.ntmps110
  go_wp2
  go_ret
  exact ⟨rfl, rfl⟩

theorem Tryz.infoHeldByte : (Tryz.prog.info? 114).map (fun i => (i.zero, i.size, i.bytes)) = some (some (.agg #[.slice none 0 0, .slice none 0 0, .int .i64 0]), 3, 56) := by kernel_rfl
theorem Tryz.infoListByte : Tryz.prog.underlying 36 = some (.slice 114) := by kernel_rfl

set_option maxHeartbeats 1000000 in
set_option maxRecDepth 100000 in
theorem keepByte_any (B P : Nat) (n k : Nat) (u : Value) (cur hc : List Value) (la : Option Addr) (ll lc : Nat) (w : World) (hB : Own w P cur) (h0 : cur[0]? = some (.int .i64 n)) (h3 : cur[1]? = some u) (hu : w.ownsRow B 114 3 u k hc)
    (hBs : B ≤ w.heap.size) (hn : n ≤ 1000000) (hk : k ≤ 1000000) :
    Calls Tryz.prog 40 #[.pointer (some ⟨P, 0, none⟩), .slice la ll lc] w fun e w' => e = .returned (.tuple #[]) ∧ ∃ u', Own w' P ((cur.set 0 (.int .i64 ((n + 1 : Nat) : Int))).set 1 u') ∧
      w'.ownsRow B 114 3 u' (k + 1) (hc ++ [.slice la ll lc, .slice none 0 0, .int .i64 ((n + 1 : Nat) : Int)]) ∧ Touch (fun b => b = P ∨ u.ownBlock = some b) w w' := by
  obtain ⟨i0, hi, hz0, hz1, hz2⟩ := info_parts Tryz.infoHeldByte
  have ek : ((n + 1 : Nat) : Int) = (n : Int) + 1 := by omega
  rw [ek]
  clear ek
  have c0 : w.cell? ⟨P, 0, none⟩ = some (.int .i64 n) := (hB.cellAt 0 (by omega)).trans h0
  have c3 : w.cell? ⟨P, 1, none⟩ = some u := (hB.cellAt 1 (by omega)).trans h3
  have f0 := hB.frozenAt 0
  have f3 := hB.frozenAt 1
  obtain ⟨hB1, hg1⟩ := hB.stored 0 (.int .i64 ((n : Int) + 1))
  have hne : ∀ j, u.ownBlock = some j → j = P → False := fun j hj e => own_ne hu hB (by decide) j hj (by subst e; rfl)
  have hu1 := hu.kept hg1 (by
    cases hv : u.ownBlock with
    | none => exact .inl rfl
    | some j => exact .inr (fun e => hne j hv (by simpa using e)))
  have hl3 : 3 < cur.length := by rw [hB.1]; omega
  obtain ⟨ua, uc, rfl⟩ := own_shape hu
  have HC3 : Hid ((cur.set 0 (.int .i64 ((n : Int) + 1)))[1]? = some (.slice ua k uc)) := by show _ = _; rw [List.getElem?_set_ne (by decide)]; exact h3
  have HB1 := hide hB1
  have hPlt : P < w.heap.size := (own_block hB P rfl).1
  have HU1 := hide hu1
  have HNE := hide hne
  have HT1 : Hid (Touch (fun b => b = P ∨ (Value.slice ua k uc).ownBlock = some b) w (w.setCell ⟨P, 0, none⟩ (.int .i64 ((n : Int) + 1)))) := (Touch.refl _ w).setCell (fun _ => .inl rfl) _
  clear hB hu hB1 hg1 hu1 hne h0 h3
  go_enter Tryz.func40, Tryz.ntmps40
  go_wp2
  go_region_law (refine step_append_own rfl (.tmp 15) (.tmp 22) 36 rfl B 114 i0 _ 3 56 Tryz.infoListByte hi hz0 hz1 hz2 rfl (by decide) (.slice ua k uc) k hc (by simp [Act.eval]) (by exact ((unhide HU1).alloc _)) ⟨w.heap.size, 0, none⟩ 1 1 [.slice la ll lc, .slice none 0 0, .int .i64 ((n : Int) + 1)] (by simp [Act.eval]) rfl (by exact triple_new _ _ (by simp) _ _ _ _) (triple_one _ _ _ _ _ _ _ _) (by unfold maxLen; omega) (by omega) (by simp; omega) ?_; intro v1 w2 hown2 hg2; obtain ⟨va, vc, rfl⟩ := own_shape hown2; (have hB2 : Own w2 P (cur.set 0 (.int .i64 ((n : Int) + 1))) := by exact kept_heap (unhide HB1) hg2 _ rfl (fun j hj e => unhide HNE j e (Option.some.inj hj).symm)); have c3' := (hB2.cellAt 1 (by omega)).trans (unhide HC3); have f3' := hB2.frozenAt 1; have HB2 := hide hB2; have HO2 := hide hown2; have HG2 := hide hg2; clear hB2 hown2 hg2)
  all_goals
    go_wp2
    go_end0
    obtain ⟨e1, e2⟩ := keep_end (f := 1) (unhide HB2) (unhide HO2) (by decide)
    exact ⟨rfl, _, e1, e2, (touch_step (unhide HT1) (unhide HG2) _ rfl rfl rfl rfl (fun j hj _ => .inr hj)).setCell (fun _ => .inl rfl) _⟩

set_option maxHeartbeats 400000 in
theorem Bytes_any (B P : Nat) (n k : Nat) (u : Value) (cur hc : List Value) (la : Option Addr) (ll lc : Nat) (w : World) (hB : Own w P cur) (h0 : cur[0]? = some (.int .i64 n)) (h3 : cur[1]? = some u) (hu : w.ownsRow B 114 3 u k hc)
    (hBs : B ≤ w.heap.size) (hn : n ≤ 1000000) (hk : k ≤ 1000000) :
    Calls Tryz.prog 14 #[.pointer (some ⟨P, 0, none⟩), .slice la ll lc] w fun e w' => e = .returned (.tuple #[]) ∧ ∃ u', Own w' P ((cur.set 0 (.int .i64 ((n + 1 : Nat) : Int))).set 1 u') ∧
      w'.ownsRow B 114 3 u' (k + 1) (hc ++ [.slice la ll lc, .slice none 0 0, .int .i64 ((n + 1 : Nat) : Int)]) ∧ Touch (fun b => b = P ∨ u.ownBlock = some b) w w' := by
  have HC := hide (keepByte_any B P n k u cur hc la ll lc w hB h0 h3 hu hBs hn hk)
  clear hB h0 h3 hu
  go_enter Tryz.func14, Tryz.ntmps14
  go_wp2_with fail
  refine (unhide HC).mono ?_
  rintro e w' ⟨rfl, h⟩
  have H := hide h
  clear h
  go_wp2_with fail
  go_end0
  exact ⟨rfl, unhide H⟩
end Go.Proofs.YtbofidpoajdcmaaGreatDoor.Bk
