/- What keepChange leaves: the Book holds one list of changes more; marks of changes. -/
import Derived.Test.YtijknodbaddelaaGreatDoorBookKeep
namespace Go.Proofs.YtijknodbaddelaaGreatDoor.Bk
open Go.RowKit

/-- the mark m of a change -/
def rm (m : Nat) : Int := -1000 - (m : Int)
set_option maxHeartbeats 400000 in
theorem markChange_any (m : Nat) (w : World) (h : m < 10) :
    Calls Tryz.prog 66 #[.int .i64 m] w fun e w' => e = .returned (.agg #[.int .i64 0, .int .u8 0, .int .i64 (rm m), .int .u8 0, .bool false]) ∧ Below w.heap.size w w' := by
  have h1 : (m : Int) < 10 := by omega
  unfold rm
  go_enter Tryz.func66, Tryz.ntmps66
  go_wp2
  exact bodyPost_ret (v := .agg #[.int .i64 0, .int .u8 0, .int .i64 (-1000 - (m : Int)), .int .u8 0, .bool false]) (by simp [results, Tryz.results66, go_sem]) rfl ⟨rfl, by repeat (first | exact Below.refl _ _ | apply Below.setCell | apply Below.alloc | simp)⟩
set_option maxHeartbeats 400000 in
theorem isChange_any (m : Nat) (w : World) (h : m < 10) :
    Calls Tryz.prog 78 #[.agg #[.int .i64 0, .int .u8 0, .int .i64 (rm m), .int .u8 0, .bool false], .int .i64 m] w fun e w' => e = .returned (.bool true) ∧ Below w.heap.size w w' := by
  have h1 : (m : Int) < 10 := by omega
  unfold rm
  go_enter Tryz.func78, Tryz.ntmps78
  go_wp2
  go_ret
  exact ⟨rfl, by repeat (first | exact Below.refl _ _ | apply Below.setCell | apply Below.alloc | simp)⟩

theorem Tryz.infoHeldChange : (Tryz.prog.info? 66).map (fun i => (i.zero, i.size, i.bytes)) = some (some (.agg #[.slice none 0 0, .slice none 0 0, .int .i64 0]), 3, 56) := by kernel_rfl
theorem Tryz.infoListChange : Tryz.prog.underlying 37 = some (.slice 66) := by kernel_rfl

set_option maxHeartbeats 1000000 in
set_option maxRecDepth 100000 in
theorem keepChange_any (B P : Nat) (n k : Nat) (u : Value) (cur hc : List Value) (la : Option Addr) (ll lc : Nat) (w : World) (hB : Own w P cur) (h0 : cur[0]? = some (.int .i64 n)) (h3 : cur[8]? = some u) (hu : w.ownsRow B 66 3 u k hc)
    (hBs : B ≤ w.heap.size) (hn : n ≤ 1000000) (hk : k ≤ 1000000) :
    Calls Tryz.prog 16 #[.pointer (some ⟨P, 0, none⟩), .slice la ll lc] w fun e w' => e = .returned (.tuple #[]) ∧ ∃ u', Own w' P ((cur.set 0 (.int .i64 ((n + 1 : Nat) : Int))).set 8 u') ∧
      w'.ownsRow B 66 3 u' (k + 1) (hc ++ [.slice la ll lc, .slice none 0 0, .int .i64 ((n + 1 : Nat) : Int)]) ∧ Touch (fun b => b = P ∨ u.ownBlock = some b) w w' := by
  obtain ⟨i0, hi, hz0, hz1, hz2⟩ := info_parts Tryz.infoHeldChange
  have ek : ((n + 1 : Nat) : Int) = (n : Int) + 1 := by omega
  rw [ek]
  clear ek
  have c0 : w.cell? ⟨P, 0, none⟩ = some (.int .i64 n) := (hB.cellAt 0 (by omega)).trans h0
  have c3 : w.cell? ⟨P, 8, none⟩ = some u := (hB.cellAt 8 (by omega)).trans h3
  have f0 := hB.frozenAt 0
  have f3 := hB.frozenAt 8
  obtain ⟨hB1, hg1⟩ := hB.stored 0 (.int .i64 ((n : Int) + 1))
  have hne : ∀ j, u.ownBlock = some j → j = P → False := fun j hj e => own_ne hu hB (by decide) j hj (by subst e; rfl)
  have hu1 := hu.kept hg1 (by
    cases hv : u.ownBlock with
    | none => exact .inl rfl
    | some j => exact .inr (fun e => hne j hv (by simpa using e)))
  have hl3 : 3 < cur.length := by rw [hB.1]; omega
  obtain ⟨ua, uc, rfl⟩ := own_shape hu
  have HC3 : Hid ((cur.set 0 (.int .i64 ((n : Int) + 1)))[8]? = some (.slice ua k uc)) := by show _ = _; rw [List.getElem?_set_ne (by decide)]; exact h3
  have HB1 := hide hB1
  have hPlt : P < w.heap.size := (own_block hB P rfl).1
  have HU1 := hide hu1
  have HNE := hide hne
  have HT1 : Hid (Touch (fun b => b = P ∨ (Value.slice ua k uc).ownBlock = some b) w (w.setCell ⟨P, 0, none⟩ (.int .i64 ((n : Int) + 1)))) := (Touch.refl _ w).setCell (fun _ => .inl rfl) _
  clear hB hu hB1 hg1 hu1 hne h0 h3
  go_enter Tryz.func16, Tryz.ntmps16
  go_wp2
  go_region_law (refine step_append_own rfl (.tmp 15) (.tmp 22) 37 rfl B 66 i0 _ 3 56 Tryz.infoListChange hi hz0 hz1 hz2 rfl (by decide) (.slice ua k uc) k hc (by simp [Act.eval]) (by exact ((unhide HU1).alloc _)) ⟨w.heap.size, 0, none⟩ 1 1 [.slice la ll lc, .slice none 0 0, .int .i64 ((n : Int) + 1)] (by simp [Act.eval]) rfl (by exact triple_new _ _ (by simp) _ _ _ _) (triple_one _ _ _ _ _ _ _ _) (by unfold maxLen; omega) (by omega) (by simp; omega) ?_; intro v1 w2 hown2 hg2; obtain ⟨va, vc, rfl⟩ := own_shape hown2; (have hB2 : Own w2 P (cur.set 0 (.int .i64 ((n : Int) + 1))) := by exact kept_heap (unhide HB1) hg2 _ rfl (fun j hj e => unhide HNE j e (Option.some.inj hj).symm)); have c3' := (hB2.cellAt 8 (by omega)).trans (unhide HC3); have f3' := hB2.frozenAt 8; have HB2 := hide hB2; have HO2 := hide hown2; have HG2 := hide hg2; clear hB2 hown2 hg2)
  all_goals
    go_wp2
    go_end0
    obtain ⟨e1, e2⟩ := keep_end (f := 8) (unhide HB2) (unhide HO2) (by decide)
    exact ⟨rfl, _, e1, e2, (touch_step (unhide HT1) (unhide HG2) _ rfl rfl rfl rfl (fun j hj _ => .inr hj)).setCell (fun _ => .inl rfl) _⟩
set_option maxHeartbeats 400000 in
theorem Changes_any (B P : Nat) (n k : Nat) (u : Value) (cur hc : List Value) (la : Option Addr) (ll lc : Nat) (w : World) (hB : Own w P cur) (h0 : cur[0]? = some (.int .i64 n)) (h3 : cur[8]? = some u) (hu : w.ownsRow B 66 3 u k hc)
    (hBs : B ≤ w.heap.size) (hn : n ≤ 1000000) (hk : k ≤ 1000000) :
    Calls Tryz.prog 10 #[.pointer (some ⟨P, 0, none⟩), .slice la ll lc] w fun e w' => e = .returned (.tuple #[]) ∧ ∃ u', Own w' P ((cur.set 0 (.int .i64 ((n + 1 : Nat) : Int))).set 8 u') ∧
      w'.ownsRow B 66 3 u' (k + 1) (hc ++ [.slice la ll lc, .slice none 0 0, .int .i64 ((n + 1 : Nat) : Int)]) ∧ Touch (fun b => b = P ∨ u.ownBlock = some b) w w' := by
  have HC := hide (keepChange_any B P n k u cur hc la ll lc w hB h0 h3 hu hBs hn hk)
  clear hB h0 h3 hu
  go_enter Tryz.func10, Tryz.ntmps10
  go_wp2_with fail
  refine (unhide HC).mono ?_
  rintro e w' ⟨rfl, h⟩
  have H := hide h
  clear h
  go_wp2_with fail
  go_end0
  exact ⟨rfl, unhide H⟩
end Go.Proofs.YtijknodbaddelaaGreatDoor.Bk
