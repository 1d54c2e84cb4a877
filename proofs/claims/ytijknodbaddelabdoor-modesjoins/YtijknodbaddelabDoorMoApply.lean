/- What Apply answers. -/
import Derived.Test.YtijknodbaddelabDoorMoList
namespace Go.Proofs.YtijknodbaddelabDoor.Mo
open Go.RowKit

theorem UM.look3 {w : World} {b : Nat} (h : Deeds w b) (op : UInt8) :
    ((op ≠ 43 ∧ op ≠ 45 ∧ op ≠ 61) ∧ (Instr.lookup 44 (.map (some b)) (.int .u8 op.toNat) true).run Tryd.prog w = .ok (.tuple #[.nilFunc, .bool false]) w) ∨
    (op = 43 ∧ (Instr.lookup 44 (.map (some b)) (.int .u8 op.toNat) true).run Tryd.prog w = .ok (.tuple #[fv 27, .bool true]) w) ∨
    (op = 45 ∧ (Instr.lookup 44 (.map (some b)) (.int .u8 op.toNat) true).run Tryd.prog w = .ok (.tuple #[fv 28, .bool true]) w) ∨
    (op = 61 ∧ (Instr.lookup 44 (.map (some b)) (.int .u8 op.toNat) true).run Tryd.prog w = .ok (.tuple #[fv 29, .bool true]) w) := by
  rcases UM.look h op with ⟨hn, hr⟩ | ⟨j, v, hj, hv, hr⟩
  · refine .inl ⟨⟨fun e => hn 43 (by simp) e.symm, fun e => hn 45 (by simp) e.symm, fun e => hn 61 (by simp) e.symm⟩, hr⟩
  · match j, hj, hv with
    | 0, hj, hv => simp at hj hv; subst hv; exact .inr (.inl ⟨hj.symm, hr⟩)
    | 1, hj, hv => simp at hj hv; subst hv; exact .inr (.inr (.inl ⟨hj.symm, hr⟩))
    | 2, hj, hv => simp at hj hv; subst hv; exact .inr (.inr (.inr ⟨hj.symm, hr⟩))
    | n + 3, hj, _ => simp at hj
theorem doP_no {op : UInt8} (h : op ≠ 43 ∧ op ≠ 45 ∧ op ≠ 61) (m b r : Nat) : doP op m b r = m := by
  unfold doP; rw [if_neg h.1, if_neg h.2.1, if_neg h.2.2]
set_option maxHeartbeats 1000000 in
set_option maxRecDepth 100000 in
theorem apply_some (b off len cap : Nat) (cs : List Ch) (mode mask : Int) (dir : Bool) (w : World) (h : ∀ i, i < len → C5 w b (off + i * 5) (cs.getD i cz)) (hb : b < w.heap.size) (hl : cs.length = len) (hlen : len ≤ 4611686018427387904) :
    Calls Tryd.prog 8 #[.slice (some ⟨b, off, none⟩) len cap, .int .i64 mode, .int .i64 mask, .bool dir] w fun e w' => e = .returned (.int .i64 (applyP cs (m9 mode) mask dir)) ∧ Below w.heap.size w w' := by
  have HC := hide h
  have HL := hide hl
  have hm9 : bits .and .i64 mode 511 = ((m9 mode : Nat) : Int) := by rw [and511, m9_val]
  have hM := m9_lt mode
  obtain ⟨M, hMe⟩ : ∃ M, M = m9 mode := ⟨_, rfl⟩
  rw [← hMe] at hm9 hM ⊢
  clear h hl hMe
  go_enter Tryd.func8, Tryd.ntmps8
  go_wp2_with fail
  refine (deeds_any _).mono ?_
  rintro e w1 ⟨rfl, hD, hb1⟩
  have HD := hide hD
  have HB1 := hide hb1
  have hlt1 : w.heap.size < w1.heap.size := hD.lt
  clear hD hb1
  go_wp2_with fail
  go_loopw [1, 21] (fun m i wr => ∃ (k x : Nat), k ≤ len ∧ i = .int .i64 k ∧ m = .int .i64 x ∧ Hid (x = applyP (cs.take k) M mask dir) ∧ x < 512 ∧ Hid (Below w1.heap.size w1 wr)) (fun _ i _ => len - (intOf i).toNat)
  case atStart => exact ⟨0, M, Nat.zero_le _, rfl, rfl, rfl, hM, Below.refl _ _⟩
  case round =>
    obtain ⟨k, x, hk, rfl, rfl, hx, hx9, hnx⟩ := hrel
    have hsz := (unhide hnx).size
    by_cases hlt : k < len
    · have hc := ((unhide HC k hlt).of fun o => (unhide HB1).cell hb).of fun o => (unhide hnx).cell (p := ⟨b, o, none⟩) (by simp; omega)
      have hc0 := hc.c0
      have hc1 := hc.c1
      have hc2 := hc.c2
      have hc3 := hc.c3
      have hc4 := hc.c4
      have hst := hide (applyP_take cs k M mask dir (by rw [unhide HL]; exact hlt))
      obtain ⟨c, hce⟩ : ∃ c, c = cs.getD k cz := ⟨_, rfl⟩
      rw [← hce] at hc0 hc1 hc2 hc3 hc4 hst
      clear hce hc
      obtain ⟨who, op, bts, cp, dirs⟩ := c
      simp only at hc0 hc1 hc2 hc3 hc4
      have hDr : Deeds (wr.alloc (.cells #[.int .i64 who, .int .u8 op.toNat, .int .i64 bts, .int .u8 cp.toNat, .bool dirs] 30)) w.heap.size :=
        UM.below (UM.below (unhide HD) (unhide hnx)) ((Below.refl _ _).alloc (Nat.le_refl _) _)
      obtain ⟨R, HER⟩ : ∃ R, Hid (R = reachP who mask) := ⟨_, rfl⟩
      obtain ⟨Bt, HEB⟩ : ∃ Bt, Hid (Bt = bitsP ⟨who, op, bts, cp, dirs⟩ x dir) := ⟨_, rfl⟩
      obtain ⟨S, HES⟩ : ∃ S, Hid (S = spreadP 7 Bt) := ⟨_, rfl⟩
      obtain ⟨A, HA0⟩ : ∃ A, Hid (A = S &&& R) := ⟨_, rfl⟩
      have hR : R < 512 := by rw [unhide HER]; exact reachP_lt _ _
      have hBt : Bt < 8 := by rw [unhide HEB]; exact bitsP_lt _ _ _
      have hS : S < 512 := by rw [unhide HES]; exact spreadP_lt _ _ hBt
      have hA : A < 512 := by rw [unhide HA0]; exact and_lt9 hR
      have hand : bits .and .i64 (S : Int) (R : Int) = (A : Int) := by rw [unhide HA0]; exact bits_and_nat _ _ (by omega) (by omega)
      have HEA : Hid (A = spreadP 7 (bitsP ⟨who, op, bts, cp, dirs⟩ x dir) &&& reachP who mask) := by rw [unhide HA0, unhide HES, unhide HEB, unhide HER]; exact rfl
      rcases UM.look3 hDr op with ⟨hop, hlook⟩ | ⟨hop, hlook⟩ | ⟨hop, hlook⟩ | ⟨hop, hlook⟩ <;> clear hDr
      · have hst2 : Hid (x = applyP (cs.take (k + 1)) M mask dir) := by rw [unhide hst]; unfold chgP; simp only; rw [doP_no hop]; exact unhide hx
        clear hop hst hx
        go_wp2_with fail
        go_roundw
        case rel => exact ⟨k + 1, x, by omega, by go_num, rfl, hst2, hx9, (unhide hnx).alloc hsz _⟩
        case measure => simp [intOf]; omega
      · have HL3 := hide (fun W => d1_any x A R W hx9 hA)
        have hst2 : Hid (doP 43 x A R = applyP (cs.take (k + 1)) M mask dir) := (show doP 43 x A R = doP op x A R by rw [hop]).trans (by rw [unhide hst, ← unhide hx, unhide HEA, unhide HER]; rfl)
        clear hop hst hx
        go_wp2_with fail
        refine (reachOf_any who mask _).mono ?_
        rintro e w2 ⟨rfl, hw2⟩
        have HW2 := hide hw2
        rw [← unhide HER]
        clear hw2
        have hq0 : w2.cell? ⟨wr.heap.size, 0, none⟩ = some (.int .i64 who) := by rw [unhide HW2]; simp
        have hq1 : w2.cell? ⟨wr.heap.size, 1, none⟩ = some (.int .u8 op.toNat) := by rw [unhide HW2]; simp
        have hq2 : w2.cell? ⟨wr.heap.size, 2, none⟩ = some (.int .i64 bts) := by rw [unhide HW2]; simp
        have hq3 : w2.cell? ⟨wr.heap.size, 3, none⟩ = some (.int .u8 cp.toNat) := by rw [unhide HW2]; simp
        have hq4 : w2.cell? ⟨wr.heap.size, 4, none⟩ = some (.bool dirs) := by rw [unhide HW2]; simp
        go_wp2_with fail
        refine (bitsOf_any ⟨who, op, bts, cp, dirs⟩ x dir _ hx9).mono ?_
        rintro e w3 ⟨rfl, hb3⟩
        rw [← unhide HEB]
        have HB3 : Hid (Below w1.heap.size w1 w3) := ((unhide hnx).alloc hsz _).trans (by rw [unhide HW2] at hb3; exact hb3.mono (by simp; omega))
        clear hb3 HW2 hnx hq0 hq1 hq2 hq3 hq4
        go_wp2_with fail
        refine (spread_any 7 Bt _ hBt).mono ?_
        rintro e w4 ⟨rfl, rfl⟩
        rw [← unhide HES]
        go_wp2_with fail
        refine (unhide HL3 _).mono ?_
        rintro e w5 ⟨rfl, rfl⟩
        rw [unhide hst2]
        go_wp2_with fail
        go_roundw
        case rel => exact ⟨k + 1, _, by omega, by go_num, rfl, rfl, applyP_lt _ _ _ _ hM, HB3⟩
        case measure => simp [intOf]; omega
      · have HL3 := hide (fun W => d2_any x A R W hx9 hA)
        have hst2 : Hid (doP 45 x A R = applyP (cs.take (k + 1)) M mask dir) := (show doP 45 x A R = doP op x A R by rw [hop]).trans (by rw [unhide hst, ← unhide hx, unhide HEA, unhide HER]; rfl)
        clear hop hst hx
        go_wp2_with fail
        refine (reachOf_any who mask _).mono ?_
        rintro e w2 ⟨rfl, hw2⟩
        have HW2 := hide hw2
        rw [← unhide HER]
        clear hw2
        have hq0 : w2.cell? ⟨wr.heap.size, 0, none⟩ = some (.int .i64 who) := by rw [unhide HW2]; simp
        have hq1 : w2.cell? ⟨wr.heap.size, 1, none⟩ = some (.int .u8 op.toNat) := by rw [unhide HW2]; simp
        have hq2 : w2.cell? ⟨wr.heap.size, 2, none⟩ = some (.int .i64 bts) := by rw [unhide HW2]; simp
        have hq3 : w2.cell? ⟨wr.heap.size, 3, none⟩ = some (.int .u8 cp.toNat) := by rw [unhide HW2]; simp
        have hq4 : w2.cell? ⟨wr.heap.size, 4, none⟩ = some (.bool dirs) := by rw [unhide HW2]; simp
        go_wp2_with fail
        refine (bitsOf_any ⟨who, op, bts, cp, dirs⟩ x dir _ hx9).mono ?_
        rintro e w3 ⟨rfl, hb3⟩
        rw [← unhide HEB]
        have HB3 : Hid (Below w1.heap.size w1 w3) := ((unhide hnx).alloc hsz _).trans (by rw [unhide HW2] at hb3; exact hb3.mono (by simp; omega))
        clear hb3 HW2 hnx hq0 hq1 hq2 hq3 hq4
        go_wp2_with fail
        refine (spread_any 7 Bt _ hBt).mono ?_
        rintro e w4 ⟨rfl, rfl⟩
        rw [← unhide HES]
        go_wp2_with fail
        refine (unhide HL3 _).mono ?_
        rintro e w5 ⟨rfl, rfl⟩
        rw [unhide hst2]
        go_wp2_with fail
        go_roundw
        case rel => exact ⟨k + 1, _, by omega, by go_num, rfl, rfl, applyP_lt _ _ _ _ hM, HB3⟩
        case measure => simp [intOf]; omega
      · have HL3 := hide (fun W => d3_any x A R W hx9 hA hR)
        have hst2 : Hid (doP 61 x A R = applyP (cs.take (k + 1)) M mask dir) := (show doP 61 x A R = doP op x A R by rw [hop]).trans (by rw [unhide hst, ← unhide hx, unhide HEA, unhide HER]; rfl)
        clear hop hst hx
        go_wp2_with fail
        refine (reachOf_any who mask _).mono ?_
        rintro e w2 ⟨rfl, hw2⟩
        have HW2 := hide hw2
        rw [← unhide HER]
        clear hw2
        have hq0 : w2.cell? ⟨wr.heap.size, 0, none⟩ = some (.int .i64 who) := by rw [unhide HW2]; simp
        have hq1 : w2.cell? ⟨wr.heap.size, 1, none⟩ = some (.int .u8 op.toNat) := by rw [unhide HW2]; simp
        have hq2 : w2.cell? ⟨wr.heap.size, 2, none⟩ = some (.int .i64 bts) := by rw [unhide HW2]; simp
        have hq3 : w2.cell? ⟨wr.heap.size, 3, none⟩ = some (.int .u8 cp.toNat) := by rw [unhide HW2]; simp
        have hq4 : w2.cell? ⟨wr.heap.size, 4, none⟩ = some (.bool dirs) := by rw [unhide HW2]; simp
        go_wp2_with fail
        refine (bitsOf_any ⟨who, op, bts, cp, dirs⟩ x dir _ hx9).mono ?_
        rintro e w3 ⟨rfl, hb3⟩
        rw [← unhide HEB]
        have HB3 : Hid (Below w1.heap.size w1 w3) := ((unhide hnx).alloc hsz _).trans (by rw [unhide HW2] at hb3; exact hb3.mono (by simp; omega))
        clear hb3 HW2 hnx hq0 hq1 hq2 hq3 hq4
        go_wp2_with fail
        refine (spread_any 7 Bt _ hBt).mono ?_
        rintro e w4 ⟨rfl, rfl⟩
        rw [← unhide HES]
        go_wp2_with fail
        refine (unhide HL3 _).mono ?_
        rintro e w5 ⟨rfl, rfl⟩
        rw [unhide hst2]
        go_wp2_with fail
        go_roundw
        case rel => exact ⟨k + 1, _, by omega, by go_num, rfl, rfl, applyP_lt _ _ _ _ hM, HB3⟩
        case measure => simp [intOf]; omega
    · have hst2 : Hid (x = applyP cs M mask dir) := by rw [unhide hx, List.take_of_length_le (by rw [unhide HL]; omega)]; rfl
      have HB : Hid (Below w.heap.size w wr) := (unhide HB1).trans ((unhide hnx).mono (by omega))
      clear hx hnx
      go_wp2_with fail
      go_ret
      exact ⟨ret_i (by rw [unhide hst2]), unhide HB⟩
set_option maxHeartbeats 400000 in
set_option maxRecDepth 100000 in
theorem apply_none (a : Option Addr) (cap : Nat) (mode mask : Int) (dir : Bool) (w : World) :
    Calls Tryd.prog 8 #[.slice a 0 cap, .int .i64 mode, .int .i64 mask, .bool dir] w fun e w' => e = .returned (.int .i64 (m9 mode)) ∧ Below w.heap.size w w' := by
  have hm9 : bits .and .i64 mode 511 = ((m9 mode : Nat) : Int) := by rw [and511, m9_val]
  obtain ⟨M, hMe⟩ : ∃ M, M = m9 mode := ⟨_, rfl⟩
  rw [← hMe] at hm9 ⊢
  clear hMe
  go_enter Tryd.func8, Tryd.ntmps8
  go_wp2_with fail
  refine (deeds_any _).mono ?_
  rintro e w1 ⟨rfl, hD, hb1⟩
  go_wp2_with fail
  refine wp_loop_rounds 1 ?_
  rw [rounds_succ]
  go_wp2_with fail
  go_ret
  exact ⟨rfl, hb1⟩
theorem apply_any (a : Option Addr) (len cap c' : Nat) (cs : List Ch) (mode mask : Int) (dir : Bool) (w : World) (h : Cg w a len c' cs) (hlen : len ≤ 4611686018427387904) :
    Calls Tryd.prog 8 #[.slice a len cap, .int .i64 mode, .int .i64 mask, .bool dir] w fun e w' => e = .returned (.int .i64 (applyP cs (m9 mode) mask dir)) ∧ Below w.heap.size w w' := by
  rcases h.cells with rfl | ⟨b, off, rfl, hb, hc⟩
  · obtain rfl : cs = [] := List.eq_nil_of_length_eq_zero h.len
    exact apply_none a cap mode mask dir w
  · exact apply_some b off len cap cs mode mask dir w hc hb h.len hlen
end Go.Proofs.YtijknodbaddelabDoor.Mo
