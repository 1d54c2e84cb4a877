/- The document's change is the program's. -/
import Derived.Test.YtijknodbaddelaaMoRef
namespace Go.Proofs.Ytijknodbaddelaa.Mo
open Go.RowKit

theorem join_bit : ∀ n0 : Nat, n0 < 8 → ∀ n1 : Nat, n1 < 8 → ∀ n2 : Nat, n2 < 8 → ∀ i : Nat, i < 9 → (((n0 * 64 ||| n1 * 8) ||| n2)).testBit i = (if i / 3 = 2 then n0 else if i / 3 = 1 then n1 else n2).testBit (i % 3) := by decide +kernel
def hasN (m j : Nat) : Nat := if j = 0 then m / 64 % 8 else if j = 1 then m / 8 % 8 else m % 8
theorem hasN_bit : ∀ m : Nat, m < 512 → ∀ i : Nat, i < 9 → (hasN m (2 - i / 3)).testBit (i % 3) = m.testBit i := by decide +kernel
theorem hasP_nat (m j : Nat) : hasP m j = hasN m j := by
  obtain ⟨e0, e1, e2⟩ := part_nat m
  unfold hasP hasN
  rw [e0, e1, e2]
theorem wb7 (p : Nat) (hp : p < 3) : wb 7 p = true := by
  match p, hp with
  | 0, _ => decide
  | 1, _ => decide
  | 2, _ => decide
theorem bit7 (q : Nat) (hq : q < 3) : Nat.testBit 7 q = true := by
  match q, hq with
  | 0, _ => decide
  | 1, _ => decide
  | 2, _ => decide
theorem whoP_bit (who : Int) (p : Nat) (hp : p < 3) : (whoP who / 2 ^ p % 2 = 0) ↔ (who % 8 ≠ 0 ∧ wb who p = false) := by
  unfold whoP wb
  match p, hp with
  | 0, _ => split <;> simp <;> omega
  | 1, _ => split <;> simp <;> omega
  | 2, _ => split <;> simp <;> omega
theorem reach_bit (who mask : Int) (i : Nat) (hi : i < 9) : (reachP who mask).testBit i = if who % 8 = 0 then !(m9 mask).testBit i else wb who (i / 3) := by
  unfold reachP
  split
  · rw [clr_bit]
    have : Nat.testBit 511 i = true := by
      have h : ∀ i : Nat, i < 9 → Nat.testBit 511 i = true := by decide
      exact h i hi
    rw [this]; simp
  · rw [spreadP_bit _ _ _ (by decide) hi, bit7 _ (by omega)]; simp
theorem stay_bit (who mask : Int) (i : Nat) (hi : i < 9) : (stayP who mask (2 - i / 3)).testBit (i % 3) = if who % 8 = 0 then (m9 mask).testBit i else false := by
  unfold stayP
  split
  · rw [← m9_val, hasP_nat, hasN_bit _ (m9_lt _) i hi]
  · have : hasP 0 (2 - i / 3) = hasN 0 (2 - i / 3) := hasP_nat 0 _
    rw [this, hasN_bit 0 (by decide) i hi]; simp
theorem now_bit (c : Ch) (m : Nat) (mask : Int) (dir : Bool) (hm : m < 512) (i : Nat) (hi : i < 9) : (nowP c m mask dir (2 - i / 3)).testBit (i % 3) = (chgP c m mask dir).testBit i := by
  have hp : i / 3 < 3 := by omega
  have hw := whoP_bit c.who (i / 3) hp
  have hr := reach_bit c.who mask i hi
  have hs := stay_bit c.who mask i hi
  have hh : (hasP m (2 - i / 3)).testBit (i % 3) = m.testBit i := by rw [hasP_nat, hasN_bit m hm i hi]
  have hS : (spreadP 7 (bitsP c m dir)).testBit i = (bitsP c m dir).testBit (i % 3) := by
    rw [spreadP_bit _ _ _ (bitsP_lt _ _ _) hi, wb7 _ hp]; simp
  unfold nowP chgP
  have e2 : 2 - (2 - i / 3) = i / 3 := by omega
  rw [e2]
  have hold : (newQ c.op (hasP m (2 - i / 3)) (bitsP c m dir) (stayP c.who mask (2 - i / 3))).testBit (i % 3) = (((doQ c.op (hasP m (2 - i / 3)) (bitsP c m dir)).testBit (i % 3) && !(stayP c.who mask (2 - i / 3)).testBit (i % 3)) || (m.testBit i && (stayP c.who mask (2 - i / 3)).testBit (i % 3))) := by
    unfold newQ
    rw [Nat.testBit_or, clr_bit, Nat.testBit_and, hh]
  by_cases h0 : whoP c.who / 2 ^ (i / 3) % 2 = 0
  · obtain ⟨h8, hb⟩ := hw.1 h0
    rw [if_neg h8, hb] at hr
    rw [if_pos h0, hh]
    unfold doP
    split
    · rw [Nat.testBit_or, Nat.testBit_and, hr]; simp
    · split
      · rw [clr_bit, Nat.testBit_and, hr]; simp
      · split
        · rw [Nat.testBit_or, clr_bit, Nat.testBit_and, hr]; simp
        · rfl
  · rw [if_neg h0, hold, hs]
    by_cases h8 : c.who % 8 = 0
    · rw [if_pos h8] at hr ⊢
      unfold doP doQ
      generalize (m9 mask).testBit i = z at *
      split
      · rw [Nat.testBit_or, Nat.testBit_or, Nat.testBit_and, hr, hS, hh]
        cases z <;> simp
      · split
        · rw [clr_bit, clr_bit, Nat.testBit_and, hr, hS, hh]
          cases z <;> simp
        · split
          · rw [Nat.testBit_or, clr_bit, Nat.testBit_and, hr, hS]
            cases z <;> simp
          · rw [hh]
            cases z <;> simp
    · rw [if_neg h8] at hr ⊢
      have hb : wb c.who (i / 3) = true := by
        cases hb : wb c.who (i / 3)
        · exact absurd (hw.2 ⟨h8, hb⟩) h0
        · rfl
      rw [hb] at hr
      unfold doP doQ
      split
      · rw [Nat.testBit_or, Nat.testBit_or, Nat.testBit_and, hr, hS, hh]; simp
      · split
        · rw [clr_bit, clr_bit, Nat.testBit_and, hr, hS, hh]; simp
        · split
          · rw [Nat.testBit_or, clr_bit, Nat.testBit_and, hr, hS]; simp
          · rw [hh]; simp
theorem ref_chg (c : Ch) (m : Nat) (mask : Int) (dir : Bool) (hm : m < 512) : refP c m mask dir = chgP c m mask dir := by
  have l0 := nowP_lt c m mask dir 0
  have l1 := nowP_lt c m mask dir 1
  have l2 := nowP_lt c m mask dir 2
  refine mode_ext ?_ (chgP_lt c m mask dir hm) fun i hi => ?_
  · unfold refP
    exact Nat.or_lt_two_pow (n := 9) (Nat.or_lt_two_pow (n := 9) (by omega) (by omega)) (by omega)
  · unfold refP
    rw [join_bit _ l0 _ l1 _ l2 i hi, ← now_bit c m mask dir hm i hi]
    have : i / 3 = 0 ∨ i / 3 = 1 ∨ i / 3 = 2 := by omega
    rcases this with h | h | h <;> simp [h]

set_option maxHeartbeats 1000000 in
set_option maxRecDepth 100000 in
theorem rapply_some (b off len cap : Nat) (cs : List Ch) (mode mask : Int) (dir : Bool) (w : World) (h : ∀ i, i < len → C5 w b (off + i * 5) (cs.getD i cz)) (hb : b < w.heap.size) (hl : cs.length = len) (hlen : len ≤ 4611686018427387904) :
    Calls Try.prog 8 #[.slice (some ⟨b, off, none⟩) len cap, .int .i64 mode, .int .i64 mask, .bool dir] w fun e w' => e = .returned (.int .i64 (applyP cs (m9 mode) mask dir)) ∧ Below w.heap.size w w' := by
  have HC := hide h
  have HL := hide hl
  have hm9 : bits .and .i64 mode 511 = ((m9 mode : Nat) : Int) := by rw [and511, m9_val]
  have hM := m9_lt mode
  obtain ⟨M, hMe⟩ : ∃ M, M = m9 mode := ⟨_, rfl⟩
  rw [← hMe] at hm9 hM ⊢
  clear h hl hMe
  go_enter Try.func8, Try.ntmps8
  go_wp2_with fail
  go_loopw [1, 9] (fun m i wr => ∃ (k x : Nat), k ≤ len ∧ i = .int .i64 k ∧ m = .int .i64 x ∧ Hid (x = applyP (cs.take k) M mask dir) ∧ x < 512 ∧ Hid (Below w.heap.size w wr)) (fun _ i _ => len - (intOf i).toNat)
  case atStart => exact ⟨0, M, Nat.zero_le _, rfl, rfl, rfl, hM, Below.refl _ _⟩
  case round =>
    obtain ⟨k, x, hk, rfl, rfl, hx, hx9, hnx⟩ := hrel
    have hsz := (unhide hnx).size
    by_cases hlt : k < len
    · have hlt' : (k : Int) < (len : Int) := by omega
      have hc := (unhide HC k hlt).of fun o => (unhide hnx).cell (p := ⟨b, o, none⟩) hb
      have hc0 := hc.c0
      have hc1 := hc.c1
      have hc2 := hc.c2
      have hc3 := hc.c3
      have hc4 := hc.c4
      have hst := hide (applyP_take cs k M mask dir (by rw [unhide HL]; exact hlt))
      obtain ⟨c, hce⟩ : ∃ c, c = cs.getD k cz := ⟨_, rfl⟩
      rw [← hce] at hc0 hc1 hc2 hc3 hc4 hst
      clear hce hc
      have HR := hide (fun W => rchange_any c x mask dir W hx9)
      have hst2 : Hid (refP c x mask dir = applyP (cs.take (k + 1)) M mask dir) := by show _ = _; rw [ref_chg c x mask dir hx9, unhide hst, ← unhide hx]
      clear hst hx
      obtain ⟨who, op, bts, cp, dirs⟩ := c
      simp only at hc0 hc1 hc2 hc3 hc4
      go_wp2_with fail
      refine (unhide HR _).mono ?_
      rintro e w3 ⟨rfl, hb3⟩
      rw [unhide hst2]
      have HB3 : Hid (Below w.heap.size w w3) := (unhide hnx).trans (hb3.mono hsz)
      clear hb3 hnx hst2
      go_wp2_with fail
      go_roundw
      case rel => exact ⟨k + 1, _, by omega, by go_num, rfl, rfl, applyP_lt _ _ _ _ hM, HB3⟩
      case measure => simp [intOf]; omega
    · have hst2 : Hid (x = applyP cs M mask dir) := by rw [unhide hx, List.take_of_length_le (by rw [unhide HL]; omega)]; rfl
      clear hx
      go_wp2_with fail
      go_ret
      exact ⟨ret_i (by rw [unhide hst2]), unhide hnx⟩
set_option maxHeartbeats 400000 in
set_option maxRecDepth 100000 in
theorem rapply_none (a : Option Addr) (cap : Nat) (mode mask : Int) (dir : Bool) (w : World) :
    Calls Try.prog 8 #[.slice a 0 cap, .int .i64 mode, .int .i64 mask, .bool dir] w fun e w' => e = .returned (.int .i64 (m9 mode)) ∧ Below w.heap.size w w' := by
  have hm9 : bits .and .i64 mode 511 = ((m9 mode : Nat) : Int) := by rw [and511, m9_val]
  obtain ⟨M, hMe⟩ : ∃ M, M = m9 mode := ⟨_, rfl⟩
  rw [← hMe] at hm9 ⊢
  clear hMe
  go_enter Try.func8, Try.ntmps8
  go_wp2_with fail
  refine wp_loop_rounds 1 ?_
  rw [rounds_succ]
  go_wp2_with fail
  go_ret
  exact ⟨rfl, Below.refl _ _⟩
theorem rapply_any (a : Option Addr) (len cap c' : Nat) (cs : List Ch) (mode mask : Int) (dir : Bool) (w : World) (h : Cg w a len c' cs) (hlen : len ≤ 4611686018427387904) :
    Calls Try.prog 8 #[.slice a len cap, .int .i64 mode, .int .i64 mask, .bool dir] w fun e w' => e = .returned (.int .i64 (applyP cs (m9 mode) mask dir)) ∧ Below w.heap.size w w' := by
  rcases h.cells with rfl | ⟨b, off, rfl, hb, hc⟩
  · obtain rfl : cs = [] := List.eq_nil_of_length_eq_zero h.len
    exact rapply_none a cap mode mask dir w
  · exact rapply_some b off len cap cs mode mask dir w hc hb h.len hlen
end Go.Proofs.Ytijknodbaddelaa.Mo
