/- What partOf, spread, reachOf and bitsOf answer. -/
import Derived.Test.YtijknodbaddelabDoorMoPlain
namespace Go.Proofs.YtijknodbaddelabDoor.Mo
open Go.RowKit

/-- as far as the loop has come -/
def spTo (who : Int) (b k : Nat) : Nat := sp (wb who 0 && decide (0 < k)) (wb who 1 && decide (1 < k)) (wb who 2 && decide (2 < k)) b
theorem wb_int (who : Int) (k : Nat) : (bits .and .i64 (who / 2 ^ k) 1 == 1) = wb who k := by
  rw [and1]; unfold wb; rw [Bool.eq_iff_iff]; simp
theorem wrap_sm (n : Nat) (h : n < 1000000) : IntKind.i64.wrap (n : Int) = n := by
  simp only [IntKind.wrap, IntKind.signed, IntKind.bits]; simp; omega
theorem sp_on0 : ∀ (b : Nat), b < 8 → (sp false false false b ||| b) = sp true false false b := by decide +kernel
theorem sp_on1 : ∀ (b : Nat), b < 8 → ∀ w0, (sp w0 false false b ||| b * 8) = sp w0 true false b := by decide +kernel
theorem sp_on2 : ∀ (b : Nat), b < 8 → ∀ w0 w1, (sp w0 w1 false b ||| b * 64) = sp w0 w1 true b := by decide +kernel
theorem spTo_lt (who : Int) (b k : Nat) (hb : b < 8) : spTo who b k < 512 := sp_lt b hb _ _ _
theorem spTo_yes (who : Int) (b k : Nat) (hb : b < 8) (hk : k < 3) (h : wb who k = true) : bits .or .i64 (spTo who b k : Int) (wrap64 ((b : Int) * 2 ^ (3 * k))) = (spTo who b (k + 1) : Int) := by
  have hw : wrap64 ((b : Int) * 2 ^ (3 * k)) = ((b * 2 ^ (3 * k) : Nat) : Int) := by
    have : b * 2 ^ (3 * k) < 1000000 := by
      match k, hk with
      | 0, _ => omega
      | 1, _ => omega
      | 2, _ => omega
    have e : ((b : Int) * 2 ^ (3 * k)) = ((b * 2 ^ (3 * k) : Nat) : Int) := by push_cast; rfl
    rw [e]; unfold wrap64; omega
  have h5 := spTo_lt who b k hb
  have hlt : b * 2 ^ (3 * k) < 2 ^ 63 := by
    match k, hk with
    | 0, _ => omega
    | 1, _ => omega
    | 2, _ => omega
  rw [hw, bits_or_nat _ _ (by omega) hlt]
  congr 1
  match k, hk, h with
  | 0, _, h => simp only [spTo, h]; simpa using sp_on0 b hb
  | 1, _, h => simp only [spTo, h]; simpa using sp_on1 b hb _
  | 2, _, h => simp only [spTo, h]; simpa using sp_on2 b hb _ _
theorem spTo_no (who : Int) (b k : Nat) (hk : k < 3) (h : wb who k = false) : spTo who b k = spTo who b (k + 1) := by
  match k, hk, h with
  | 0, _, h => simp [spTo, h]
  | 1, _, h => simp [spTo, h]
  | 2, _, h => simp [spTo, h]
theorem spTo_end (who : Int) (b k : Nat) (hk : 3 ≤ k) : spTo who b k = spreadP who b := by
  have h0 : decide (0 < k) = true := by simp; omega
  have h1 : decide (1 < k) = true := by simp; omega
  have h2 : decide (2 < k) = true := by simp; omega
  simp only [spTo, spreadP, h0, h1, h2, Bool.and_true]
set_option maxHeartbeats 400000 in
set_option maxRecDepth 100000 in
theorem spread_any (who : Int) (b : Nat) (w : World) (hb : b < 8) :
    Calls Tryd.prog 17 #[.int .i64 who, .int .i64 b] w fun e w' => e = .returned (.int .i64 (spreadP who b)) ∧ w' = w := by
  go_enter Tryd.func17, Tryd.ntmps17
  go_wp2
  go_loop [5, 7] (fun m i => ∃ k : Nat, k ≤ 3 ∧ i = .int .i64 k ∧ m = .int .i64 (spTo who b k)) (fun _ i => 3 - (intOf i).toNat)
  case atStart => exact ⟨0, Nat.zero_le _, rfl, by simp [spTo, sp]⟩
  case round =>
    obtain ⟨k, hk, rfl, rfl⟩ := hrel
    by_cases hlt : k < 3
    · have HY := hide (spTo_yes who b k hb hlt)
      have HN := hide (spTo_no who b k hlt)
      have HW := hide (wb_int who k)
      go_wp2
      · rename_i ht
        go_round
        case rel => exact ⟨k + 1, by omega, by go_num, by rw [unhide HY ((unhide HW).symm.trans ht)]⟩
        case measure => simp [intOf]; omega
      · rename_i ht
        go_round
        case rel => exact ⟨k + 1, by omega, by go_num, by rw [unhide HN ((unhide HW).symm.trans ht)]⟩
        case measure => simp [intOf]; omega
    · have HE := hide (spTo_end who b k (by omega))
      go_wp2
      go_ret
      exact ⟨ret_i (by rw [unhide HE]), rfl⟩
set_option maxHeartbeats 400000 in
set_option maxRecDepth 100000 in
theorem partOf_any (x : Int) (c : UInt8) (w : World) :
    Calls Tryd.prog 26 #[.int .i64 x, .int .u8 c.toNat] w fun e w' => e = .returned (.int .i64 (partP x c)) ∧ w' = w := by
  go_enter Tryd.func26, Tryd.ntmps26
  go_wp2
  · rename_i h
    go_ret
    refine ⟨ret_i ?_, rfl⟩
    rw [and7, partP, if_pos (ceq (d := 117) h)]; simp; omega
  · rename_i h1 h
    go_ret
    refine ⟨ret_i ?_, rfl⟩
    rw [and7, partP, if_neg (cne (d := 117) h1), if_pos (ceq (d := 103) h)]; simp; omega
  · rename_i h1 h2 h
    go_ret
    refine ⟨ret_i ?_, rfl⟩
    rw [and7, partP, if_neg (cne (d := 117) h1), if_neg (cne (d := 103) h2), if_pos (ceq (d := 111) h)]; omega
  · rename_i h1 h2 h
    go_ret
    refine ⟨ret_i ?_, rfl⟩
    rw [partP, if_neg (cne (d := 117) h1), if_neg (cne (d := 103) h2), if_neg (cne (d := 111) h)]; rfl
set_option maxHeartbeats 400000 in
set_option maxRecDepth 100000 in
theorem reachOf_any (who mask : Int) (w : World) :
    Calls Tryd.prog 16 #[.int .i64 who, .int .i64 mask] w fun e w' => e = .returned (.int .i64 (reachP who mask)) ∧ w' = w := by
  by_cases h : who % 8 = 0
  · have hd : (bits .and .i64 who 7 == 0) = true := by rw [and7]; simpa using h
    have hr : Hid (reachP who mask = clr 511 (m9 mask)) := by unfold reachP; rw [if_pos h]; rfl
    clear h
    go_enter Tryd.func16, Tryd.ntmps16
    go_wp2_with fail
    go_ret
    refine ⟨ret_i ?_, rfl⟩
    rw [unhide hr]
    exact bits_clr 511 mask (by decide)
  · have hd : (bits .and .i64 who 7 == 0) = false := by rw [and7]; simpa using h
    have hr : Hid (reachP who mask = spreadP who 7) := by unfold reachP; rw [if_neg h]; rfl
    clear h
    go_enter Tryd.func16, Tryd.ntmps16
    go_wp2_with fail
    refine (spread_any who 7 _ (by decide)).mono ?_
    rintro e w' ⟨rfl, rfl⟩
    go_wp2_with fail
    go_ret
    exact ⟨ret_i (by rw [unhide hr]), rfl⟩
/-- the cells of a change -/
def cc (c : Ch) : List Value := [.int .i64 c.who, .int .u8 c.op.toNat, .int .i64 c.bits, .int .u8 c.cp.toNat, .bool c.dirs]
theorem below_drew (w : World) (q : Nat) : Below w.heap.size w (w.drewN q) := ⟨rfl, rfl, rfl, Nat.le_refl _, fun _ _ => rfl⟩
theorem below_drew1 {B : Nat} {w w' : World} (h : Below B w w') : Below B w w'.drew := ⟨h.os, h.tape, h.output, h.size, h.block⟩
theorem below_drewN {B : Nat} {w w' : World} (h : Below B w w') (q : Nat) : Below B w (w'.drewN q) := ⟨h.os, h.tape, h.output, h.size, h.block⟩
theorem bits_sum (x : Int) (p : Nat) (hp : p < 8) : bits .or .i64 (bits .and .i64 x 7) (p : Int) = (((x % 8).toNat ||| p : Nat) : Int) := by
  rw [and7]
  obtain ⟨y, hy⟩ : ∃ y : Nat, x % 8 = (y : Int) := ⟨(x % 8).toNat, by omega⟩
  rw [hy, bits_or_nat _ _ (by omega) (by omega), Int.toNat_natCast]
theorem bits_one (x : Int) (p : Nat) (hp : p < 8) : bits .or .i64 (bits .or .i64 (bits .and .i64 x 7) (p : Int)) 1 = ((((x % 8).toNat ||| p) ||| 1 : Nat) : Int) := by
  rw [bits_sum x p hp]
  exact bits_or_nat _ 1 (by have := or_lt8 (a := (x % 8).toNat) (b := p) (by omega) hp; omega) (by decide)
theorem anyX_int (m : Nat) (hm : m < 512) : (bits .and .i64 (m : Int) ((spreadP 7 1 : Nat) : Int) == 0) = !anyX m := by
  have e : spreadP 7 1 = 73 := by decide +kernel
  rw [e, bits_and_nat _ _ (by omega) (by decide)]
  unfold anyX
  rw [Bool.eq_iff_iff]; simp
set_option maxHeartbeats 400000 in
set_option maxRecDepth 100000 in
theorem bitsOf_any (c : Ch) (m : Nat) (dir : Bool) (w : World) (hm : m < 512) :
    Calls Tryd.prog 18 #[.agg (cc c).toArray, .int .i64 m, .bool dir] w fun e w' => e = .returned (.int .i64 (bitsP c m dir)) ∧ Below w.heap.size w w' := by
  unfold cc
  obtain ⟨who, op, bts, cp, dirs⟩ := c
  have HP := hide (fun W => partOf_any (m : Int) cp W)
  have h8 := partP_lt (m : Int) cp
  have HB : Hid (bitsP ⟨who, op, bts, cp, dirs⟩ m dir = (((bts % 8).toNat ||| partP m cp) ||| (if dirs && (dir || anyX m) then 1 else 0))) := rfl
  have HV0 := hide (bits_sum bts _ h8)
  have HV1 := hide (bits_one bts _ h8)
  have HA := hide (anyX_int m hm)
  have HS := hide (fun W => spread_any 7 1 W (by decide))
  cases dirs
  · have HR : Hid ((((bts % 8).toNat ||| partP m cp : Nat) : Int) = ((bitsP ⟨who, op, bts, cp, false⟩ m dir : Nat) : Int)) := by show _ = _; rw [unhide HB]; simp
    clear HB HV1 HA HS
    go_enter Tryd.func18, Tryd.ntmps18
    go_wp2_with fail
    go_quiet ((go_at_call 26; exact Calls.quiet_of_same (unhide HP _)))
    go_wp2_with fail
    go_ret
    exact ⟨ret_i ((unhide HV0).trans (unhide HR)), below_drewN ((Below.refl _ _).alloc (Nat.le_refl _) _) _⟩
  · cases dir
    · cases hx : anyX m
      · rw [hx] at HA
        have hA : (bits .and .i64 (m : Int) ((spreadP 7 1 : Nat) : Int) == 0) = true := unhide HA
        have HR : Hid ((((bts % 8).toNat ||| partP m cp : Nat) : Int) = ((bitsP ⟨who, op, bts, cp, true⟩ m false : Nat) : Int)) := by show _ = _; rw [unhide HB, hx]; simp
        clear HB HV1 HA hx
        go_enter Tryd.func18, Tryd.ntmps18
        go_wp2_with fail
        go_quiet ((go_at_call 26; exact Calls.quiet_of_same (unhide HP _)))
        go_wp2_with fail
        refine (unhide HS _).mono ?_
        rintro e w' ⟨rfl, rfl⟩
        go_wp2_with fail
        go_ret
        exact ⟨ret_i ((unhide HV0).trans (unhide HR)), below_drewN ((Below.refl _ _).alloc (Nat.le_refl _) _) _⟩
      · rw [hx] at HA
        have hA : (bits .and .i64 (m : Int) ((spreadP 7 1 : Nat) : Int) == 0) = false := unhide HA
        have HR : Hid (((((bts % 8).toNat ||| partP m cp) ||| 1 : Nat) : Int) = ((bitsP ⟨who, op, bts, cp, true⟩ m false : Nat) : Int)) := by rw [unhide HB, hx]; rfl
        clear HB HV0 HA hx
        go_enter Tryd.func18, Tryd.ntmps18
        go_wp2_with fail
        go_quiet ((go_at_call 26; exact Calls.quiet_of_same (unhide HP _)))
        go_wp2_with fail
        refine (unhide HS _).mono ?_
        rintro e w' ⟨rfl, rfl⟩
        go_wp2_with fail
        go_ret
        exact ⟨ret_i ((unhide HV1).trans (unhide HR)), below_drewN ((Below.refl _ _).alloc (Nat.le_refl _) _) _⟩
    · have HR : Hid (((((bts % 8).toNat ||| partP m cp) ||| 1 : Nat) : Int) = ((bitsP ⟨who, op, bts, cp, true⟩ m true : Nat) : Int)) := by rw [unhide HB]; rfl
      clear HB HV0 HA HS
      go_enter Tryd.func18, Tryd.ntmps18
      go_wp2_with fail
      go_quiet ((go_at_call 26; exact Calls.quiet_of_same (unhide HP _)))
      go_wp2_with fail
      go_ret
      exact ⟨ret_i ((unhide HV1).trans (unhide HR)), below_drewN ((Below.refl _ _).alloc (Nat.le_refl _) _) _⟩
end Go.Proofs.YtijknodbaddelabDoor.Mo
