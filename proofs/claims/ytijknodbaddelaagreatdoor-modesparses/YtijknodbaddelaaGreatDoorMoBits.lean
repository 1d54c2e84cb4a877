/- What partOf, spread, reachOf and bitsOf answer. -/
import Derived.Test.YtijknodbaddelaaGreatDoorMoPlain
namespace Go.Proofs.YtijknodbaddelaaGreatDoor.Mo
open Go.RowKit

/-- as far as the loop has come -/
def spTo (who : Int) (b k : Nat) : Nat := sp (wb who 0 && decide (0 < k)) (wb who 1 && decide (1 < k)) (wb who 2 && decide (2 < k)) b
theorem wb_int (who : Int) (k : Nat) : (bits .and .i64 (who / 2 ^ k) 1 == 1) = wb who k := by
  rw [and1]; unfold wb; rw [Bool.eq_iff_iff]; simp
theorem wrap_sm (n : Nat) (h : n < 1000000) : IntKind.i64.wrap (n : Int) = n := by
  simp only [IntKind.wrap, IntKind.signed, IntKind.bits]; simp; omega
theorem sp_on0 : ∀ (b : Nat), b < 8 → (sp false false false b ||| b) = sp true false false b := by decide +kernel
theorem sp_on1 : ∀ (b : Nat), b < 8 → ∀ w0, (sp w0 false false b ||| b * 8) = sp w0 true false b := by decide +kernel
theorem sp_on2 : ∀ (b : Nat), b < 8 → ∀ w0 w1, (sp w0 w1 false b ||| b * 64) = sp w0 w1 true b := by decide +kernel
theorem spTo_lt (who : Int) (b k : Nat) (hb : b < 8) : spTo who b k < 512 := sp_lt b hb _ _ _
theorem spTo_yes (who : Int) (b k : Nat) (hb : b < 8) (hk : k < 3) (h : wb who k = true) : bits .or .i64 (spTo who b k : Int) (wrap64 ((b : Int) * 2 ^ (3 * k))) = (spTo who b (k + 1) : Int) := by
  have hw : wrap64 ((b : Int) * 2 ^ (3 * k)) = ((b * 2 ^ (3 * k) : Nat) : Int) := by
    have : b * 2 ^ (3 * k) < 1000000 := by
      match k, hk with
      | 0, _ => omega
      | 1, _ => omega
      | 2, _ => omega
    have e : ((b : Int) * 2 ^ (3 * k)) = ((b * 2 ^ (3 * k) : Nat) : Int) := by push_cast; rfl
    rw [e]; unfold wrap64; omega
  have h5 := spTo_lt who b k hb
  have hlt : b * 2 ^ (3 * k) < 2 ^ 63 := by
    match k, hk with
    | 0, _ => omega
    | 1, _ => omega
    | 2, _ => omega
  rw [hw, bits_or_nat _ _ (by omega) hlt]
  congr 1
  match k, hk, h with
  | 0, _, h => simp only [spTo, h]; simpa using sp_on0 b hb
  | 1, _, h => simp only [spTo, h]; simpa using sp_on1 b hb _
  | 2, _, h => simp only [spTo, h]; simpa using sp_on2 b hb _ _
theorem spTo_no (who : Int) (b k : Nat) (hk : k < 3) (h : wb who k = false) : spTo who b k = spTo who b (k + 1) := by
  match k, hk, h with
  | 0, _, h => simp [spTo, h]
  | 1, _, h => simp [spTo, h]
  | 2, _, h => simp [spTo, h]
theorem spTo_end (who : Int) (b k : Nat) (hk : 3 ≤ k) : spTo who b k = spreadP who b := by
  have h0 : decide (0 < k) = true := by simp; omega
  have h1 : decide (1 < k) = true := by simp; omega
  have h2 : decide (2 < k) = true := by simp; omega
  simp only [spTo, spreadP, h0, h1, h2, Bool.and_true]
set_option maxHeartbeats 400000 in
set_option maxRecDepth 100000 in
theorem partOf_any (x : Int) (c : UInt8) (w : World) :
    Calls Tryz.prog 53 #[.int .i64 x, .int .u8 c.toNat] w fun e w' => e = .returned (.int .i64 (partP x c)) ∧ w' = w := by
  go_enter Tryz.func53, Tryz.ntmps53
  go_wp2
  · rename_i h
    go_ret
    refine ⟨ret_i ?_, rfl⟩
    rw [and7, partP, if_pos (ceq (d := 117) h)]; simp; omega
  · rename_i h1 h
    go_ret
    refine ⟨ret_i ?_, rfl⟩
    rw [and7, partP, if_neg (cne (d := 117) h1), if_pos (ceq (d := 103) h)]; simp; omega
  · rename_i h1 h2 h
    go_ret
    refine ⟨ret_i ?_, rfl⟩
    rw [and7, partP, if_neg (cne (d := 117) h1), if_neg (cne (d := 103) h2), if_pos (ceq (d := 111) h)]; omega
  · rename_i h1 h2 h
    go_ret
    refine ⟨ret_i ?_, rfl⟩
    rw [partP, if_neg (cne (d := 117) h1), if_neg (cne (d := 103) h2), if_neg (cne (d := 111) h)]; rfl
/-- the cells of a change -/
def cc (c : Ch) : List Value := [.int .i64 c.who, .int .u8 c.op.toNat, .int .i64 c.bits, .int .u8 c.cp.toNat, .bool c.dirs]
theorem below_drew (w : World) (q : Nat) : Below w.heap.size w (w.drewN q) := ⟨rfl, rfl, rfl, Nat.le_refl _, fun _ _ => rfl⟩
theorem below_drew1 {B : Nat} {w w' : World} (h : Below B w w') : Below B w w'.drew := ⟨h.os, h.tape, h.output, h.size, h.block⟩
theorem below_drewN {B : Nat} {w w' : World} (h : Below B w w') (q : Nat) : Below B w (w'.drewN q) := ⟨h.os, h.tape, h.output, h.size, h.block⟩
theorem bits_sum (x : Int) (p : Nat) (hp : p < 8) : bits .or .i64 (bits .and .i64 x 7) (p : Int) = (((x % 8).toNat ||| p : Nat) : Int) := by
  rw [and7]
  obtain ⟨y, hy⟩ : ∃ y : Nat, x % 8 = (y : Int) := ⟨(x % 8).toNat, by omega⟩
  rw [hy, bits_or_nat _ _ (by omega) (by omega), Int.toNat_natCast]
theorem bits_one (x : Int) (p : Nat) (hp : p < 8) : bits .or .i64 (bits .or .i64 (bits .and .i64 x 7) (p : Int)) 1 = ((((x % 8).toNat ||| p) ||| 1 : Nat) : Int) := by
  rw [bits_sum x p hp]
  exact bits_or_nat _ 1 (by have := or_lt8 (a := (x % 8).toNat) (b := p) (by omega) hp; omega) (by decide)
theorem anyX_int (m : Nat) (hm : m < 512) : (bits .and .i64 (m : Int) ((spreadP 7 1 : Nat) : Int) == 0) = !anyX m := by
  have e : spreadP 7 1 = 73 := by decide +kernel
  rw [e, bits_and_nat _ _ (by omega) (by decide)]
  unfold anyX
  rw [Bool.eq_iff_iff]; simp
end Go.Proofs.YtijknodbaddelaaGreatDoor.Mo
