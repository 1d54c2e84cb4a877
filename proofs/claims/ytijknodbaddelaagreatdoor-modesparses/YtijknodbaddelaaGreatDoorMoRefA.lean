/- What the document's who, bit and action answer. -/
import Derived.Test.YtijknodbaddelaaGreatDoorMoRefP
namespace Go.Proofs.YtijknodbaddelaaGreatDoor.Mo
open Go.RowKit Go.Shelf

set_option maxHeartbeats 400000 in
set_option maxRecDepth 100000 in
theorem rwho_any (r : Int) (w : World) :
    Calls Tryz.prog 57 #[.int .u8 r] w fun e w' => e = .returned (.int .i64 (whoZ r)) ∧ w' = w := by
  go_enter Tryz.func57, Tryz.ntmps57
  go_wp2
  · rename_i h
    go_ret
    refine ⟨ret_i ?_, rfl⟩
    rw [whoZ, if_pos (eq_of_beq h)]
  · rename_i h1 h
    go_ret
    refine ⟨ret_i ?_, rfl⟩
    rw [whoZ, if_neg (ne_of_beq_false h1), if_pos (eq_of_beq h)]
  · rename_i h1 h2 h
    go_ret
    refine ⟨ret_i ?_, rfl⟩
    rw [whoZ, if_neg (ne_of_beq_false h1), if_neg (ne_of_beq_false h2), if_pos (eq_of_beq h)]
  · rename_i h1 h2 h3 h
    go_ret
    refine ⟨ret_i ?_, rfl⟩
    rw [whoZ, if_neg (ne_of_beq_false h1), if_neg (ne_of_beq_false h2), if_neg (ne_of_beq_false h3), if_pos (eq_of_beq h)]
  · rename_i h1 h2 h3 h
    go_ret
    refine ⟨ret_i ?_, rfl⟩
    rw [whoZ, if_neg (ne_of_beq_false h1), if_neg (ne_of_beq_false h2), if_neg (ne_of_beq_false h3), if_neg (ne_of_beq_false h)]
set_option maxHeartbeats 400000 in
set_option maxRecDepth 100000 in
theorem rbit_any (r : Int) (w : World) :
    Calls Tryz.prog 86 #[.int .u8 r] w fun e w' => e = .returned (.int .i64 (bitZ r)) ∧ w' = w := by
  go_enter Tryz.func86, Tryz.ntmps86
  go_wp2
  · rename_i h
    go_ret
    refine ⟨ret_i ?_, rfl⟩
    rw [bitZ, if_pos (eq_of_beq h)]
  · rename_i h1 h
    go_ret
    refine ⟨ret_i ?_, rfl⟩
    rw [bitZ, if_neg (ne_of_beq_false h1), if_pos (eq_of_beq h)]
  · rename_i h1 h2 h
    go_ret
    refine ⟨ret_i ?_, rfl⟩
    rw [bitZ, if_neg (ne_of_beq_false h1), if_neg (ne_of_beq_false h2), if_pos (eq_of_beq h)]
  · rename_i h1 h2 h
    go_ret
    refine ⟨ret_i ?_, rfl⟩
    rw [bitZ, if_neg (ne_of_beq_false h1), if_neg (ne_of_beq_false h2), if_neg (ne_of_beq_false h)]
/-- what action leaves -/
def AcR (w : World) (b : Bs) (who : Int) (e : Ending) (w' : World) : Prop :=
  (∃ x : Ch, (∀ c, b[0]? = some c → isOp (c.toNat : Int) = false) ∧ e = .returned (.tuple #[.agg (cc x).toArray, .int .i64 0]) ∧ Below w.heap.size w w') ∨
  ∃ n x, Act b who n x ∧ e = .returned (.tuple #[.agg (cc x).toArray, .int .i64 ((n : Nat) : Int)]) ∧ Below w.heap.size w w'
theorem bs_at (s : ByteArray) (k : Nat) (h : k < s.size) : (bs s)[k]? = some s[k] := List.getElem?_eq_getElem (l := bs s) (i := k) h
/-- which Op a text begins with -/
def Kop (s : ByteArray) (h0 : 0 < s.size) : Prop := (((s[0].toNat : Int) != 43) = false) ∨ (((s[0].toNat : Int) != 43) = true ∧ ((s[0].toNat : Int) != 45) = false) ∨ (((s[0].toNat : Int) != 43) = true ∧ ((s[0].toNat : Int) != 45) = true ∧ ((s[0].toNat : Int) != 61) = false)
theorem kop_of (s : ByteArray) (h0 : 0 < s.size) (ho : isOp (s[0].toNat : Int) = true) : Kop s h0 := by
  have hr : (s[0].toNat : Int) = 43 ∨ (s[0].toNat : Int) = 45 ∨ (s[0].toNat : Int) = 61 := by simpa [isOp, or_assoc] using ho
  unfold Kop
  rcases hr with e | e | e <;> rw [e] <;> simp
set_option maxHeartbeats 1000000 in
set_option maxRecDepth 100000 in
theorem action_no (s : ByteArray) (who : Int) (w : World) (h0 : 0 < s.size) (hs : s.size ≤ 4096) (ho : isOp (s[0].toNat : Int) = false) :
    Calls Tryz.prog 58 #[.string s, .int .i64 who] w (AcR w (bs s) who) := by
  have hz : ((s.size : Int) == 0) = false := by rw [beq_eq_false_iff_ne]; omega
  have hb0 := hide (bs_at s 0 h0)
  have HO := hide ho
  have k1 : ((s[0].toNat : Int) != 43) = true := by simp [isOp] at ho; simp; omega
  have k2 : ((s[0].toNat : Int) != 45) = true := by simp [isOp] at ho; simp; omega
  have k3 : ((s[0].toNat : Int) != 61) = true := by simp [isOp] at ho; simp; omega
  clear ho
  go_enter Tryz.func58, Tryz.ntmps58
  go_wp2
  refine bodyPost_ret (v := .tuple #[.agg (cc ⟨0, 0, 0, 0, false⟩).toArray, .int .i64 0]) (by simp [results, Tryz.results58, go_sem, cc]) rfl (.inl ⟨⟨0, 0, 0, 0, false⟩, fun d hd => ?_, rfl, ?_⟩)
  · rw [unhide hb0] at hd; cases hd; exact unhide HO
  · repeat (first | exact Below.refl _ _ | apply Below.setCell | apply Below.alloc | simp)
set_option maxHeartbeats 1000000 in
set_option maxRecDepth 100000 in
theorem action_copy (s : ByteArray) (who : Int) (w : World) (h1 : 1 < s.size) (hs : s.size ≤ 4096) (ho : isOp (s[0].toNat : Int) = true) (hd : (s[1].toNat : Int) = 117 ∨ (s[1].toNat : Int) = 103 ∨ (s[1].toNat : Int) = 111) :
    Calls Tryz.prog 58 #[.string s, .int .i64 who] w (AcR w (bs s) who) := by
  have hz : ((s.size : Int) == 0) = false := by rw [beq_eq_false_iff_ne]; omega
  have h0 : 0 < s.size := by omega
  have h1' : 1 < (s.size : Int) := by omega
  have HA := hide (Act.copy (who := who) (bs_at s 0 h0) ho (bs_at s 1 h1) hd)
  have kop := kop_of s h0 ho
  unfold Kop at kop
  have kcp : (((s[1].toNat : Int) == 117) = true) ∨ (((s[1].toNat : Int) == 117) = false ∧ ((s[1].toNat : Int) == 103) = true) ∨ (((s[1].toNat : Int) == 117) = false ∧ ((s[1].toNat : Int) == 103) = false ∧ ((s[1].toNat : Int) == 111) = true) := by
    rcases hd with e | e | e <;> rw [e] <;> simp
  clear hd ho
  rcases kop with k1 | ⟨k1, k2⟩ | ⟨k1, k2, k3⟩
  all_goals
    rcases kcp with q1 | ⟨q1, q2⟩ | ⟨q1, q2, q3⟩
    all_goals
      go_enter Tryz.func58, Tryz.ntmps58
      go_wp2
      refine bodyPost_ret (v := .tuple #[.agg (cc ⟨who, s[0], 0, s[1], false⟩).toArray, .int .i64 ((2 : Nat) : Int)]) (by simp [results, Tryz.results58, go_sem, cc]) rfl (.inr ⟨2, _, unhide HA, rfl, ?_⟩)
      repeat (first | exact Below.refl _ _ | apply Below.setCell | apply Below.alloc | simp)
end Go.Proofs.YtijknodbaddelaaGreatDoor.Mo
