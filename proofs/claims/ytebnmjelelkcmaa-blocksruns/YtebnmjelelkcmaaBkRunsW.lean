/- BlocksRuns, walked. -/
import Derived.Test.YtebnmjelelkcmaaBkRRun
import Derived.Test.YtebnmjelelkcmaaBeyond2
import Derived.Deep.RegionHeld3
set_option linter.unusedVariables false
namespace Go.Proofs.Ytebnmjelelkcmaa.Bk
open Go.RowKit Go.Shelf Cu

theorem eqI4 (e : Nat) (a b c d : Int) (W : World) : (Op.equalIn (e + 1 + 1) 26 (.agg #[.int .i64 a, .int .i64 b, .int .i64 c, .int .i64 d]) (.agg #[.int .i64 a, .int .i64 b, .int .i64 c, .int .i64 d])).run Try.prog W = .ok true W := by
  rw [Op.equalIn]
  simp only [Sem.run_bind, run_underlying Try.underlying26, Result.andThen_ok]
  have h3 := fun x W => run_equalIn_int (P := Try.prog) W e 3 .i64 .i64 x x Try.underlying3
  simp [Std.Legacy.Range.forIn_eq_forIn_range', Std.Legacy.Range.size, List.range', go_sem, h3]
theorem eq4 (a b c d : Int) (W : World) : (binOp .eql 26 (.agg #[.int .i64 a, .int .i64 b, .int .i64 c, .int .i64 d]) (.agg #[.int .i64 a, .int .i64 b, .int .i64 c, .int .i64 d])).run Try.prog W = .ok (.bool true) W := by
  rw [run_eql_struct]
  have h := eqI4 9998 a b c d W
  rw [h]
  rfl
/-- the plans and the numbers lie where they lay -/
structure Sx (w : World) (N1 N2 : Nat) (p : Pl) (a b c d : Int) (W : World) : Prop where
  pl : W.heap[w.heap.size]? = some (PlO p)
  rl : W.heap[w.heap.size + 1 + 1]? = some (RlO p)
  n1 : W.heap[N1]? = some (.cells #[.int .i64 a, .int .i64 b, .int .i64 c, .int .i64 d] 26 (0, 0))
  n2 : W.heap[N2]? = some (.cells #[.int .i64 a, .int .i64 b, .int .i64 c, .int .i64 d] 26 (0, 0))
  be : Below w.heap.size w W
theorem Sx.step {w : World} {N1 N2 : Nat} {p : Pl} {a b c d : Int} {W W' : World} (h : Sx w N1 N2 p a b c d W) (hb : Below W.heap.size W W') : Sx w N1 N2 p a b c d W' :=
  ⟨(hb.block _ (heap_lt h.pl)).trans h.pl, (hb.block _ (heap_lt h.rl)).trans h.rl, (hb.block _ (heap_lt h.n1)).trans h.n1, (hb.block _ (heap_lt h.n2)).trans h.n2, h.be.trans (hb.mono h.be.size)⟩
def St (w : World) (N1 N2 : Nat) (i o sk ct se : Int) (kp sw up lo sy : Bool) (a b c d : Int) (W : World) : Prop :=
  W.cell? ⟨w.heap.size, 0, none⟩ = some (.int .i64 i) ∧
  W.cell? ⟨w.heap.size, 1, none⟩ = some (.int .i64 o) ∧
  W.cell? ⟨w.heap.size, 2, none⟩ = some (.int .i64 sk) ∧
  W.cell? ⟨w.heap.size, 3, none⟩ = some (.int .i64 ct) ∧
  W.cell? ⟨w.heap.size, 4, none⟩ = some (.int .i64 se) ∧
  W.cell? ⟨w.heap.size, 5, none⟩ = some (.bool kp) ∧
  W.cell? ⟨w.heap.size, 6, none⟩ = some (.bool sw) ∧
  W.cell? ⟨w.heap.size, 7, none⟩ = some (.bool up) ∧
  W.cell? ⟨w.heap.size, 8, none⟩ = some (.bool lo) ∧
  W.cell? ⟨w.heap.size, 9, none⟩ = some (.bool sy) ∧
  W.cell? ⟨w.heap.size + 1 + 1, 0, none⟩ = some (.int .i64 i) ∧
  W.cell? ⟨w.heap.size + 1 + 1, 1, none⟩ = some (.int .i64 o) ∧
  W.cell? ⟨w.heap.size + 1 + 1, 2, none⟩ = some (.int .i64 sk) ∧
  W.cell? ⟨w.heap.size + 1 + 1, 3, none⟩ = some (.int .i64 ct) ∧
  W.cell? ⟨w.heap.size + 1 + 1, 4, none⟩ = some (.int .i64 se) ∧
  W.cell? ⟨w.heap.size + 1 + 1, 5, none⟩ = some (.bool kp) ∧
  W.cell? ⟨w.heap.size + 1 + 1, 6, none⟩ = some (.bool sw) ∧
  W.cell? ⟨w.heap.size + 1 + 1, 7, none⟩ = some (.bool up) ∧
  W.cell? ⟨w.heap.size + 1 + 1, 8, none⟩ = some (.bool lo) ∧
  W.cell? ⟨w.heap.size + 1 + 1, 9, none⟩ = some (.bool sy) ∧
  W.cell? ⟨N1, 0, none⟩ = some (.int .i64 a) ∧
  W.cell? ⟨N1, 1, none⟩ = some (.int .i64 b) ∧
  W.cell? ⟨N1, 2, none⟩ = some (.int .i64 c) ∧
  W.cell? ⟨N1, 3, none⟩ = some (.int .i64 d) ∧
  W.cell? ⟨N2, 0, none⟩ = some (.int .i64 a) ∧
  W.cell? ⟨N2, 1, none⟩ = some (.int .i64 b) ∧
  W.cell? ⟨N2, 2, none⟩ = some (.int .i64 c) ∧
  W.cell? ⟨N2, 3, none⟩ = some (.int .i64 d) ∧
  Hid (Sx w N1 N2 ⟨i, o, sk, ct, se, kp, sw, up, lo, sy⟩ a b c d W)
theorem St.of {w : World} {N1 N2 : Nat} {i o sk ct se : Int} {kp sw up lo sy : Bool} {a b c d : Int} {W : World} (h : Sx w N1 N2 ⟨i, o, sk, ct, se, kp, sw, up, lo, sy⟩ a b c d W) : St w N1 N2 i o sk ct se kp sw up lo sy a b c d W := by
  obtain ⟨p0, p1, p2, p3, p4, p5, p6, p7, p8, p9⟩ := pl_cells h.pl
  obtain ⟨q0, q1, q2, q3, q4, q5, q6, q7, q8, q9⟩ := rl_cells h.rl
  obtain ⟨f0, f1, f2, f3, _⟩ := four_cells h.n1
  obtain ⟨g0, g1, g2, g3, _⟩ := four_cells h.n2
  exact ⟨p0, p1, p2, p3, p4, p5, p6, p7, p8, p9, q0, q1, q2, q3, q4, q5, q6, q7, q8, q9, f0, f1, f2, f3, g0, g1, g2, g3, h⟩
theorem St.sx {w : World} {N1 N2 : Nat} {i o sk ct se : Int} {kp sw up lo sy : Bool} {a b c d : Int} {W : World} (h : St w N1 N2 i o sk ct se kp sw up lo sy a b c d W) : Sx w N1 N2 ⟨i, o, sk, ct, se, kp, sw, up, lo, sy⟩ a b c d W := by
  unfold St at h
  obtain ⟨p0, p1, p2, p3, p4, p5, p6, p7, p8, p9, q0, q1, q2, q3, q4, q5, q6, q7, q8, q9, f0, f1, f2, f3, g0, g1, g2, g3, h⟩ := h
  exact h
set_option maxRecDepth 100000 in
set_option maxHeartbeats 1000000 in
theorem runs_walk (p : Pl) (s t : ByteArray) (w : World) (hs : s.size ≤ 4611686018428436480) (ht : t.size ≤ 4611686018428436480) :
    Calls Try.prog 3 #[.agg (plC p), .string s, .string t] w fun e w' => e = .returned (.bool true) ∧ Below w.heap.size w w' := by
  have R1 := hide (fun W => run_any p s t W)
  have R2 := hide (fun W => rrun_any p s t W)
  generalize runP p (bs s) (bs t) = R at R1 R2
  have K1 := hide (fun W => check_any p W)
  have K2 := hide (fun W => rcheck_any p W)
  generalize okP p = ok at K1 K2
  obtain ⟨i, o, sk, ct, se, kp, sw, up, lo, sy⟩ := p
  unfold plC at R1 R2 K1 K2 ⊢
  simp only at R1 R2 K1 K2 ⊢
  obtain ⟨rs, ra, rb, rc, rd, re⟩ := R
  unfold ansV at R1 R2
  simp only at R1 R2
  obtain ⟨O, hO⟩ : ∃ O : Obj, O = .cells #[.int .i64 i, .int .i64 o, .int .i64 sk, .int .i64 ct, .int .i64 se, .bool kp, .bool sw, .bool up, .bool lo, .bool sy] 23 := ⟨_, rfl⟩
  by_cases hb : (1048576 : Int) < (s.size : Int) + (t.size : Int)
  · have B := hide (fun b W h1 h2 => Pa.beyond_two (s.size : Int) (t.size : Int) b W h1 h2 (by omega) (by omega) (by omega) (by omega))
    rw [decide_eq_true hb] at B
    go_enter Try.func3, Try.ntmps3
    go_wp2_with fail
    refine (unhide B _ _ (by simp) (by simp)).mono ?_
    rintro e w1 ⟨rfl, rfl⟩
    go_wp2_with fail
    go_ret
    exact ⟨rfl, ((Below.refl _ _).alloc (Nat.le_refl _) _).alloc (by simp) _⟩
  · have B := hide (fun b W h1 h2 => Pa.beyond_two (s.size : Int) (t.size : Int) b W h1 h2 (by omega) (by omega) (by omega) (by omega))
    rw [decide_eq_false hb] at B
    go_enter Try.func3, Try.ntmps3
    go_wp2_with fail
    refine (unhide B _ _ (by simp) (by simp)).mono ?_
    rintro e w1 ⟨rfl, rfl⟩
    clear B
    go_wp2_with fail
    refine (unhide R1 _).mono ?_
    rintro e w2 ⟨rfl, hb2⟩
    obtain ⟨Q, hQ⟩ : ∃ Q : Obj, Q = .cells #[.int .i64 i, .int .i64 o, .int .i64 sk, .int .i64 ct, .int .i64 se, .bool kp, .bool sw, .bool up, .bool lo, .bool sy] 25 := ⟨_, rfl⟩
    rw [← hO, ← hQ] at hb2
    have hp2 : w2.heap[w.heap.size]? = some O := by
      rw [hb2.block _ (by simp; omega), Below.heap_alloc _ _ _ (by simp; omega), Below.heap_alloc _ _ _ (by simp), heap_alloc_new]
    have hq2 : w2.heap[w.heap.size + 1 + 1]? = some Q := by
      rw [hb2.block _ (by simp)]
      have := heap_alloc_new ((w.alloc O).alloc (.cells #[.int .i64 (s.size : Int), .int .i64 (t.size : Int)] 3)) Q
      simpa using this
    have HB2 : Hid (Below w.heap.size w w2) := ((((Below.refl _ w).alloc (Nat.le_refl _) O).alloc (by simp) _).alloc (by simp; omega) _).trans (hb2.mono (by simp; omega))
    have HP2 := hide hp2
    have HQ2 := hide hq2
    rw [hQ] at hq2
    obtain ⟨d0, d1, d2, d3, d4, d5, d6, d7, d8, d9⟩ := rl_cells hq2
    have hl2 : w.heap.size + 1 + 1 < w2.heap.size := heap_lt hq2
    clear hb2 hp2 hq2 R1
    go_wp2_with fail
    refine (unhide R2 _).mono ?_
    rintro e w3 ⟨rfl, hb3⟩
    obtain ⟨M, hM⟩ : ∃ M : Obj, M = .cells #[.int .i64 (ra : Int), .int .i64 (rb : Int), .int .i64 (rc : Int), .int .i64 (rd : Int)] 26 := ⟨_, rfl⟩
    rw [← hM] at hb3
    have hb4 : Below (w2.heap.size + 1) (w2.alloc M) w3 := hb3.mono (by simp)
    have HS3 : Hid (∀ W, Below w3.heap.size w3 W → W.heap[w3.heap.size]? = some M → Sx w w2.heap.size w3.heap.size ⟨i, o, sk, ct, se, kp, sw, up, lo, sy⟩ ra rb rc rd W) := fun W hb hm => by
      have hz : w2.heap.size < w3.heap.size := by have := hb4.size; simp at this; omega
      have keep : ∀ k, k < w2.heap.size → W.heap[k]? = w2.heap[k]? := fun k hk => (hb.block k (by omega)).trans ((hb4.block k (by omega)).trans (Below.heap_alloc _ _ _ hk))
      refine ⟨?_, ?_, ?_, ?_, ?_⟩
      · rw [keep _ (by omega), unhide HP2, hO]; rfl
      · rw [keep _ (by omega), unhide HQ2, hQ]; rfl
      · rw [hb.block _ hz, hb4.block _ (by omega), heap_alloc_new, hM]
      · rw [hm, hM]
      · exact ((unhide HB2).alloc (unhide HB2).size M).trans ((hb4.mono (by omega)).trans (hb.mono (by omega)))
    clear hb3 hb4 R2 d0 d1 d2 d3 d4 d5 d6 d7 d8 d9 HP2 HQ2 HB2
    go_upto_region 6 with fail
    obtain ⟨w4, hw4⟩ : ∃ W, W = w3.alloc M := ⟨_, rfl⟩
    rw [← hM, ← hw4]
    have HS4 : Hid (Sx w w2.heap.size w3.heap.size ⟨i, o, sk, ct, se, kp, sw, up, lo, sy⟩ ra rb rc rd w4) := by
      rw [hw4]
      exact unhide HS3 _ ((Below.refl _ _).alloc (Nat.le_refl _) _) (heap_alloc_new w3 M)
    clear HS3 hw4 hM
    generalize w2.heap.size = N1 at *
    generalize w3.heap.size = N2 at *
    have hS := St.of (unhide HS4)
    have hSd := St.of ((unhide HS4).step (Below.refl _ _).drew)
    have KF1 : Hid (∀ W, St w N1 N2 i o sk ct se kp sw up lo sy ra rb rc rd W → Calls Try.prog 12 #[.agg #[.int .i64 i, .int .i64 o, .int .i64 sk, .int .i64 ct, .int .i64 se, .bool kp, .bool sw, .bool up, .bool lo, .bool sy]] W fun e w' => e = .returned (.bool ok) ∧ St w N1 N2 i o sk ct se kp sw up lo sy ra rb rc rd w') := fun W h => (unhide K1 W).mono fun e w' q => ⟨q.1, by rw [q.2]; exact St.of (h.sx.step ((Below.refl _ _).alloc (Nat.le_refl _) _))⟩
    have KF2 : Hid (∀ W, St w N1 N2 i o sk ct se kp sw up lo sy ra rb rc rd W → Calls Try.prog 13 #[.agg #[.int .i64 i, .int .i64 o, .int .i64 sk, .int .i64 ct, .int .i64 se, .bool kp, .bool sw, .bool up, .bool lo, .bool sy]] W fun e w' => e = .returned (.bool ok) ∧ St w N1 N2 i o sk ct se kp sw up lo sy ra rb rc rd w') := fun W h => (unhide K2 W).mono fun e w' q => ⟨q.1, by rw [q.2]; exact St.of (h.sx.step ((Below.refl _ _).alloc (Nat.le_refl _) _))⟩
    have hq4 := eq4 (ra : Int) (rb : Int) (rc : Int) (rd : Int)
    clear K1 K2 HS4
    unfold St at hS hSd KF1 KF2
    go_region_held3 (fun w' => w'.cell? ⟨w.heap.size, 0, none⟩ = some (.int .i64 i) ∧ w'.cell? ⟨w.heap.size, 1, none⟩ = some (.int .i64 o) ∧ w'.cell? ⟨w.heap.size, 2, none⟩ = some (.int .i64 sk) ∧ w'.cell? ⟨w.heap.size, 3, none⟩ = some (.int .i64 ct) ∧ w'.cell? ⟨w.heap.size, 4, none⟩ = some (.int .i64 se) ∧ w'.cell? ⟨w.heap.size, 5, none⟩ = some (.bool kp) ∧ w'.cell? ⟨w.heap.size, 6, none⟩ = some (.bool sw) ∧ w'.cell? ⟨w.heap.size, 7, none⟩ = some (.bool up) ∧ w'.cell? ⟨w.heap.size, 8, none⟩ = some (.bool lo) ∧ w'.cell? ⟨w.heap.size, 9, none⟩ = some (.bool sy) ∧ w'.cell? ⟨w.heap.size + 1 + 1, 0, none⟩ = some (.int .i64 i) ∧ w'.cell? ⟨w.heap.size + 1 + 1, 1, none⟩ = some (.int .i64 o) ∧ w'.cell? ⟨w.heap.size + 1 + 1, 2, none⟩ = some (.int .i64 sk) ∧ w'.cell? ⟨w.heap.size + 1 + 1, 3, none⟩ = some (.int .i64 ct) ∧ w'.cell? ⟨w.heap.size + 1 + 1, 4, none⟩ = some (.int .i64 se) ∧ w'.cell? ⟨w.heap.size + 1 + 1, 5, none⟩ = some (.bool kp) ∧ w'.cell? ⟨w.heap.size + 1 + 1, 6, none⟩ = some (.bool sw) ∧ w'.cell? ⟨w.heap.size + 1 + 1, 7, none⟩ = some (.bool up) ∧ w'.cell? ⟨w.heap.size + 1 + 1, 8, none⟩ = some (.bool lo) ∧ w'.cell? ⟨w.heap.size + 1 + 1, 9, none⟩ = some (.bool sy) ∧ w'.cell? ⟨N1, 0, none⟩ = some (.int .i64 (ra : Int)) ∧ w'.cell? ⟨N1, 1, none⟩ = some (.int .i64 (rb : Int)) ∧ w'.cell? ⟨N1, 2, none⟩ = some (.int .i64 (rc : Int)) ∧ w'.cell? ⟨N1, 3, none⟩ = some (.int .i64 (rd : Int)) ∧ w'.cell? ⟨N2, 0, none⟩ = some (.int .i64 (ra : Int)) ∧ w'.cell? ⟨N2, 1, none⟩ = some (.int .i64 (rb : Int)) ∧ w'.cell? ⟨N2, 2, none⟩ = some (.int .i64 (rc : Int)) ∧ w'.cell? ⟨N2, 3, none⟩ = some (.int .i64 (rd : Int)) ∧ Hid (Sx w N1 N2 ⟨i, o, sk, ct, se, kp, sw, up, lo, sy⟩ ra rb rc rd w')) (first | assumption | go_keep)
      (first | (with_reducible refine (unhide KF1 _ (by assumption)).mono ?_; rintro e w' ⟨rfl, hS1⟩) | (with_reducible refine (unhide KF2 _ (by assumption)).mono ?_; rintro e w' ⟨rfl, hS2⟩))
    all_goals
      go_wp2_with fail
      go_ret
      first
        | exact ⟨rfl, (unhide hS2.2.2.2.2.2.2.2.2.2.2.2.2.2.2.2.2.2.2.2.2.2.2.2.2.2.2.2.2).be⟩
        | exact ⟨rfl, (unhide hS1.2.2.2.2.2.2.2.2.2.2.2.2.2.2.2.2.2.2.2.2.2.2.2.2.2.2.2.2).be⟩
end Go.Proofs.Ytebnmjelelkcmaa.Bk
