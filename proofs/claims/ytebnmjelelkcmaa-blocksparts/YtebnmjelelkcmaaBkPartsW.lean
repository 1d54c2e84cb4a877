/- BlocksParts, walked. -/
import Derived.Test.YtebnmjelelkcmaaBkIs
set_option linter.unusedVariables false
namespace Go.Proofs.Ytebnmjelelkcmaa.Bk
open Go.RowKit Go.Shelf Cu

/-- what a plan without seeks answers into nothing -/
theorem zero_ans (p : Pl) (s : Bs) (hok : okP p = true) (h0 : p.se = 0) (hs : s.length ≤ 50000) :
    runP p s [] = ⟨went p (tkn p s), whole p.i.toNat (tkn p s), parted p.i.toNat (tkn p s), (went p (tkn p s)).length / p.o.toNat, if (went p (tkn p s)).length % p.o.toNat = 0 then 0 else 1, 0⟩ := by
  obtain ⟨⟨g1, g2⟩, _⟩ := (okP_iff _).1 hok
  have hw := went_le2 p s g1
  rw [runP_ok p s [] hok (by omega) (by simp) (by rw [h0, Int.zero_mul]; simp; omega), put_zero p _ _ h0]
  simp
theorem parts_all (n : Nat) (o sk ct se : Int) (kp sw up lo sy : Bool) (hok : okP ⟨n, o, sk, ct, se, kp, sw, up, lo, sy⟩ = true) (at' : Nat) (hat : at' < 65536) (s : ByteArray) (hs : s.size ≤ 50000) :
    ∃ (X Y : ByteArray) (a0 a1 b0 b1 a2 a3 b2 b3 c2 c3 c0 c1 : Nat), X.size ≤ 200000 ∧ Y.size ≤ 200000 ∧ a0 ≤ 50000 ∧ a1 ≤ 50000 ∧ b0 ≤ 50000 ∧ b1 ≤ 50000 ∧ a0 + b0 = c0 ∧ a1 + b1 = c1 ∧
    runP ⟨n, o, 0, -1, 0, kp, sw, up, lo, sy⟩ (bs s) [] = ⟨bs (X ++ Y), c0, c1, c2, c3, 0⟩ ∧
    runP ⟨n, o, 0, at', 0, kp, sw, up, lo, sy⟩ (bs s) [] = ⟨bs X, a0, a1, a2, a3, 0⟩ ∧
    runP ⟨n, o, at', -1, 0, kp, sw, up, lo, sy⟩ (bs s) [] = ⟨bs Y, b0, b1, b2, b3, 0⟩ := by
  obtain ⟨⟨g1, g2⟩, ⟨g3, g4⟩, ⟨g5, g6⟩, ⟨g7, g8⟩, g9⟩ := (okP_iff _).1 hok
  dsimp only at g1 g2 g3 g4 g9
  have hsl : (bs s).length ≤ 50000 := by rw [bs_len]; exact hs
  have k1 : okP ⟨n, o, 0, -1, 0, kp, sw, up, lo, sy⟩ = true := (okP_iff _).2 ⟨⟨g1, g2⟩, ⟨g3, g4⟩, ⟨by simp, by simp⟩, ⟨by simp, by simp⟩, g9⟩
  have k2 : okP ⟨n, o, 0, at', 0, kp, sw, up, lo, sy⟩ = true := (okP_iff _).2 ⟨⟨g1, g2⟩, ⟨g3, g4⟩, ⟨by simp, by simp⟩, ⟨by simp, by simp⟩, g9⟩
  have k3 : okP ⟨n, o, at', -1, 0, kp, sw, up, lo, sy⟩ = true := (okP_iff _).2 ⟨⟨g1, g2⟩, ⟨g3, g4⟩, ⟨by dsimp only; omega, by dsimp only; omega⟩, ⟨by simp, by simp⟩, g9⟩
  have t1 : tkn ⟨n, o, 0, -1, 0, kp, sw, up, lo, sy⟩ (bs s) = ch n (bs s) := by
    unfold tkn; rw [takeC_neg, Int.zero_mul]; simp
  have t2 : tkn ⟨n, o, 0, at', 0, kp, sw, up, lo, sy⟩ (bs s) = (ch n (bs s)).take at' := by
    unfold tkn; rw [takeC_nat, Int.zero_mul]; simp
  have t3 : tkn ⟨n, o, at', -1, 0, kp, sw, up, lo, sy⟩ (bs s) = ch n ((bs s).drop (at' * n)) := by
    unfold tkn
    rw [takeC_neg]
    have : (((at' : Int) * (n : Int))).toNat = at' * n := by rw [← Int.natCast_mul]; exact Int.toNat_natCast _
    simp only [Int.toNat_natCast, this]
  have hsp := ch_split n (by omega) at' (bs s)
  have r1 := zero_ans ⟨n, o, 0, -1, 0, kp, sw, up, lo, sy⟩ (bs s) k1 rfl hsl
  have r2 := zero_ans ⟨n, o, 0, at', 0, kp, sw, up, lo, sy⟩ (bs s) k2 rfl hsl
  have r3 := zero_ans ⟨n, o, at', -1, 0, kp, sw, up, lo, sy⟩ (bs s) k3 rfl hsl
  have w2 := went_le2 ⟨n, o, 0, at', 0, kp, sw, up, lo, sy⟩ (bs s) g1
  have w3 := went_le2 ⟨n, o, at', -1, 0, kp, sw, up, lo, sy⟩ (bs s) g1
  have l2 := tkn_len ⟨n, o, 0, at', 0, kp, sw, up, lo, sy⟩ (bs s) g1
  have l3 := tkn_len ⟨n, o, at', -1, 0, kp, sw, up, lo, sy⟩ (bs s) g1
  rw [t1] at r1
  rw [t2] at r2 w2 l2
  rw [t3] at r3 w3 l3
  have e2 : went ⟨n, o, 0, at', 0, kp, sw, up, lo, sy⟩ ((ch n (bs s)).take at') = went ⟨n, o, 0, -1, 0, kp, sw, up, lo, sy⟩ ((ch n (bs s)).take at') := rfl
  have e3 : went ⟨n, o, at', -1, 0, kp, sw, up, lo, sy⟩ (ch n ((bs s).drop (at' * n))) = went ⟨n, o, 0, -1, 0, kp, sw, up, lo, sy⟩ (ch n ((bs s).drop (at' * n))) := rfl
  have ew := went_app ⟨n, o, 0, -1, 0, kp, sw, up, lo, sy⟩ ((ch n (bs s)).take at') (ch n ((bs s).drop (at' * n)))
  have ea := whole_app n ((ch n (bs s)).take at') (ch n ((bs s).drop (at' * n)))
  have ep := parted_app n ((ch n (bs s)).take at') (ch n ((bs s).drop (at' * n)))
  rw [← hsp] at ew ea ep
  rw [e2] at r2 w2
  rw [e3] at r3 w3
  have q0 := whole_le n ((ch n (bs s)).take at')
  have q1 := parted_le n ((ch n (bs s)).take at')
  have q2 := whole_le n (ch n ((bs s).drop (at' * n)))
  have q3 := parted_le n (ch n ((bs s).drop (at' * n)))
  have hx : bs (bt (went ⟨n, o, 0, -1, 0, kp, sw, up, lo, sy⟩ ((ch n (bs s)).take at')) ++ bt (went ⟨n, o, 0, -1, 0, kp, sw, up, lo, sy⟩ (ch n ((bs s).drop (at' * n))))) = went ⟨n, o, 0, -1, 0, kp, sw, up, lo, sy⟩ (ch n (bs s)) := by rw [bs_app]; exact ew.symm
  rw [← hx] at r1
  refine ⟨bt (went ⟨n, o, 0, -1, 0, kp, sw, up, lo, sy⟩ ((ch n (bs s)).take at')), bt (went ⟨n, o, 0, -1, 0, kp, sw, up, lo, sy⟩ (ch n ((bs s).drop (at' * n)))), whole n ((ch n (bs s)).take at'), parted n ((ch n (bs s)).take at'), whole n (ch n ((bs s).drop (at' * n))), parted n (ch n ((bs s).drop (at' * n))), _, _, _, _, _, _, whole n (ch n (bs s)), parted n (ch n (bs s)), ?_, ?_, by omega, by omega, by omega, by omega, ea.symm, ep.symm, r1, r2, r3⟩
  · show (went ⟨n, o, 0, -1, 0, kp, sw, up, lo, sy⟩ ((ch n (bs s)).take at')).length ≤ 200000
    dsimp only at w2
    omega
  · show (went ⟨n, o, 0, -1, 0, kp, sw, up, lo, sy⟩ (ch n ((bs s).drop (at' * n)))).length ≤ 200000
    dsimp only at w3
    omega
set_option maxRecDepth 100000 in
set_option maxHeartbeats 1000000 in
theorem parts_early (p : Pl) (s : ByteArray) (at' : Nat) (w : World) (hat : at' < 65536) (hs : s.size ≤ 9223372036854775807) (h : okP p = false ∨ (okP p = true ∧ 50000 < s.size)) :
    Calls Try.prog 6 #[.agg (plC p), .string s, .int .u16 (at' : Int)] w fun e w' => e = .returned (.bool true) ∧ Below w.heap.size w w' := by
  have A := hide alive_any
  have C := hide (fun W => check_any p W)
  obtain ⟨i, o, sk, ct, se, kp, sw, up, lo, sy⟩ := p
  rcases h with h | ⟨h, hl⟩
  · rw [h] at C
    clear h
    unfold plC at C ⊢
    go_enter Try.func6, Try.ntmps6
    go_wp2_with fail
    refine (unhide A _).mono ?_
    rintro e w1 ⟨rfl, hb1⟩
    have HP1 : Hid (w1.heap[w.heap.size]? = some (PlO ⟨i, o, sk, ct, se, kp, sw, up, lo, sy⟩)) := pl_keep (heap_alloc_new w _) hb1
    have hz1 : w.heap.size < w1.heap.size := heap_lt (unhide HP1)
    have HB1 : Hid (Below w.heap.size w w1) := ((Below.refl _ _).alloc (Nat.le_refl _) _).trans (hb1.mono (by simp))
    obtain ⟨d0, d1, d2, d3, d4, d5, d6, d7, d8, d9⟩ := pl_cells (unhide HP1)
    clear hb1
    go_wp2_with fail
    refine (unhide C _).mono ?_
    rintro e w2 ⟨rfl, rfl⟩
    have HB2 : Hid (Below w.heap.size w (w1.alloc (PlO ⟨i, o, sk, ct, se, kp, sw, up, lo, sy⟩))) := (unhide HB1).alloc (unhide HB1).size _
    clear HB1 HP1 d0 d1 d2 d3 d4 d5 d6 d7 d8 d9 C
    unfold PlO plC at HB2 ⊢
    go_wp2_with fail
    refine (unhide A _).mono ?_
    rintro e w3 ⟨rfl, hb3⟩
    have HB3 : Hid (Below w.heap.size w w3) := (unhide HB2).trans (hb3.mono (unhide HB2).size)
    clear hb3 A HB2
    go_wp2_with fail
    go_ret
    exact ⟨rfl, unhide HB3⟩
  · have hl' : (50000 : Int) < (s.size : Int) := by omega
    rw [h] at C
    clear h hl
    unfold plC at C ⊢
    go_enter Try.func6, Try.ntmps6
    go_wp2_with fail
    refine (unhide A _).mono ?_
    rintro e w1 ⟨rfl, hb1⟩
    have HP1 : Hid (w1.heap[w.heap.size]? = some (PlO ⟨i, o, sk, ct, se, kp, sw, up, lo, sy⟩)) := pl_keep (heap_alloc_new w _) hb1
    have hz1 : w.heap.size < w1.heap.size := heap_lt (unhide HP1)
    have HB1 : Hid (Below w.heap.size w w1) := ((Below.refl _ _).alloc (Nat.le_refl _) _).trans (hb1.mono (by simp))
    obtain ⟨d0, d1, d2, d3, d4, d5, d6, d7, d8, d9⟩ := pl_cells (unhide HP1)
    clear hb1
    go_wp2_with fail
    refine (unhide C _).mono ?_
    rintro e w2 ⟨rfl, rfl⟩
    have HB2 : Hid (Below w.heap.size w (w1.alloc (PlO ⟨i, o, sk, ct, se, kp, sw, up, lo, sy⟩))) := (unhide HB1).alloc (unhide HB1).size _
    clear HB1 HP1 d0 d1 d2 d3 d4 d5 d6 d7 d8 d9 C
    unfold PlO plC at HB2 ⊢
    go_wp2_with fail
    refine (unhide A _).mono ?_
    rintro e w3 ⟨rfl, hb3⟩
    have HB3 : Hid (Below w.heap.size w w3) := (unhide HB2).trans (hb3.mono (unhide HB2).size)
    clear hb3 A HB2
    go_wp2_with fail
    go_ret
    exact ⟨rfl, unhide HB3⟩
set_option maxRecDepth 100000 in
set_option maxHeartbeats 1000000 in
theorem parts_walk (p : Pl) (s : ByteArray) (at' : Nat) (w : World) (hat : at' < 65536) (hs : s.size ≤ 9223372036854775807) :
    Calls Try.prog 6 #[.agg (plC p), .string s, .int .u16 (at' : Int)] w fun e w' => e = .returned (.bool true) ∧ Below w.heap.size w w' := by
  by_cases h : okP p = false ∨ (okP p = true ∧ 50000 < s.size)
  · exact parts_early p s at' w hat hs h
  · have hok : okP p = true := by cases h' : okP p <;> simp [h'] at h ⊢
    have hl : s.size ≤ 50000 := by
      by_cases h' : 50000 < s.size
      · exact absurd (.inr ⟨hok, h'⟩) h
      · omega
    have A := hide alive_any
    have C := hide (fun W => check_any p W)
    rw [hok] at C
    obtain ⟨i, o, sk, ct, se, kp, sw, up, lo, sy⟩ := p
    obtain ⟨n, rfl⟩ : ∃ n : Nat, i = n := ⟨i.toNat, by have := ((okP_iff _).1 hok).1.1; dsimp only at this; omega⟩
    obtain ⟨X, Y, a0, a1, b0, b1, a2, a3, b2, b3, c2, c3, c0, c1, zX, zY, la0, la1, lb0, lb1, hc0, hc1, r1, r2, r3⟩ := parts_all n o sk ct se kp sw up lo sy hok at' hat s hl
    have R1 := hide (run_is _ s ⟨#[]⟩ (X ++ Y) r1)
    have R2 := hide (run_is _ s ⟨#[]⟩ X r2)
    have R3 := hide (run_is _ s ⟨#[]⟩ Y r3)
    have hl' : ¬ (50000 : Int) < (s.size : Int) := by omega
    have hsz : ¬ 9223372036854775807 < X.size + Y.size := by omega
    have HC0 : Hid ((a0 : Int) + (b0 : Int) = (c0 : Int)) := by show (a0 : Int) + (b0 : Int) = (c0 : Int); omega
    have HC1 : Hid ((a1 : Int) + (b1 : Int) = (c1 : Int)) := by show (a1 : Int) + (b1 : Int) = (c1 : Int); omega
    clear hc0 hc1
    clear h hok r1 r2 r3 hl
    unfold plC at C R1 R2 R3 ⊢
    go_enter Try.func6, Try.ntmps6
    go_wp2_with fail
    refine (unhide A _).mono ?_
    rintro e w1 ⟨rfl, hb1⟩
    have HPw1 : Hid (w1.heap[w.heap.size]? = some (PlO ⟨n, o, sk, ct, se, kp, sw, up, lo, sy⟩)) := pl_keep (heap_alloc_new w _) hb1
    have hzw1 : w.heap.size < w1.heap.size := heap_lt (unhide HPw1)
    have HKw : Hid (w.heap.size ≤ w.heap.size) := Nat.le_refl _
    have HB1 : Hid (Below w.heap.size w w1) := ((Below.refl _ _).alloc (Nat.le_refl _) _).trans (hb1.mono (by simp))
    have hfw1 : ∀ j, w1.frozen? ⟨w.heap.size, j, none⟩ = false := Lib.frozen_of_heap (unhide HPw1)
    obtain ⟨d0, d1, d2, d3, d4, d5, d6, d7, d8, d9⟩ := pl_cells (unhide HPw1)
    clear hb1 A
    go_wp2_with fail
    refine (unhide C _).mono ?_
    rintro e w2 ⟨rfl, rfl⟩
    clear C
    unfold PlO plC
    go_wp2_with fail
    refine (unhide R1 _).mono ?_
    rintro e ua ⟨rfl, hbua⟩
    have HPua : Hid (ua.heap[w.heap.size]? = some (PlO ⟨n, o, 0, -1, 0, kp, sw, up, lo, sy⟩)) := pl_keep (p := ⟨n, o, 0, -1, 0, kp, sw, up, lo, sy⟩) ((Below.heap_alloc _ _ _ (by first | exact hzw1 | (simp; exact hzw1))).trans (heap_setCell_same _ _ 3 _ _ _ (heap_setCell_same _ _ 4 _ _ _ (heap_setCell_same _ _ 2 _ _ _ (unhide HPw1))))) hbua
    have hzua : w.heap.size < ua.heap.size := heap_lt (unhide HPua)
    have HLua : Hid (w.heap.size < ua.heap.size) := hzua
    have HBua : Hid (Below w.heap.size w ua) := (((((unhide HB1).setCell (p := ⟨w.heap.size, 2, none⟩) (unhide HKw) _).setCell (p := ⟨w.heap.size, 4, none⟩) (unhide HKw) _).setCell (p := ⟨w.heap.size, 3, none⟩) (unhide HKw) _).alloc ((((unhide HB1).setCell (p := ⟨w.heap.size, 2, none⟩) (unhide HKw) _).setCell (p := ⟨w.heap.size, 4, none⟩) (unhide HKw) _).setCell (p := ⟨w.heap.size, 3, none⟩) (unhide HKw) _).size _).trans (hbua.mono (by have h9 := (unhide HB1).size; simp; omega))
    clear hbua
    have hfua : ∀ j, ua.frozen? ⟨w.heap.size, j, none⟩ = false := Lib.frozen_of_heap (unhide HPua)
    obtain ⟨d0, d1, d2, d3, d4, d5, d6, d7, d8, d9⟩ := pl_cells (unhide HPua)
    go_wp2_with fail
    refine (unhide R2 _).mono ?_
    rintro e ub ⟨rfl, hbub⟩
    have HPub : Hid (ub.heap[w.heap.size]? = some (PlO ⟨n, o, 0, at', 0, kp, sw, up, lo, sy⟩)) := pl_keep (p := ⟨n, o, 0, at', 0, kp, sw, up, lo, sy⟩) ((Below.heap_alloc _ _ _ (by first | exact hzua | (simp; exact hzua))).trans (heap_setCell_same _ _ 3 _ _ _ (unhide HPua))) hbub
    have hzub : w.heap.size < ub.heap.size := heap_lt (unhide HPub)
    have HNuaub : Hid (ub.heap[ua.heap.size]? = some (.cells #[.int .i64 (c0 : Int), .int .i64 (c1 : Int), .int .i64 (c2 : Int), .int .i64 (c3 : Int)] 26 (0, 0))) := four_keep (by have h9 := heap_alloc_new (ua.setCell ⟨w.heap.size, 3, none⟩ (.int .i64 (at' : Int))) (.cells #[.int .i64 (c0 : Int), .int .i64 (c1 : Int), .int .i64 (c2 : Int), .int .i64 (c3 : Int)] 26); simpa only [World.size_setCell] using h9) hbub
    have HLub : Hid (w.heap.size < ub.heap.size) := hzub
    have HBub : Hid (Below w.heap.size w ub) := (((unhide HBua).setCell (p := ⟨w.heap.size, 3, none⟩) (unhide HKw) _).alloc ((unhide HBua).setCell (p := ⟨w.heap.size, 3, none⟩) (unhide HKw) _).size _).trans (hbub.mono (by have h9 := (unhide HBua).size; simp; omega))
    clear hbub d0 d1 d2 d3 d4 d5 d6 d7 d8 d9 hfua hzua HPua
    have hfub : ∀ j, ub.frozen? ⟨w.heap.size, j, none⟩ = false := Lib.frozen_of_heap (unhide HPub)
    obtain ⟨d0, d1, d2, d3, d4, d5, d6, d7, d8, d9⟩ := pl_cells (unhide HPub)
    go_wp2_with fail
    refine (unhide R3 _).mono ?_
    rintro e uc ⟨rfl, hbuc⟩
    have HPuc : Hid (uc.heap[w.heap.size]? = some (PlO ⟨n, o, at', -1, 0, kp, sw, up, lo, sy⟩)) := pl_keep (p := ⟨n, o, at', -1, 0, kp, sw, up, lo, sy⟩) ((Below.heap_alloc _ _ _ (by first | exact hzub | (simp; exact hzub))).trans (heap_setCell_same _ _ 2 _ _ _ (heap_setCell_same _ _ 3 _ _ _ (unhide HPub)))) hbuc
    have hzuc : w.heap.size < uc.heap.size := heap_lt (unhide HPuc)
    have HNubuc : Hid (uc.heap[ub.heap.size]? = some (.cells #[.int .i64 (a0 : Int), .int .i64 (a1 : Int), .int .i64 (a2 : Int), .int .i64 (a3 : Int)] 26 (0, 0))) := four_keep (by have h9 := heap_alloc_new ((ub.setCell ⟨w.heap.size, 3, none⟩ (.int .i64 (-1))).setCell ⟨w.heap.size, 2, none⟩ (.int .i64 (at' : Int))) (.cells #[.int .i64 (a0 : Int), .int .i64 (a1 : Int), .int .i64 (a2 : Int), .int .i64 (a3 : Int)] 26); simpa only [World.size_setCell] using h9) hbuc
    have HNuauc : Hid (uc.heap[ua.heap.size]? = some (.cells #[.int .i64 (c0 : Int), .int .i64 (c1 : Int), .int .i64 (c2 : Int), .int .i64 (c3 : Int)] 26 (0, 0))) := four_keep ((Below.heap_alloc _ _ _ (by have h9 := heap_lt (unhide HNuaub); simpa only [World.size_setCell] using h9)).trans ((heap_setCell_other _ _ _ _ (by have := unhide HLua; simp; omega)).trans ((heap_setCell_other _ _ _ _ (by have := unhide HLua; simp; omega)).trans (unhide HNuaub)))) hbuc
    have HLuc : Hid (w.heap.size < uc.heap.size) := hzuc
    have HBuc : Hid (Below w.heap.size w uc) := ((((unhide HBub).setCell (p := ⟨w.heap.size, 3, none⟩) (unhide HKw) _).setCell (p := ⟨w.heap.size, 2, none⟩) (unhide HKw) _).alloc (((unhide HBub).setCell (p := ⟨w.heap.size, 3, none⟩) (unhide HKw) _).setCell (p := ⟨w.heap.size, 2, none⟩) (unhide HKw) _).size _).trans (hbuc.mono (by have h9 := (unhide HBub).size; simp; omega))
    clear hbuc d0 d1 d2 d3 d4 d5 d6 d7 d8 d9 hfub hzub HPub
    have HB9 := hide ((unhide HBuc).alloc (unhide HBuc).size (.cells #[.int .i64 (b0 : Int), .int .i64 (b1 : Int), .int .i64 (b2 : Int), .int .i64 (b3 : Int)] 26))
    have la := heap_lt (unhide HNuauc)
    have lb := heap_lt (unhide HNubuc)
    have hc0 := unhide HC0
    have hc1 := unhide HC1
    obtain ⟨m0, m1, _, _, _⟩ := four_cells (unhide HNuauc)
    obtain ⟨k0, k1, _, _, _⟩ := four_cells (unhide HNubuc)
    clear R1 R2 R3
    go_wp2_with fail
    go_ret
    exact ⟨rfl, unhide HB9⟩
end Go.Proofs.Ytebnmjelelkcmaa.Bk
