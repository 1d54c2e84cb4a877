/- BlocksSeeks, walked. -/
import Derived.Test.YtebnmjelelkcmabBkIs
set_option linter.unusedVariables false
namespace Go.Proofs.Ytebnmjelelkcmab.Bk
open Go.RowKit Go.Shelf Cu

theorem drewN_two (w : World) (q n : Nat) : (w.drewN q).drewN n = w.drewN (q + n) := by simp [World.drewN, Nat.add_assoc]
theorem head_len (a : Nat) (t : Bs) : (t.take a ++ List.replicate (a - t.length) 0).length = a := by simp; omega
/-- the three answers -/
theorem seeks_all (n r z : Nat) (sk ct : Int) (sw up lo sy : Bool) (h1 : 1 ≤ n) (h2 : n ≤ 100) (hr : r < 50) (hz : z < 50) (hsk : 0 ≤ sk ∧ sk ≤ 2147483647) (hul : up = false ∨ lo = false) (s t : ByteArray) (hs : s.size ≤ 5000) (ht : t.size ≤ 5000) :
    ∃ (G T X : ByteArray) (a : Nat), a = z * (r + 1) ∧ a ≤ 2450 ∧ G.size ≤ 5100 ∧ T.size = a + G.size ∧ X.size = max t.size (a + G.size) ∧ X.extract 0 T.size = T ∧ T.extract a T.size = G ∧
      (∀ i (h : i < a) (hT : i < T.size), (∀ hi : i < t.size, T[i] = t[i]) ∧ (t.size ≤ i → T[i] = 0)) ∧ (T.size < t.size → X.extract T.size X.size = t.extract T.size t.size) ∧
      (∃ a b c d, runP ⟨n, (r : Int) + 1, sk, ct, 0, false, sw, up, lo, sy⟩ (bs s) [] = ⟨bs G, a, b, c, d, 0⟩) ∧
      (∃ a b c d, runP ⟨n, (r : Int) + 1, sk, ct, z, true, sw, up, lo, sy⟩ (bs s) (bs t) = ⟨bs X, a, b, c, d, 0⟩) ∧
      (∃ a b c d, runP ⟨n, (r : Int) + 1, sk, ct, z, false, sw, up, lo, sy⟩ (bs s) (bs t) = ⟨bs T, a, b, c, d, 0⟩) := by
  have k : ∀ (se : Int) (kp : Bool), 0 ≤ se → se ≤ 49 → okP ⟨n, (r : Int) + 1, sk, ct, se, kp, sw, up, lo, sy⟩ = true := fun se kp g1 g2 => (okP_iff _).2 ⟨⟨by dsimp only; omega, by dsimp only; omega⟩, ⟨by dsimp only; omega, by dsimp only; omega⟩, hsk, ⟨g1, by dsimp only; omega⟩, hul⟩
  have ha : ((z : Int) * ((r : Int) + 1)).toNat = z * (r + 1) := by rw [show (r : Int) + 1 = ((r + 1 : Nat) : Int) from by omega, ← Int.natCast_mul, Int.toNat_natCast]
  have hal : z * (r + 1) ≤ 2450 := Nat.le_trans (Nat.mul_le_mul (by omega : z ≤ 49) (by omega : r + 1 ≤ 50)) (by omega)
  have hsl : (bs s).length ≤ 5000 := by rw [bs_len]; exact hs
  have htl : (bs t).length ≤ 5000 := by rw [bs_len]; exact ht
  have e1 : went ⟨n, (r : Int) + 1, sk, ct, z, true, sw, up, lo, sy⟩ (tkn ⟨n, (r : Int) + 1, sk, ct, z, true, sw, up, lo, sy⟩ (bs s)) = went ⟨n, (r : Int) + 1, sk, ct, 0, false, sw, up, lo, sy⟩ (tkn ⟨n, (r : Int) + 1, sk, ct, 0, false, sw, up, lo, sy⟩ (bs s)) := rfl
  have e2 : went ⟨n, (r : Int) + 1, sk, ct, z, false, sw, up, lo, sy⟩ (tkn ⟨n, (r : Int) + 1, sk, ct, z, false, sw, up, lo, sy⟩ (bs s)) = went ⟨n, (r : Int) + 1, sk, ct, 0, false, sw, up, lo, sy⟩ (tkn ⟨n, (r : Int) + 1, sk, ct, 0, false, sw, up, lo, sy⟩ (bs s)) := rfl
  have hw := went_le2 ⟨n, (r : Int) + 1, sk, ct, 0, false, sw, up, lo, sy⟩ (bs s) (by dsimp only; omega)
  have hw' : (went ⟨n, (r : Int) + 1, sk, ct, 0, false, sw, up, lo, sy⟩ (tkn ⟨n, (r : Int) + 1, sk, ct, 0, false, sw, up, lo, sy⟩ (bs s))).length ≤ 5100 := by
    dsimp only at hw
    simp only [Int.toNat_natCast] at hw
    omega
  have r0 := runP_ok ⟨n, (r : Int) + 1, sk, ct, 0, false, sw, up, lo, sy⟩ (bs s) [] (k 0 false (by omega) (by omega)) (by omega) (by simp) (by rw [Int.zero_mul]; simp only [Int.toNat_zero]; omega)
  have r1 := runP_ok ⟨n, (r : Int) + 1, sk, ct, z, true, sw, up, lo, sy⟩ (bs s) (bs t) (k z true (by omega) (by omega)) (by omega) (by omega) (by rw [e1]; dsimp only; rw [ha]; omega)
  have r2 := runP_ok ⟨n, (r : Int) + 1, sk, ct, z, false, sw, up, lo, sy⟩ (bs s) (bs t) (k z false (by omega) (by omega)) (by omega) (by omega) (by rw [e2]; dsimp only; rw [ha]; omega)
  rw [e1] at r1
  rw [e2] at r2
  rw [put_zero _ _ _ rfl] at r0
  unfold putP at r1 r2
  dsimp only at r0 r1 r2
  rw [if_neg (by simp), List.append_nil] at r0 r2
  rw [if_pos rfl] at r1
  rw [ha] at r1 r2
  generalize went ⟨n, (r : Int) + 1, sk, ct, 0, false, sw, up, lo, sy⟩ (tkn ⟨n, (r : Int) + 1, sk, ct, 0, false, sw, up, lo, sy⟩ (bs s)) = g at *
  generalize z * (r + 1) = a at *
  have hH := head_len a (bs t)
  obtain ⟨H, hHe⟩ : ∃ H, H = (bs t).take a ++ List.replicate (a - (bs t).length) 0 := ⟨_, rfl⟩
  have hHi : ∀ i, i < a → (i < t.size → H[i]? = (bs t)[i]?) ∧ (t.size ≤ i → H[i]? = some 0) := by
    intro i hi
    refine ⟨fun h => ?_, fun h => ?_⟩
    · rw [hHe, List.getElem?_append_left (by rw [List.length_take, bs_len]; omega), List.getElem?_take_of_lt hi]
    · rw [hHe, List.getElem?_append_right (by rw [List.length_take, bs_len]; omega), List.getElem?_replicate, if_pos (by rw [List.length_take, bs_len]; omega)]
  rw [← hHe] at r1 r2 hH
  clear hHe
  have hTl : (H ++ g).length = a + g.length := by rw [List.length_append, hH]
  refine ⟨bt g, bt (H ++ g), bt (H ++ g ++ (bs t).drop (a + g.length)), a, rfl, hal, hw', hTl, ?_, ?_, ?_, ?_, ?_, ⟨_, _, _, _, r0⟩, ⟨_, _, _, _, r1⟩, ⟨_, _, _, _, r2⟩⟩
  · show (H ++ g ++ (bs t).drop (a + g.length)).length = max t.size (a + g.length)
    rw [List.length_append, hTl, List.length_drop, bs_len]
    omega
  · apply ba_ext
    rw [bs_to]
    show (H ++ g ++ (bs t).drop (a + g.length)).take (H ++ g).length = H ++ g
    exact List.take_left
  · apply ba_ext
    rw [bs_from]
    show (H ++ g).drop a = g
    rw [← hH]
    exact List.drop_left
  · intro i hi hT
    have hb : bs (bt (H ++ g)) = H ++ g := rfl
    have hx : (bt (H ++ g))[i] = (H ++ g)[i]'(by rw [hTl]; omega) := rfl
    have hy : (H ++ g)[i]? = H[i]? := List.getElem?_append_left (by omega)
    rw [List.getElem?_eq_getElem (by rw [hTl]; omega)] at hy
    refine ⟨fun h => ?_, fun h => ?_⟩
    · have := (hHi i hi).1 h
      rw [this, List.getElem?_eq_getElem (by rw [bs_len]; exact h)] at hy
      rw [hx]
      exact Option.some.inj hy
    · have := (hHi i hi).2 h
      rw [this] at hy
      rw [hx]
      exact Option.some.inj hy
  · intro h
    apply ba_ext
    rw [bs_from, bs_from]
    show (H ++ g ++ (bs t).drop (a + g.length)).drop (H ++ g).length = (bs t).drop (H ++ g).length
    rw [List.drop_left, hTl]
set_option maxRecDepth 100000 in
set_option maxHeartbeats 1000000 in
theorem seeks_early (p : Pl) (s t : ByteArray) (w : World) (hs : s.size ≤ 9223372036854775807) (ht : t.size ≤ 9223372036854775807) (h : okP p = false ∨ (okP p = true ∧ (5000 < s.size ∨ 5000 < t.size ∨ 100 < p.i))) :
    Calls Try.prog 3 #[.agg (plC p), .string s, .string t] w fun e w' => e = .returned (.bool true) ∧ Below w.heap.size w w' := by
  have A := hide alive_any
  have C := hide (fun W => check_any p W)
  obtain ⟨i, o, sk, ct, se, kp, sw, up, lo, sy⟩ := p
  dsimp only at h
  by_cases h0 : okP ⟨i, o, sk, ct, se, kp, sw, up, lo, sy⟩ = false
  · rw [h0] at C
    clear h h0
    unfold plC at C ⊢
    go_enter Try.func3, Try.ntmps3
    go_wp2_with fail
    refine (unhide A _).mono ?_
    rintro e w1 ⟨rfl, hb1⟩
    have HP1 : Hid (w1.heap[w.heap.size]? = some (PlO ⟨i, o, sk, ct, se, kp, sw, up, lo, sy⟩)) := pl_keep (heap_alloc_new w _) hb1
    have hz1 : w.heap.size < w1.heap.size := heap_lt (unhide HP1)
    have HB1 : Hid (Below w.heap.size w w1) := ((Below.refl _ _).alloc (Nat.le_refl _) _).trans (hb1.mono (by simp))
    obtain ⟨d0, d1, d2, d3, d4, d5, d6, d7, d8, d9⟩ := pl_cells (unhide HP1)
    clear hb1
    go_wp2_with fail
    refine (unhide C _).mono ?_
    rintro e w2 ⟨rfl, rfl⟩
    have HB2 : Hid (Below w.heap.size w (w1.alloc (PlO ⟨i, o, sk, ct, se, kp, sw, up, lo, sy⟩))) := (unhide HB1).alloc (unhide HB1).size _
    clear HB1 HP1 C
    unfold PlO plC at HB2 ⊢
    go_wp2_with fail
    refine (unhide A _).mono ?_
    rintro e w3 ⟨rfl, hb3⟩
    have HB3 : Hid (Below w.heap.size w w3) := (unhide HB2).trans (hb3.mono (unhide HB2).size)
    clear hb3 A HB2
    go_wp2_with fail
    go_ret
    exact ⟨rfl, unhide HB3⟩
  by_cases h1 : 5000 < s.size
  · have h1' : (5000 : Int) < (s.size : Int) := by omega
    rw [show okP ⟨i, o, sk, ct, se, kp, sw, up, lo, sy⟩ = true by simpa using h0] at C
    clear h h0 h1
    unfold plC at C ⊢
    go_enter Try.func3, Try.ntmps3
    go_wp2_with fail
    refine (unhide A _).mono ?_
    rintro e w1 ⟨rfl, hb1⟩
    have HP1 : Hid (w1.heap[w.heap.size]? = some (PlO ⟨i, o, sk, ct, se, kp, sw, up, lo, sy⟩)) := pl_keep (heap_alloc_new w _) hb1
    have hz1 : w.heap.size < w1.heap.size := heap_lt (unhide HP1)
    have HB1 : Hid (Below w.heap.size w w1) := ((Below.refl _ _).alloc (Nat.le_refl _) _).trans (hb1.mono (by simp))
    obtain ⟨d0, d1, d2, d3, d4, d5, d6, d7, d8, d9⟩ := pl_cells (unhide HP1)
    clear hb1
    go_wp2_with fail
    refine (unhide C _).mono ?_
    rintro e w2 ⟨rfl, rfl⟩
    have HB2 : Hid (Below w.heap.size w (w1.alloc (PlO ⟨i, o, sk, ct, se, kp, sw, up, lo, sy⟩))) := (unhide HB1).alloc (unhide HB1).size _
    clear HB1 HP1 C
    unfold PlO plC at HB2 ⊢
    go_wp2_with fail
    refine (unhide A _).mono ?_
    rintro e w3 ⟨rfl, hb3⟩
    have HB3 : Hid (Below w.heap.size w w3) := (unhide HB2).trans (hb3.mono (unhide HB2).size)
    clear hb3 A HB2
    go_wp2_with fail
    go_ret
    exact ⟨rfl, unhide HB3⟩
  by_cases h2 : 5000 < t.size
  · have h1' : ¬ (5000 : Int) < (s.size : Int) := by omega
    have h2' : (5000 : Int) < (t.size : Int) := by omega
    rw [show okP ⟨i, o, sk, ct, se, kp, sw, up, lo, sy⟩ = true by simpa using h0] at C
    clear h h0 h1 h2
    unfold plC at C ⊢
    go_enter Try.func3, Try.ntmps3
    go_wp2_with fail
    refine (unhide A _).mono ?_
    rintro e w1 ⟨rfl, hb1⟩
    have HP1 : Hid (w1.heap[w.heap.size]? = some (PlO ⟨i, o, sk, ct, se, kp, sw, up, lo, sy⟩)) := pl_keep (heap_alloc_new w _) hb1
    have hz1 : w.heap.size < w1.heap.size := heap_lt (unhide HP1)
    have HB1 : Hid (Below w.heap.size w w1) := ((Below.refl _ _).alloc (Nat.le_refl _) _).trans (hb1.mono (by simp))
    obtain ⟨d0, d1, d2, d3, d4, d5, d6, d7, d8, d9⟩ := pl_cells (unhide HP1)
    clear hb1
    go_wp2_with fail
    refine (unhide C _).mono ?_
    rintro e w2 ⟨rfl, rfl⟩
    have HB2 : Hid (Below w.heap.size w (w1.alloc (PlO ⟨i, o, sk, ct, se, kp, sw, up, lo, sy⟩))) := (unhide HB1).alloc (unhide HB1).size _
    clear HB1 HP1 C
    unfold PlO plC at HB2 ⊢
    go_wp2_with fail
    refine (unhide A _).mono ?_
    rintro e w3 ⟨rfl, hb3⟩
    have HB3 : Hid (Below w.heap.size w w3) := (unhide HB2).trans (hb3.mono (unhide HB2).size)
    clear hb3 A HB2
    go_wp2_with fail
    go_ret
    exact ⟨rfl, unhide HB3⟩
  · have h1' : ¬ (5000 : Int) < (s.size : Int) := by omega
    have h2' : ¬ (5000 : Int) < (t.size : Int) := by omega
    have h3' : 100 < i := by
      rcases h with h | ⟨_, h⟩
      · exact absurd h h0
      · rcases h with h | h | h
        · exact absurd h h1
        · exact absurd h h2
        · exact h
    rw [show okP ⟨i, o, sk, ct, se, kp, sw, up, lo, sy⟩ = true by simpa using h0] at C
    clear h h0 h1 h2
    unfold plC at C ⊢
    go_enter Try.func3, Try.ntmps3
    go_wp2_with fail
    refine (unhide A _).mono ?_
    rintro e w1 ⟨rfl, hb1⟩
    have HP1 : Hid (w1.heap[w.heap.size]? = some (PlO ⟨i, o, sk, ct, se, kp, sw, up, lo, sy⟩)) := pl_keep (heap_alloc_new w _) hb1
    have hz1 : w.heap.size < w1.heap.size := heap_lt (unhide HP1)
    have HB1 : Hid (Below w.heap.size w w1) := ((Below.refl _ _).alloc (Nat.le_refl _) _).trans (hb1.mono (by simp))
    obtain ⟨d0, d1, d2, d3, d4, d5, d6, d7, d8, d9⟩ := pl_cells (unhide HP1)
    clear hb1
    go_wp2_with fail
    refine (unhide C _).mono ?_
    rintro e w2 ⟨rfl, rfl⟩
    have HB2 : Hid (Below w.heap.size w (w1.alloc (PlO ⟨i, o, sk, ct, se, kp, sw, up, lo, sy⟩))) := (unhide HB1).alloc (unhide HB1).size _
    clear HB1 HP1 C
    unfold PlO plC at HB2 ⊢
    go_wp2_with fail
    refine (unhide A _).mono ?_
    rintro e w3 ⟨rfl, hb3⟩
    have HB3 : Hid (Below w.heap.size w w3) := (unhide HB2).trans (hb3.mono (unhide HB2).size)
    clear hb3 A HB2
    go_wp2_with fail
    go_ret
    exact ⟨rfl, unhide HB3⟩

set_option maxRecDepth 100000 in
set_option maxHeartbeats 8000000 in
theorem seeks_walk (p : Pl) (s t : ByteArray) (w : World) (hs : s.size ≤ 9223372036854775807) (ht : t.size ≤ 9223372036854775807) :
    Calls Try.prog 3 #[.agg (plC p), .string s, .string t] w fun e w' => e = .returned (.bool true) ∧ Below w.heap.size w w' := by
  by_cases h : okP p = false ∨ (okP p = true ∧ (5000 < s.size ∨ 5000 < t.size ∨ 100 < p.i))
  · exact seeks_early p s t w hs ht h
  · have hok : okP p = true := by cases h' : okP p <;> simp [h'] at h ⊢
    have hl : s.size ≤ 5000 ∧ t.size ≤ 5000 ∧ p.i ≤ 100 := by
      by_cases h' : 5000 < s.size ∨ 5000 < t.size ∨ 100 < p.i
      · exact absurd (.inr ⟨hok, h'⟩) h
      · omega
    have A := hide alive_any
    have C := hide (fun W => check_any p W)
    rw [hok] at C
    obtain ⟨i, o, sk, ct, se, kp, sw, up, lo, sy⟩ := p
    dsimp only at hl
    have hk := (okP_iff _).1 hok
    dsimp only at hk
    obtain ⟨⟨g1, g2⟩, ⟨g3, g4⟩, g5, ⟨g7, g8⟩, g9⟩ := hk
    obtain ⟨n, rfl⟩ : ∃ n : Nat, i = n := ⟨i.toNat, by omega⟩
    obtain ⟨r, hr⟩ : ∃ r : Nat, o % 50 = (r : Int) := ⟨(o % 50).toNat, by omega⟩
    obtain ⟨z, hz⟩ : ∃ z : Nat, se % 50 = (z : Int) := ⟨(se % 50).toNat, by omega⟩
    obtain ⟨G, T, X, a, ha, la, lG, zT, zX, x1, x2, x3, x4, ⟨m0, m1, m2, m3, r0⟩, ⟨c0, c1, c2, c3, r1⟩, ⟨f0, f1, f2, f3, r2⟩⟩ := seeks_all n r z sk ct sw up lo sy (by omega) (by omega) (by omega) (by omega) g5 g9 s t hl.1 hl.2.1
    have R0 := hide (run_is _ s ⟨#[]⟩ G r0)
    have R1 := hide (run_is _ s t X r1)
    have R2 := hide (run_is _ s t T r2)
    have hl1 : ¬ (5000 : Int) < (s.size : Int) := by omega
    have hl2 : ¬ (5000 : Int) < (t.size : Int) := by omega
    have hl3 : ¬ (100 : Int) < (n : Int) := by omega
    have hza : (z : Int) * ((r : Int) + 1) = (a : Int) := by rw [ha]; simp
    have lz : z < 50 := by omega
    have lr : r < 50 := by omega
    have Z1 := hide zT
    have Z2 := hide zX
    have X1 := hide x1
    have X2 := hide x2
    have X3 := hide x3
    have X4 := hide x4
    clear h hok r0 r1 r2 ha zT zX x1 x2 x3 x4
    unfold plC at C R0 R1 R2 ⊢
    go_enter Try.func3, Try.ntmps3
    go_wp2_with fail
    refine (unhide A _).mono ?_
    rintro e w1 ⟨rfl, hb1⟩
    have HPw1 : Hid (w1.heap[w.heap.size]? = some (PlO ⟨n, o, sk, ct, se, kp, sw, up, lo, sy⟩)) := pl_keep (heap_alloc_new w _) hb1
    have hzw1 : w.heap.size < w1.heap.size := heap_lt (unhide HPw1)
    have HKw : Hid (w.heap.size ≤ w.heap.size) := Nat.le_refl _
    have HB1 : Hid (Below w.heap.size w w1) := ((Below.refl _ _).alloc (Nat.le_refl _) _).trans (hb1.mono (by simp))
    have hfw1 : ∀ j, w1.frozen? ⟨w.heap.size, j, none⟩ = false := Lib.frozen_of_heap (unhide HPw1)
    obtain ⟨d0, d1, d2, d3, d4, d5, d6, d7, d8, d9⟩ := pl_cells (unhide HPw1)
    clear hb1 A
    go_wp2_with fail
    refine (unhide C _).mono ?_
    rintro e w2 ⟨rfl, rfl⟩
    clear C
    unfold PlO plC
    go_wp2_with fail
    refine (unhide R0 _).mono ?_
    rintro e ua ⟨rfl, hbua⟩
    have HPua : Hid (ua.heap[w.heap.size]? = some (PlO ⟨n, (r : Int) + 1, sk, ct, z, true, sw, up, lo, sy⟩)) := pl_keep (p := ⟨n, (r : Int) + 1, sk, ct, z, true, sw, up, lo, sy⟩) ((Below.heap_alloc _ _ _ (by first | exact hzw1 | (simp; exact hzw1))).trans (heap_setCell_same _ _ 5 _ _ _ (heap_setCell_same _ _ 1 _ _ _ (heap_setCell_same _ _ 4 _ _ _ (unhide HPw1))))) hbua
    have hzua : w.heap.size < ua.heap.size := heap_lt (unhide HPua)
    have HBua : Hid (Below w.heap.size w ua) := (((((unhide HB1).setCell (p := ⟨w.heap.size, 4, none⟩) (unhide HKw) _).setCell (p := ⟨w.heap.size, 1, none⟩) (unhide HKw) _).setCell (p := ⟨w.heap.size, 5, none⟩) (unhide HKw) _).alloc ((((unhide HB1).setCell (p := ⟨w.heap.size, 4, none⟩) (unhide HKw) _).setCell (p := ⟨w.heap.size, 1, none⟩) (unhide HKw) _).setCell (p := ⟨w.heap.size, 5, none⟩) (unhide HKw) _).size _).trans (hbua.mono (by have h9 := (unhide HB1).size; simp; omega))
    clear hbua
    have hfua : ∀ j, ua.frozen? ⟨w.heap.size, j, none⟩ = false := Lib.frozen_of_heap (unhide HPua)
    obtain ⟨d0, d1, d2, d3, d4, d5, d6, d7, d8, d9⟩ := pl_cells (unhide HPua)
    go_wp2_with fail
    refine (unhide R1 _).mono ?_
    rintro e ub ⟨rfl, hbub⟩
    have HPub : Hid (ub.heap[w.heap.size]? = some (PlO ⟨n, (r : Int) + 1, sk, ct, z, true, sw, up, lo, sy⟩)) := pl_keep (p := ⟨n, (r : Int) + 1, sk, ct, z, true, sw, up, lo, sy⟩) ((Below.heap_alloc _ _ _ (by first | exact hzua | (simp; exact hzua))).trans (unhide HPua)) hbub
    have hzub : w.heap.size < ub.heap.size := heap_lt (unhide HPub)
    have HBub : Hid (Below w.heap.size w ub) := ((unhide HBua).alloc (unhide HBua).size _).trans (hbub.mono (by have h9 := (unhide HBua).size; simp; omega))
    clear hbub d0 d1 d2 d3 d4 d5 d6 d7 d8 d9 hfua hzua HPua
    have hfub : ∀ j, ub.frozen? ⟨w.heap.size, j, none⟩ = false := Lib.frozen_of_heap (unhide HPub)
    obtain ⟨d0, d1, d2, d3, d4, d5, d6, d7, d8, d9⟩ := pl_cells (unhide HPub)
    go_wp2_with fail
    refine (unhide R2 _).mono ?_
    rintro e uc ⟨rfl, hbuc⟩
    have HPuc : Hid (uc.heap[w.heap.size]? = some (PlO ⟨n, (r : Int) + 1, sk, ct, z, false, sw, up, lo, sy⟩)) := pl_keep (p := ⟨n, (r : Int) + 1, sk, ct, z, false, sw, up, lo, sy⟩) ((Below.heap_alloc _ _ _ (by first | exact hzub | (simp; exact hzub))).trans (heap_setCell_same _ _ 5 _ _ _ (unhide HPub))) hbuc
    have hzuc : w.heap.size < uc.heap.size := heap_lt (unhide HPuc)
    have HBuc : Hid (Below w.heap.size w uc) := (((unhide HBub).setCell (p := ⟨w.heap.size, 5, none⟩) (unhide HKw) _).alloc ((unhide HBub).setCell (p := ⟨w.heap.size, 5, none⟩) (unhide HKw) _).size _).trans (hbuc.mono (by have h9 := (unhide HBub).size; simp; omega))
    clear hbuc d0 d1 d2 d3 d4 d5 d6 d7 d8 d9 hfub hzub HPub
    have HB9 : Hid (∀ k, Below w.heap.size w ((uc.alloc (.cells #[.int .i64 (f0 : Int), .int .i64 (f1 : Int), .int .i64 (f2 : Int), .int .i64 (f3 : Int)] 26)).drewN k)) := fun k => ((unhide HBuc).alloc (unhide HBuc).size _).trans ((below_drew _ k).mono (by have := (unhide HBuc).size; simp; omega))
    clear R0 R1 R2
    have t1 : ((T.size : Int) != (a : Int) + (G.size : Int)) = false := by rw [unhide Z1]; simp
    have t2 : ((X.size : Int) != max (t.size : Int) ((a : Int) + (G.size : Int))) = false := by
      have := unhide Z2
      rw [bne_eq_false_iff_eq]
      omega
    have t3 : (T.size : Int) ≤ (X.size : Int) := by have := unhide Z1; have := unhide Z2; omega
    have t4 : (a : Int) ≤ (T.size : Int) := by have := unhide Z1; omega
    have y1 := unhide X1
    have y2 := unhide X2
    clear d0 d1 d2 d3 d4 d5 d6 d7 d8 d9 hfw1 HPw1 HB1 HPuc hza hr hz
    go_wp2_with fail
    clear t1 t2 y1 y2
    generalize (uc.alloc (.cells #[.int .i64 (f0 : Int), .int .i64 (f1 : Int), .int .i64 (f2 : Int), .int .i64 (f3 : Int)] 26)) = W9 at *
    go_loopw [17] (fun v wr => ∃ (k q : Nat), v = .int .i64 k ∧ k ≤ a ∧ Hid (wr = W9.drewN q)) (fun v _ => a - (intOf v).toNat)
    case atStart => exact ⟨0, 0, rfl, Nat.zero_le _, rfl⟩
    case round =>
      obtain ⟨k, q, rfl, hk, hw⟩ := hrel
      rw [unhide hw]
      clear hw
      by_cases hlt : k < a
      · have hlt' : (k : Int) < (a : Int) := by omega
        have hkT : k < T.size := by omega
        have hkT' : (k : Int) < (T.size : Int) := by omega
        obtain ⟨v1, v2⟩ := unhide X3 k hlt hkT
        by_cases hkt : k < t.size
        · have hkt' : (k : Int) < (t.size : Int) := by omega
          have B3 : Hid (((T[k].toNat : Int) != (t[k].toNat : Int)) = false) := by rw [v1 hkt]; simp [Hid]
          clear v1 v2
          go_wp2_with fail
          have b1 : decide ((k : Int) < (t.size : Int)) = true := decide_eq_true hkt'
          have b2 : decide (t.size ≤ k) = false := by rw [decide_eq_false_iff_not]; omega
          have b3 := unhide B3
          go_quiet (fail)
          go_wp2_with fail
          go_roundw
          case rel => exact ⟨k + 1, q + nq, by go_num, by omega, by first | exact rfl | exact drewN_two _ _ _⟩
          case measure => simp [intOf]; omega
        · have B3 : Hid (((T[k].toNat : Int) != 0) = false) := by rw [v2 (by omega)]; exact rfl
          clear v1 v2
          go_wp2_with fail
          have b1 : decide ((k : Int) < (t.size : Int)) = false := by rw [decide_eq_false_iff_not]; omega
          have b0 : decide (k < t.size) = false := by rw [decide_eq_false_iff_not]; omega
          have b2 : decide (t.size ≤ k) = true := by rw [decide_eq_true_iff]; omega
          have b3 := unhide B3
          go_quiet (fail)
          go_wp2_with fail
          go_roundw
          case rel => exact ⟨k + 1, q + nq, by go_num, by omega, by first | exact rfl | exact drewN_two _ _ _⟩
          case measure => simp [intOf]; omega
      · have hlt' : ¬ (k : Int) < (a : Int) := by omega
        have HF := hide (fun q' => unhide HB9 (q + q'))
        by_cases hx : X.size = T.size
        · have B1 : Hid (((X.size : Int) == (T.size : Int)) = true) := by simp [Hid, hx]
          clear hx
          go_wp2_with fail
          have b1 := unhide B1
          go_quiet (fail)
          go_wp2_with fail
          go_ret
          first | exact ⟨rfl, unhide HF nq⟩ | exact ⟨rfl, drewN_two W9 q nq ▸ unhide HF nq⟩
        · have B1 : Hid (((X.size : Int) == (T.size : Int)) = false) := by show (_ == _) = false; simp; omega
          have hTt : T.size < t.size := by have := unhide Z1; have := unhide Z2; omega
          have hTt' : (T.size : Int) ≤ (t.size : Int) := by omega
          clear hx
          go_wp2_with fail
          have y4 := unhide X4 hTt
          have b1 := unhide B1
          go_quiet (fail)
          go_wp2_with fail
          go_ret
          first | exact ⟨rfl, unhide HF nq⟩ | exact ⟨rfl, drewN_two W9 q nq ▸ unhide HF nq⟩
end Go.Proofs.Ytebnmjelelkcmab.Bk
