/- BlocksCounts, walked. -/
import Derived.Test.YtebnmjelelkcmaaBkIs
set_option linter.unusedVariables false
namespace Go.Proofs.Ytebnmjelelkcmaa.Bk
open Go.RowKit Go.Shelf Cu

theorem zero_ans (p : Pl) (s : Bs) (hok : okP p = true) (h0 : p.se = 0) (hs : s.length ≤ 50000) :
    runP p s [] = ⟨went p (tkn p s), whole p.i.toNat (tkn p s), parted p.i.toNat (tkn p s), (went p (tkn p s)).length / p.o.toNat, if (went p (tkn p s)).length % p.o.toNat = 0 then 0 else 1, 0⟩ := by
  obtain ⟨⟨g1, g2⟩, _⟩ := (okP_iff _).1 hok
  have hw := went_le2 p s g1
  rw [runP_ok p s [] hok (by omega) (by simp) (by rw [h0, Int.zero_mul]; simp; omega), put_zero p _ _ h0]
  simp
theorem counts_all (n q : Nat) (sk ct se : Int) (kp sw up lo sy : Bool) (hok : okP ⟨n, q, sk, ct, se, kp, sw, up, lo, sy⟩ = true) (hn : n ≤ 100) (s : ByteArray) (hs : s.size ≤ 5000) :
    ∃ (X : ByteArray) (c0 c1 c2 c3 : Nat), X.size ≤ 5100 ∧ c0 ≤ 5000 ∧ c1 ≤ 1 ∧ c2 = X.size / q ∧ c3 = (X.size % q + q - 1) / q ∧ c3 ≤ 1 ∧ (sy = true → X.size = (c0 + c1) * n) ∧ (sy = false → X.size = c0 * n + if c1 = 1 then s.size % n else 0) ∧ (ct < 0 ∨ ((c0 + c1 : Nat) : Int) ≤ ct) ∧
    runP ⟨n, q, sk, ct, 0, kp, sw, up, lo, sy⟩ (bs s) [] = ⟨bs X, c0, c1, c2, c3, 0⟩ := by
  obtain ⟨⟨g1, g2⟩, ⟨g3, g4⟩, ⟨g5, g6⟩, ⟨g7, g8⟩, g9⟩ := (okP_iff _).1 hok
  dsimp only at g1 g2 g3 g4 g5 g6 g9
  have hsl : (bs s).length ≤ 5000 := by rw [bs_len]; exact hs
  have k1 : okP ⟨n, q, sk, ct, 0, kp, sw, up, lo, sy⟩ = true := (okP_iff _).2 ⟨⟨g1, g2⟩, ⟨g3, g4⟩, ⟨g5, g6⟩, ⟨by simp, by simp⟩, g9⟩
  have r1 := zero_ans ⟨n, q, sk, ct, 0, kp, sw, up, lo, sy⟩ (bs s) k1 rfl (by omega)
  have w1 := went_le2 ⟨n, q, sk, ct, 0, kp, sw, up, lo, sy⟩ (bs s) g1
  have l1 := tkn_len ⟨n, q, sk, ct, 0, kp, sw, up, lo, sy⟩ (bs s) g1
  have m1 := tkn_mem ⟨n, q, sk, ct, 0, kp, sw, up, lo, sy⟩ (bs s) g1
  obtain ⟨z, hz⟩ : ∃ z : Nat, sk = z := ⟨sk.toNat, by omega⟩
  have hzn : (sk * (n : Int)).toNat = n * z := by rw [hz, ← Int.natCast_mul, Int.toNat_natCast, Nat.mul_comm]
  have hT : tkn ⟨n, q, sk, ct, 0, kp, sw, up, lo, sy⟩ (bs s) = takeC ct (ch n ((bs s).drop (n * z))) := by
    unfold tkn
    simp only [Int.toNat_natCast, hzn]
  obtain ⟨i1, i2, i3⟩ := counts n (by omega) _ ((bs s).drop (n * z)) ct (Nat.le_refl _)
  have hmod : parted n (takeC ct (ch n ((bs s).drop (n * z)))) = 1 → ((bs s).drop (n * z)).length % n = s.size % n := by
    intro h
    by_cases hle : n * z ≤ s.size
    · rw [List.length_drop, bs_len, Nat.sub_mul_mod hle]
    · rw [bs_end s (n * z) (by omega), ch_nil, takeC_nil] at h
      simp [parted] at h
  have hcl : ct < 0 ∨ ((takeC ct (ch n ((bs s).drop (n * z)))).length : Int) ≤ ct := by
    by_cases h : ct < 0
    · exact .inl h
    · refine .inr ?_
      unfold takeC
      rw [if_neg h, List.length_take]
      omega
  rw [hT] at r1 w1 l1 m1
  dsimp only at r1 w1 m1
  simp only [Int.toNat_natCast] at r1 w1 m1
  have hs1 : sy = true → (went ⟨n, q, sk, ct, 0, kp, sw, up, lo, sy⟩ (takeC ct (ch n ((bs s).drop (n * z))))).length = (takeC ct (ch n ((bs s).drop (n * z)))).length * n := fun h => went_sync ⟨n, q, sk, ct, 0, kp, sw, up, lo, sy⟩ _ h (fun b hb => (m1 b hb).2)
  have hs2 : sy = false → (went ⟨n, q, sk, ct, 0, kp, sw, up, lo, sy⟩ (takeC ct (ch n ((bs s).drop (n * z))))).length = (takeC ct (ch n ((bs s).drop (n * z)))).flatten.length := fun h => went_plain ⟨n, q, sk, ct, 0, kp, sw, up, lo, sy⟩ _ h
  generalize takeC ct (ch n ((bs s).drop (n * z))) = T at *
  generalize went ⟨n, q, sk, ct, 0, kp, sw, up, lo, sy⟩ T = G at *
  have r3 := rest3 G.length q (by omega)
  have h3 : (G.length % q + q - 1) / q ≤ 1 := by rw [r3]; split <;> omega
  rw [← r3] at r1
  refine ⟨bt G, whole n T, parted n T, _, _, ?_, by omega, i1, rfl, rfl, h3, ?_, ?_, ?_, r1⟩
  · show G.length ≤ 5100; omega
  · intro h
    show G.length = _
    rw [hs1 h, ← i3]
  · intro h
    show G.length = _
    rw [hs2 h, i2, Nat.mul_comm]
    by_cases hp : parted n T = 1
    · rw [if_pos hp, if_pos hp, hmod hp]
    · rw [if_neg hp, if_neg hp]
  · rcases hcl with h | h
    · exact .inl h
    · exact .inr (by rw [i3]; exact h)
set_option maxRecDepth 100000 in
set_option maxHeartbeats 1000000 in
theorem counts_early (p : Pl) (s : ByteArray) (w : World) (hs : s.size ≤ 9223372036854775807) (h : okP p = false ∨ (okP p = true ∧ (5000 < s.size ∨ 100 < p.i))) :
    Calls Try.prog 8 #[.agg (plC p), .string s] w fun e w' => e = .returned (.bool true) ∧ Below w.heap.size w w' := by
  have A := hide alive_any
  have C := hide (fun W => check_any p W)
  obtain ⟨i, o, sk, ct, se, kp, sw, up, lo, sy⟩ := p
  dsimp only at h
  by_cases h0 : okP ⟨i, o, sk, ct, se, kp, sw, up, lo, sy⟩ = false
  · rw [h0] at C
    clear h h0
    unfold plC at C ⊢
    go_enter Try.func8, Try.ntmps8
    go_wp2_with fail
    refine (unhide A _).mono ?_
    rintro e w1 ⟨rfl, hb1⟩
    have HP1 : Hid (w1.heap[w.heap.size]? = some (PlO ⟨i, o, sk, ct, se, kp, sw, up, lo, sy⟩)) := pl_keep (heap_alloc_new w _) hb1
    have hz1 : w.heap.size < w1.heap.size := heap_lt (unhide HP1)
    have HB1 : Hid (Below w.heap.size w w1) := ((Below.refl _ _).alloc (Nat.le_refl _) _).trans (hb1.mono (by simp))
    obtain ⟨d0, d1, d2, d3, d4, d5, d6, d7, d8, d9⟩ := pl_cells (unhide HP1)
    clear hb1
    go_wp2_with fail
    refine (unhide C _).mono ?_
    rintro e w2 ⟨rfl, rfl⟩
    have HB2 : Hid (Below w.heap.size w (w1.alloc (PlO ⟨i, o, sk, ct, se, kp, sw, up, lo, sy⟩))) := (unhide HB1).alloc (unhide HB1).size _
    clear HB1 HP1 C
    unfold PlO plC at HB2 ⊢
    go_wp2_with fail
    refine (unhide A _).mono ?_
    rintro e w3 ⟨rfl, hb3⟩
    have HB3 : Hid (Below w.heap.size w w3) := (unhide HB2).trans (hb3.mono (unhide HB2).size)
    clear hb3 A HB2
    go_wp2_with fail
    go_ret
    exact ⟨rfl, unhide HB3⟩
  by_cases h1 : 5000 < s.size
  · have h1' : (5000 : Int) < (s.size : Int) := by omega
    rw [show okP ⟨i, o, sk, ct, se, kp, sw, up, lo, sy⟩ = true by simpa using h0] at C
    clear h h0 h1
    unfold plC at C ⊢
    go_enter Try.func8, Try.ntmps8
    go_wp2_with fail
    refine (unhide A _).mono ?_
    rintro e w1 ⟨rfl, hb1⟩
    have HP1 : Hid (w1.heap[w.heap.size]? = some (PlO ⟨i, o, sk, ct, se, kp, sw, up, lo, sy⟩)) := pl_keep (heap_alloc_new w _) hb1
    have hz1 : w.heap.size < w1.heap.size := heap_lt (unhide HP1)
    have HB1 : Hid (Below w.heap.size w w1) := ((Below.refl _ _).alloc (Nat.le_refl _) _).trans (hb1.mono (by simp))
    obtain ⟨d0, d1, d2, d3, d4, d5, d6, d7, d8, d9⟩ := pl_cells (unhide HP1)
    clear hb1
    go_wp2_with fail
    refine (unhide C _).mono ?_
    rintro e w2 ⟨rfl, rfl⟩
    have HB2 : Hid (Below w.heap.size w (w1.alloc (PlO ⟨i, o, sk, ct, se, kp, sw, up, lo, sy⟩))) := (unhide HB1).alloc (unhide HB1).size _
    clear HB1 HP1 C
    unfold PlO plC at HB2 ⊢
    go_wp2_with fail
    refine (unhide A _).mono ?_
    rintro e w3 ⟨rfl, hb3⟩
    have HB3 : Hid (Below w.heap.size w w3) := (unhide HB2).trans (hb3.mono (unhide HB2).size)
    clear hb3 A HB2
    go_wp2_with fail
    go_ret
    exact ⟨rfl, unhide HB3⟩
  · have h1' : ¬ (5000 : Int) < (s.size : Int) := by omega
    have h2' : 100 < i := by
      rcases h with h | ⟨_, h⟩
      · exact absurd h h0
      · rcases h with h | h
        · exact absurd h h1
        · exact h
    rw [show okP ⟨i, o, sk, ct, se, kp, sw, up, lo, sy⟩ = true by simpa using h0] at C
    clear h h0 h1
    unfold plC at C ⊢
    go_enter Try.func8, Try.ntmps8
    go_wp2_with fail
    refine (unhide A _).mono ?_
    rintro e w1 ⟨rfl, hb1⟩
    have HP1 : Hid (w1.heap[w.heap.size]? = some (PlO ⟨i, o, sk, ct, se, kp, sw, up, lo, sy⟩)) := pl_keep (heap_alloc_new w _) hb1
    have hz1 : w.heap.size < w1.heap.size := heap_lt (unhide HP1)
    have HB1 : Hid (Below w.heap.size w w1) := ((Below.refl _ _).alloc (Nat.le_refl _) _).trans (hb1.mono (by simp))
    obtain ⟨d0, d1, d2, d3, d4, d5, d6, d7, d8, d9⟩ := pl_cells (unhide HP1)
    clear hb1
    go_wp2_with fail
    refine (unhide C _).mono ?_
    rintro e w2 ⟨rfl, rfl⟩
    have HB2 : Hid (Below w.heap.size w (w1.alloc (PlO ⟨i, o, sk, ct, se, kp, sw, up, lo, sy⟩))) := (unhide HB1).alloc (unhide HB1).size _
    clear HB1 HP1 C
    unfold PlO plC at HB2 ⊢
    go_wp2_with fail
    refine (unhide A _).mono ?_
    rintro e w3 ⟨rfl, hb3⟩
    have HB3 : Hid (Below w.heap.size w w3) := (unhide HB2).trans (hb3.mono (unhide HB2).size)
    clear hb3 A HB2
    go_wp2_with fail
    go_ret
    exact ⟨rfl, unhide HB3⟩

set_option maxRecDepth 100000 in
set_option maxHeartbeats 1000000 in
theorem counts_walk (p : Pl) (s : ByteArray) (w : World) (hs : s.size ≤ 9223372036854775807) :
    Calls Try.prog 8 #[.agg (plC p), .string s] w fun e w' => e = .returned (.bool true) ∧ Below w.heap.size w w' := by
  by_cases h : okP p = false ∨ (okP p = true ∧ (5000 < s.size ∨ 100 < p.i))
  · exact counts_early p s w hs h
  · have hok : okP p = true := by cases h' : okP p <;> simp [h'] at h ⊢
    have hl : s.size ≤ 5000 ∧ p.i ≤ 100 := by
      by_cases h' : 5000 < s.size ∨ 100 < p.i
      · exact absurd (.inr ⟨hok, h'⟩) h
      · omega
    have A := hide alive_any
    have C := hide (fun W => check_any p W)
    rw [hok] at C
    obtain ⟨i, o, sk, ct, se, kp, sw, up, lo, sy⟩ := p
    dsimp only at hl
    have hk := (okP_iff _).1 hok
    dsimp only at hk
    obtain ⟨n, rfl⟩ : ∃ n : Nat, i = n := ⟨i.toNat, by omega⟩
    obtain ⟨q, rfl⟩ : ∃ q : Nat, o = q := ⟨o.toNat, by omega⟩
    obtain ⟨X, c0, c1, c2, c3, zX, l0, l1, e2, e3, l3, hy1, hy2, hct, r1⟩ := counts_all n q sk ct se kp sw up lo sy hok (by omega) s hl.1
    have R1 := hide (run_is _ s ⟨#[]⟩ X r1)
    have hl1 : ¬ (5000 : Int) < (s.size : Int) := by omega
    have hl2 : ¬ (100 : Int) < (n : Int) := by omega
    have hn1 : 1 ≤ (n : Int) := by omega
    have hq1 : 1 ≤ (q : Int) := by omega
    have hq2 : (q : Int) ≤ 65536 := by omega
    have E2 := hide e2
    have E3 := hide e3
    have HY1 := hide hy1
    have HY2 := hide hy2
    have HCT := hide hct
    clear h hok r1 hl hk e2 e3 hy1 hy2 hct
    unfold plC at C R1 ⊢
    go_enter Try.func8, Try.ntmps8
    go_wp2_with fail
    refine (unhide A _).mono ?_
    rintro e w1 ⟨rfl, hb1⟩
    have HPw1 : Hid (w1.heap[w.heap.size]? = some (PlO ⟨n, q, sk, ct, se, kp, sw, up, lo, sy⟩)) := pl_keep (heap_alloc_new w _) hb1
    have hzw1 : w.heap.size < w1.heap.size := heap_lt (unhide HPw1)
    have HKw : Hid (w.heap.size ≤ w.heap.size) := Nat.le_refl _
    have HB1 : Hid (Below w.heap.size w w1) := ((Below.refl _ _).alloc (Nat.le_refl _) _).trans (hb1.mono (by simp))
    have hfw1 : ∀ j, w1.frozen? ⟨w.heap.size, j, none⟩ = false := Lib.frozen_of_heap (unhide HPw1)
    obtain ⟨d0, d1, d2, d3, d4, d5, d6, d7, d8, d9⟩ := pl_cells (unhide HPw1)
    clear hb1 A
    go_wp2_with fail
    refine (unhide C _).mono ?_
    rintro e w2 ⟨rfl, rfl⟩
    clear C
    unfold PlO plC
    go_wp2_with fail
    refine (unhide R1 _).mono ?_
    rintro e ua ⟨rfl, hbua⟩
    have HPua : Hid (ua.heap[w.heap.size]? = some (PlO ⟨n, q, sk, ct, 0, kp, sw, up, lo, sy⟩)) := pl_keep (p := ⟨n, q, sk, ct, 0, kp, sw, up, lo, sy⟩) ((Below.heap_alloc _ _ _ (by first | exact hzw1 | (simp; exact hzw1))).trans (heap_setCell_same _ _ 4 _ _ _ (unhide HPw1))) hbua
    have hzua : w.heap.size < ua.heap.size := heap_lt (unhide HPua)
    have HLua : Hid (w.heap.size < ua.heap.size) := hzua
    have HBua : Hid (Below w.heap.size w ua) := (((unhide HB1).setCell (p := ⟨w.heap.size, 4, none⟩) (unhide HKw) _).alloc ((unhide HB1).setCell (p := ⟨w.heap.size, 4, none⟩) (unhide HKw) _).size _).trans (hbua.mono (by have h9 := (unhide HB1).size; simp; omega))
    clear hbua
    clear R1 d0 d1 d2 d3 d4 d5 d6 d7 d8 d9 hfw1
    obtain ⟨d0, d1, d2, d3, d4, d5, d6, d7, d8, d9⟩ := pl_cells (unhide HPua)
    have HB9 : Hid (∀ k, Below w.heap.size w ((ua.alloc (.cells #[.int .i64 (c0 : Int), .int .i64 (c1 : Int), .int .i64 (c2 : Int), .int .i64 (c3 : Int)] 26)).drewN k)) := fun k => ((unhide HBua).alloc (unhide HBua).size _).trans ((below_drew _ k).mono (by have := (unhide HBua).size; simp; omega))
    go_wp2_with fail
    have t0 : decide ((c0 : Int) < 0) = false := by simp
    have t1 : decide ((c1 : Int) < 0) = false := by simp
    have t2 : decide (1 < (c1 : Int)) = false := by rw [decide_eq_false_iff_not]; omega
    have t3 : decide ((c3 : Int) < 0) = false := by simp
    have t4 : decide (1 < (c3 : Int)) = false := by rw [decide_eq_false_iff_not]; omega
    have hq0 : ((q : Int) == 0) = false := by simp; omega
    have hq3 : ¬ q = 0 := by omega
    have hdv : (X.size : Int) / (q : Int) = (c2 : Int) := by rw [unhide E2]; simp
    have hl2' : c2 ≤ 5100 := by rw [unhide E2]; exact Nat.le_trans (Nat.div_le_self _ _) zX
    have hwr : IntKind.i64.wrap (c2 : Int) = (c2 : Int) := by rw [IntWalk.i64_left]; unfold wrap64; omega
    obtain ⟨r, hr⟩ : ∃ r, r = X.size % q := ⟨_, rfl⟩
    have hrq : r < q := by rw [hr]; exact Nat.mod_lt _ (by omega)
    have htm : (X.size : Int).tmod (q : Int) = (r : Int) := by rw [Int.tmod_eq_emod_of_nonneg (by omega), hr]; simp
    have hwa : IntKind.i64.wrap ((r : Int) + (q : Int)) = (r : Int) + (q : Int) := by rw [IntWalk.i64_left]; unfold wrap64; omega
    have hwb : IntKind.i64.wrap ((r : Int) + (q : Int) - 1) = (r : Int) + (q : Int) - 1 := by rw [IntWalk.i64_left]; unfold wrap64; omega
    have hdw : ((r : Int) + (q : Int) - 1) / (q : Int) = (c3 : Int) := by
      rw [unhide E3, ← hr, show (r : Int) + (q : Int) - 1 = ((r + q - 1 : Nat) : Int) from by omega]
      simp
    have hdw2 : ((r : Int) + (q : Int) - 1).tdiv (q : Int) = (c3 : Int) := by rw [Int.tdiv_eq_ediv_of_nonneg (by omega)]; exact hdw
    have hdv2 : (X.size : Int).tdiv (q : Int) = (c2 : Int) := by rw [Int.tdiv_eq_ediv_of_nonneg (by omega)]; exact hdv
    have hwc : IntKind.i64.wrap (c3 : Int) = (c3 : Int) := by rw [IntWalk.i64_left]; unfold wrap64; omega
    clear hr
    go_quiet (fail)
    clear hq0 hq3 hdv hwr htm hwa hwb hdw hdw2 hdv2 hwc t0 t1 t2 t3 t4
    have hF := unhide HB9 nq
    have HF := hide hF
    clear hF HB9
    cases sy
    · have hy2 := unhide HY2 rfl
      obtain ⟨m, hm⟩ : ∃ m, m = c0 * n := ⟨_, rfl⟩
      have hmm : m ≤ 500000 := by rw [hm]; exact Nat.mul_le_mul (by omega : c0 ≤ 5000) (by omega : n ≤ 100)
      have hm2 : (c0 : Int) * (n : Int) = (m : Int) := by rw [hm]; simp
      rw [← hm] at hy2
      have HCT2 := unhide HCT
      clear hm HY1 HY2 HCT E2 E3
      by_cases hc1 : c1 = 1
      · rw [if_pos hc1] at hy2
        obtain ⟨z, hz⟩ : ∃ z, z = s.size % n := ⟨_, rfl⟩
        have hz2 : (s.size : Int) % (n : Int) = (z : Int) := by rw [hz]; simp
        have hzl : z < n := by rw [hz]; exact Nat.mod_lt _ (by omega)
        rw [← hz] at hy2
        have hy3 : (m : Int) + (z : Int) = (X.size : Int) := by omega
        have hb1 : ((c1 : Int) == 1) = true := by simp [hc1]
        clear hz hy2 hc1
        by_cases hcn : ct < 0
        · clear HCT2
          go_wp2_with fail
          go_ret
          exact ⟨rfl, unhide HF⟩
        · have hle : (c0 : Int) + (c1 : Int) ≤ ct := by rcases HCT2 with h | h <;> omega
          clear HCT2
          go_wp2_with fail
          go_ret
          exact ⟨rfl, unhide HF⟩
      · rw [if_neg hc1] at hy2
        have hy3 : (X.size : Int) = (m : Int) := by omega
        have hb1 : ((c1 : Int) == 1) = false := by simp; omega
        have hb2 : ¬ (c1 : Int) = 1 := by omega
        clear hy2
        by_cases hcn : ct < 0
        · clear HCT2
          go_wp2_with fail
          go_ret
          exact ⟨rfl, unhide HF⟩
        · have hle : (c0 : Int) + (c1 : Int) ≤ ct := by rcases HCT2 with h | h <;> omega
          clear HCT2
          go_wp2_with fail
          go_ret
          exact ⟨rfl, unhide HF⟩
    · have hy1 := unhide HY1 rfl
      have hmm : (c0 + c1) * n ≤ 600000 := by rw [← hy1]; omega
      have hm2 : ((c0 : Int) + (c1 : Int)) * (n : Int) = (X.size : Int) := by rw [hy1]; simp
      clear hmm hy1 HY1 HY2 HCT E2 E3
      go_wp2_with fail
      go_ret
      exact ⟨rfl, unhide HF⟩
end Go.Proofs.Ytebnmjelelkcmaa.Bk
