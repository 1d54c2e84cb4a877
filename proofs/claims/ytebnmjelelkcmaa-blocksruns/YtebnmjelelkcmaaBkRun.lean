/- What Run answers. -/
import Derived.Test.YtebnmjelelkcmaaBkChanged
set_option linter.unusedVariables false
namespace Go.Proofs.Ytebnmjelelkcmaa.Bk
open Go.RowKit Go.Shelf Cu

theorem res_run {X : World} {b : Nat} {tmps : Array Value} {s : ByteArray} {e : Int} {v0 v1 v2 v3 : Value} (h : X.heap[b + 1]? = some (.cells #[v0, v1, v2, v3] 26 (0, 0))) (h4 : tmps.getD 6 undef = .string s) (h5 : tmps.getD 7 undef = .pointer (some ⟨b + 1, 0, none⟩)) (h6 : tmps.getD 8 undef = .int .i64 e) :
    (results Try.f10 tmps).run Try.prog X = .ok (.tuple #[.string s, .agg #[v0, v1, v2, v3], .int .i64 e]) X := by
  obtain ⟨c0, c1, c2, c3, _⟩ := four_cells h
  simp only [Array.getD_eq_getD_getElem?] at h4 h5 h6
  simp [results, Try.results10, h4, h5, h6, go_sem, c0, c1, c2, c3]
theorem zero_at {w : World} {o o2 : Obj} {w2 : World} (h : Below (w.heap.size + 2) ((w.alloc o).alloc o2) w2) : w2.heap[w.heap.size]? = some o ∧ w2.heap[w.heap.size + 1]? = some o2 := by
  refine ⟨(h.block _ (by omega)).trans ?_, (h.block _ (by omega)).trans ?_⟩
  · exact (Below.heap_alloc _ _ _ (by simp)).trans (heap_alloc_new w o)
  · have := heap_alloc_new (w.alloc o) o2
    rwa [World.size_alloc] at this
abbrev Z4 : Obj := .cells #[.int .i64 0, .int .i64 0, .int .i64 0, .int .i64 0] 26

set_option maxRecDepth 100000 in
set_option maxHeartbeats 1000000 in
theorem run_bad (p : Pl) (s t : ByteArray) (w : World) (h : okP p = false) :
    Calls Try.prog 10 #[.agg (plC p), .string s, .string t] w fun e w' => e = .returned (ansV (bad 1)) ∧ Below w.heap.size w w' := by
  have C := hide (check_any p ((w.alloc (PlO p)).alloc Z4))
  rw [h] at C
  clear h
  obtain ⟨i, o, sk, ct, se, kp, sw, up, lo, sy⟩ := p
  unfold PlO plC at C
  unfold plC
  go_enter Try.func10, Try.ntmps10
  go_wp2_with fail
  refine (unhide C).mono ?_
  rintro e w1 ⟨rfl, rfl⟩
  clear C
  go_wp2_with fail
  refine bodyPost_ret (res_run (b := w.heap.size) (v0 := .int .i64 0) (v1 := .int .i64 0) (v2 := .int .i64 0) (v3 := .int .i64 0) (s := ⟨#[]⟩) (e := 1) ?_ rfl rfl rfl) rfl ⟨rfl, ?_⟩
  · exact (zero_at ((Below.refl _ _).alloc (by simp) _)).2
  · exact (((Below.refl _ _).alloc (Nat.le_refl _) _).alloc (by simp) _).alloc (by simp; omega) _
set_option maxRecDepth 100000 in
set_option maxHeartbeats 1000000 in
theorem run_long (p : Pl) (s t : ByteArray) (w : World) (h : okP p = true) (hl : 1048576 < s.size ∨ 1048576 < t.size) :
    Calls Try.prog 10 #[.agg (plC p), .string s, .string t] w fun e w' => e = .returned (ansV (bad 3)) ∧ Below w.heap.size w w' := by
  have C := hide (check_any p ((w.alloc (PlO p)).alloc Z4))
  rw [h] at C
  clear h
  obtain ⟨i, o, sk, ct, se, kp, sw, up, lo, sy⟩ := p
  unfold PlO plC at C
  unfold plC
  by_cases h1 : 1048576 < s.size
  · have h1' : (1048576 : Int) < (s.size : Int) := by omega
    clear hl h1
    go_enter Try.func10, Try.ntmps10
    go_wp2_with fail
    refine (unhide C).mono ?_
    rintro e w1 ⟨rfl, rfl⟩
    clear C
    go_wp2_with fail
    refine bodyPost_ret (res_run (b := w.heap.size) (v0 := .int .i64 0) (v1 := .int .i64 0) (v2 := .int .i64 0) (v3 := .int .i64 0) (s := ⟨#[]⟩) (e := 3) ?_ rfl rfl rfl) rfl ⟨rfl, ?_⟩
    · exact (zero_at ((Below.refl _ _).alloc (by simp) _)).2
    · exact (((Below.refl _ _).alloc (Nat.le_refl _) _).alloc (by simp) _).alloc (by simp; omega) _
  · have h1' : ¬ (1048576 : Int) < (s.size : Int) := by omega
    have h2' : (1048576 : Int) < (t.size : Int) := by omega
    clear hl h1
    go_enter Try.func10, Try.ntmps10
    go_wp2_with fail
    refine (unhide C).mono ?_
    rintro e w1 ⟨rfl, rfl⟩
    clear C
    go_wp2_with fail
    refine bodyPost_ret (res_run (b := w.heap.size) (v0 := .int .i64 0) (v1 := .int .i64 0) (v2 := .int .i64 0) (v3 := .int .i64 0) (s := ⟨#[]⟩) (e := 3) ?_ rfl rfl rfl) rfl ⟨rfl, ?_⟩
    · exact (zero_at ((Below.refl _ _).alloc (by simp) _)).2
    · exact (((Below.refl _ _).alloc (Nat.le_refl _) _).alloc (by simp) _).alloc (by simp; omega) _

theorem went_le (p : Pl) (s : ByteArray) (h1 : 1 ≤ p.i) (h2 : p.i ≤ 65536) (hs : s.size ≤ 1048576) : (bt (went p (tkn p (bs s)))).size ≤ 70000000000 := by
  have a := went_len p (tkn p (bs s)) (fun b hb => (tkn_mem p (bs s) h1 b hb).2)
  have b := tkn_len p (bs s) h1
  rw [bs_len] at b
  have : p.i.toNat * (tkn p (bs s)).length ≤ 65536 * 1048576 := Nat.mul_le_mul (by omega) (by omega)
  show (went p (tkn p (bs s))).length ≤ _
  omega
theorem set4 {W : World} {k : Nat} {a0 a1 a2 a3 : Value} {t : TypeId} (h : W.heap[k]? = some (.cells #[a0, a1, a2, a3] t (0, 0))) (v0 v1 v2 v3 : Value) :
    ((((W.setCell ⟨k, 0, none⟩ v0).setCell ⟨k, 1, none⟩ v1).setCell ⟨k, 2, none⟩ v2).setCell ⟨k, 3, none⟩ v3).heap[k]? = some (.cells #[v0, v1, v2, v3] t (0, 0)) :=
  heap_setCell_same _ k 3 _ _ _ (heap_setCell_same _ k 2 _ _ _ (heap_setCell_same _ k 1 _ _ _ (heap_setCell_same _ k 0 _ _ _ h)))
set_option maxRecDepth 100000 in
set_option maxHeartbeats 1000000 in
theorem run_ok (p : Pl) (s t : ByteArray) (w : World) (h : okP p = true) (h1 : s.size ≤ 1048576) (h2 : t.size ≤ 1048576) :
    Calls Try.prog 10 #[.agg (plC p), .string s, .string t] w fun e w' => e = .returned (ansV (runP p (bs s) (bs t))) ∧ Below w.heap.size w w' := by
  obtain ⟨⟨g1, g2⟩, ⟨g3, g4⟩, ⟨g5, g6⟩, ⟨g7, g8⟩, g9⟩ := (okP_iff _).1 h
  have C := hide (check_any p ((w.alloc (PlO p)).alloc Z4))
  rw [h] at C
  have C2 := hide (changed_any p s (((w.alloc (PlO p)).alloc Z4).alloc (PlO p)) h h1)
  have hgl := went_le p s g1 g2 h1
  have C3 := hide (fun W => put_any p (bt (went p (tkn p (bs s)))) t W g3 g4 g7 g8 hgl h2)
  have HR : Hid (runP p (bs s) (bs t) = if 1048576 < (p.se * p.o).toNat + (went p (tkn p (bs s))).length then bad 3 else ⟨putP p (went p (tkn p (bs s))) (bs t), whole p.i.toNat (tkn p (bs s)), parted p.i.toNat (tkn p (bs s)), (went p (tkn p (bs s))).length / p.o.toNat, if (went p (tkn p (bs s))).length % p.o.toNat = 0 then 0 else 1, 0⟩) := by
    unfold runP
    rw [if_neg (by rw [h]; simp), if_neg (by rw [bs_len, bs_len]; omega)]
    exact rfl
  rw [unhide HR]
  clear HR
  unfold putR at C3
  rw [show bs (bt (went p (tkn p (bs s)))) = went p (tkn p (bs s)) from rfl] at C3
  unfold numV at C2
  generalize went p (tkn p (bs s)) = G at *
  generalize tkn p (bs s) = T at *
  generalize whole p.i.toNat T = c0 at *
  generalize parted p.i.toNat T = c1 at *
  generalize G.length / p.o.toNat = c2 at *
  generalize (if G.length % p.o.toNat = 0 then 0 else 1) = c3 at *
  generalize putP p G (bs t) = R at *
  have H1 : ¬ (1048576 : Int) < (s.size : Int) := by omega
  have H2 : ¬ (1048576 : Int) < (t.size : Int) := by omega
  by_cases hov : 1048576 < (p.se * p.o).toNat + G.length
  · rw [if_pos hov]
    simp only [if_pos hov] at C3
    clear hov h g1 g2 g3 g4 g5 g6 g7 g8 g9 h1 h2 hgl
    obtain ⟨i, o, sk, ct, se, kp, sw, up, lo, sy⟩ := p
    unfold PlO plC at C C2
    unfold plC at C3 ⊢
    go_enter Try.func10, Try.ntmps10
    go_wp2_with fail
    refine (unhide C).mono ?_
    rintro e w1 ⟨rfl, rfl⟩
    clear C
    go_wp2_with fail
    refine (unhide C2).mono ?_
    rintro e w2 ⟨rfl, hb2⟩
    have hB2 : Below (w.heap.size + 2) ((w.alloc (.cells #[.int .i64 i, .int .i64 o, .int .i64 sk, .int .i64 ct, .int .i64 se, .bool kp, .bool sw, .bool up, .bool lo, .bool sy] 23)).alloc Z4) w2 := ((Below.refl _ _).alloc (by simp) _).trans (hb2.mono (by simp))
    have hp2 : w2.heap[w.heap.size]? = some (PlO ⟨i, o, sk, ct, se, kp, sw, up, lo, sy⟩) := (zero_at hB2).1
    have HZ2 := hide (zero_at hB2).2
    have HB2 : Hid (Below w.heap.size w w2) := (((Below.refl _ w).alloc (Nat.le_refl _) _).alloc (by simp) _).trans (hB2.mono (by omega))
    have hz2 : w.heap.size + 1 < w2.heap.size := heap_lt (unhide HZ2)
    have hz2b : w.heap.size < w2.heap.size := by omega
    obtain ⟨d0, d1, d2, d3, d4, d5, d6, d7, d8, d9⟩ := pl_cells hp2
    clear hb2 hB2 C2 hp2
    go_wp2_with fail
    refine (unhide C3 _).mono ?_
    rintro e w3 ⟨rfl, hb3⟩
    have hb3' : Below (w2.heap.size + 1) (w2.alloc (.cells #[.int .i64 (c0 : Int), .int .i64 (c1 : Int), .int .i64 (c2 : Int), .int .i64 (c3 : Int)] 26)) w3 := hb3.mono (by simp)
    have HZ3 : Hid (w3.heap[w.heap.size + 1]? = some Z4) := (hb3'.block _ (by omega)).trans ((Below.heap_alloc _ _ _ (by omega)).trans (unhide HZ2))
    have HN3 : Hid (w3.heap[w2.heap.size]? = some (.cells #[.int .i64 (c0 : Int), .int .i64 (c1 : Int), .int .i64 (c2 : Int), .int .i64 (c3 : Int)] 26 (0, 0))) := (hb3'.block _ (by omega)).trans (heap_alloc_new w2 _)
    have HB3 : Hid (Below w.heap.size w w3) := ((unhide HB2).alloc (unhide HB2).size _).trans (hb3'.mono (by omega))
    obtain ⟨z0, z1, z2, z3, zf⟩ := four_cells (unhide HZ3)
    obtain ⟨m0, m1, m2, m3, mf⟩ := four_cells (unhide HN3)
    clear hb3 hb3' HB2 HZ2 d0 d1 d2 d3 d4 d5 d6 d7 d8 d9 C3
    go_wp2_with fail
    refine bodyPost_ret (res_run (b := w.heap.size) (v0 := .int .i64 0) (v1 := .int .i64 0) (v2 := .int .i64 0) (v3 := .int .i64 0) (s := ⟨#[]⟩) (e := 3) (set4 (unhide HZ3) _ _ _ _) rfl rfl rfl) rfl ⟨rfl, ?_⟩
    exact ((((unhide HB3).setCell (p := ⟨w.heap.size + 1, 0, none⟩) (by simp) _).setCell (p := ⟨w.heap.size + 1, 1, none⟩) (by simp) _).setCell (p := ⟨w.heap.size + 1, 2, none⟩) (by simp) _).setCell (p := ⟨w.heap.size + 1, 3, none⟩) (by simp) _
  · rw [if_neg hov]
    simp only [if_neg hov] at C3
    clear hov h g1 g2 g3 g4 g5 g6 g7 g8 g9 h1 h2 hgl
    obtain ⟨i, o, sk, ct, se, kp, sw, up, lo, sy⟩ := p
    unfold PlO plC at C C2
    unfold plC at C3 ⊢
    go_enter Try.func10, Try.ntmps10
    go_wp2_with fail
    refine (unhide C).mono ?_
    rintro e w1 ⟨rfl, rfl⟩
    clear C
    go_wp2_with fail
    refine (unhide C2).mono ?_
    rintro e w2 ⟨rfl, hb2⟩
    have hB2 : Below (w.heap.size + 2) ((w.alloc (.cells #[.int .i64 i, .int .i64 o, .int .i64 sk, .int .i64 ct, .int .i64 se, .bool kp, .bool sw, .bool up, .bool lo, .bool sy] 23)).alloc Z4) w2 := ((Below.refl _ _).alloc (by simp) _).trans (hb2.mono (by simp))
    have hp2 : w2.heap[w.heap.size]? = some (PlO ⟨i, o, sk, ct, se, kp, sw, up, lo, sy⟩) := (zero_at hB2).1
    have HZ2 := hide (zero_at hB2).2
    have HB2 : Hid (Below w.heap.size w w2) := (((Below.refl _ w).alloc (Nat.le_refl _) _).alloc (by simp) _).trans (hB2.mono (by omega))
    have hz2 : w.heap.size + 1 < w2.heap.size := heap_lt (unhide HZ2)
    have hz2b : w.heap.size < w2.heap.size := by omega
    obtain ⟨d0, d1, d2, d3, d4, d5, d6, d7, d8, d9⟩ := pl_cells hp2
    clear hb2 hB2 C2 hp2
    go_wp2_with fail
    refine (unhide C3 _).mono ?_
    rintro e w3 ⟨rfl, hb3⟩
    have hb3' : Below (w2.heap.size + 1) (w2.alloc (.cells #[.int .i64 (c0 : Int), .int .i64 (c1 : Int), .int .i64 (c2 : Int), .int .i64 (c3 : Int)] 26)) w3 := hb3.mono (by simp)
    have HZ3 : Hid (w3.heap[w.heap.size + 1]? = some Z4) := (hb3'.block _ (by omega)).trans ((Below.heap_alloc _ _ _ (by omega)).trans (unhide HZ2))
    have HN3 : Hid (w3.heap[w2.heap.size]? = some (.cells #[.int .i64 (c0 : Int), .int .i64 (c1 : Int), .int .i64 (c2 : Int), .int .i64 (c3 : Int)] 26 (0, 0))) := (hb3'.block _ (by omega)).trans (heap_alloc_new w2 _)
    have HB3 : Hid (Below w.heap.size w w3) := ((unhide HB2).alloc (unhide HB2).size _).trans (hb3'.mono (by omega))
    obtain ⟨z0, z1, z2, z3, zf⟩ := four_cells (unhide HZ3)
    obtain ⟨m0, m1, m2, m3, mf⟩ := four_cells (unhide HN3)
    clear hb3 hb3' HB2 HZ2 d0 d1 d2 d3 d4 d5 d6 d7 d8 d9 C3
    go_wp2_with fail
    go_region
    go_wp2_with fail
    refine bodyPost_ret (res_run (b := w.heap.size) (v0 := .int .i64 (c0 : Int)) (v1 := .int .i64 (c1 : Int)) (v2 := .int .i64 (c2 : Int)) (v3 := .int .i64 (c3 : Int)) (s := ⟨R.toArray⟩) (e := 0) (set4 (unhide HZ3) _ _ _ _) rfl rfl rfl) rfl ⟨rfl, ?_⟩
    exact (((((unhide HB3).setCell (p := ⟨w.heap.size + 1, 0, none⟩) (by simp) _).setCell (p := ⟨w.heap.size + 1, 1, none⟩) (by simp) _).setCell (p := ⟨w.heap.size + 1, 2, none⟩) (by simp) _).setCell (p := ⟨w.heap.size + 1, 3, none⟩) (by simp) _).drew
theorem run_any (p : Pl) (s t : ByteArray) (w : World) :
    Calls Try.prog 10 #[.agg (plC p), .string s, .string t] w fun e w' => e = .returned (ansV (runP p (bs s) (bs t))) ∧ Below w.heap.size w w' := by
  cases h : okP p
  · have : runP p (bs s) (bs t) = bad 1 := by unfold runP; rw [if_pos h]
    rw [this]
    exact run_bad p s t w h
  · by_cases hl : 1048576 < s.size ∨ 1048576 < t.size
    · have : runP p (bs s) (bs t) = bad 3 := by unfold runP; rw [if_neg (by rw [h]; simp), if_pos (by rw [bs_len, bs_len]; exact hl)]
      rw [this]
      exact run_long p s t w h hl
    · exact run_ok p s t w h (by omega) (by omega)
end Go.Proofs.Ytebnmjelelkcmaa.Bk
