/- What Match answers. -/
import Derived.Test.YtelijbnamiefcaaGlStep
namespace Go.Proofs.Ytelijbnamiefcaa.Gl
open Go.RowKit

theorem runs_congr {ts : List Th} {A A' : Nat → Bool} {n : Bs} (h : ∀ j, j ≤ (ones ts).length → A j = A' j) : Runs ts A n ↔ Runs ts A' n := by
  constructor
  · rintro ⟨j, hj, h1, h2⟩; exact ⟨j, hj, (h j hj).symm.trans h1, h2⟩
  · rintro ⟨j, hj, h1, h2⟩; exact ⟨j, hj, (h j hj).trans h1, h2⟩

set_option maxHeartbeats 1000000 in
set_option maxRecDepth 100000 in
theorem match_any (s n : ByteArray) (w : World) (hs : s.size ≤ 4611686018427387904) (hn : n.size ≤ 4611686018427387904) :
    Calls Try.prog 11 #[.string s, .string n] w fun e w' => e = .returned (.bool (matchP (bs s) (bs n))) ∧ Below w.heap.size w w' := by
  have HR := hide (read_any s w hs)
  have hmp : Hid (matchP (bs s) (bs n) = match readP (bs s) with
    | none => false
    | some ts => mt ts (bs n)) := rfl
  obtain ⟨R, hR⟩ : ∃ R, R = matchP (bs s) (bs n) := ⟨_, rfl⟩
  rw [← hR] at hmp ⊢
  clear hR
  obtain ⟨hzero, hinf⟩ := zero_of_info Try.infoMach
  obtain ⟨z, hz⟩ : ∃ z, z = mcs (.slice none 0 0) (.slice none 0 0) (.slice none 0 0) zs := ⟨_, rfl⟩
  rw [← hz] at hzero
  have hzs : z.size = 259 := by rw [hz, mcs_size]
  have HI := hide hinf
  clear hz hinf
  go_enter Try.func11, Try.ntmps11
  go_wp2_with fail
  refine (unhide HR).mono ?_
  rintro e w1 ⟨h | ⟨ts, v, hts, htl, hs4, rfl, hth⟩, hb1⟩
  · obtain ⟨h1, rfl⟩ := h
    have hf : Hid (R = false) := by rw [unhide hmp, h1]; rfl
    clear hmp h1 HR
    go_wp2_with fail
    go_ret
    exact ⟨by rw [unhide hf]; rfl, hb1⟩
  · have hmt : Hid (R = mt ts (bs n)) := by rw [unhide hmp, hts]; rfl
    obtain ⟨xs, hO, hT⟩ := hth
    obtain ⟨a, cap, hv⟩ : ∃ a cap, v = .slice a ts.length cap := by
      rcases hO.2 with ⟨hv, h0⟩ | ⟨g, cap, cur, hv, _⟩
      · exact ⟨none, 0, by rw [hv, h0]⟩
      · exact ⟨_, _, hv⟩
    subst hv
    have HN := hide (newMachine_any ts a cap xs w.heap.size w1 hO hT (by omega))
    have HB1 := hide hb1
    have hmge : Hid ((ones ts).length < 64 * wordsN (ts.length + 1)) := by
      have h1 := words_ge ts.length
      have h2 := ones_len ts
      show _ < _
      omega
    have hmle := words_le ts.length (by omega)
    have hol : (ones ts).length ≤ 4096 := by have := ones_len ts; omega
    generalize wordsN (ts.length + 1) = m at *
    clear hmp hts HR hO hT hb1
    go_wp2_with fail
    refine (unhide HN).mono ?_
    rintro e w2 ⟨⟨o, g1, g2, S, A, rfl, ⟨ys, hO, hT⟩, hP1, hSj, hP2, hAj, hne, hge1, hge2⟩, hb2⟩
    have hB2 := hide ((unhide HB1).trans (hb2.mono (unhide HB1).size))
    have hsz2 := hb2.size
    have hsz1 := (unhide HB1).size
    obtain ⟨ao, co, ho⟩ : ∃ ao co, o = .slice ao (ones ts).length co := by
      rcases hO.2 with ⟨hv, h0⟩ | ⟨g, cap, cur, hv, _⟩
      · exact ⟨none, 0, by rw [hv, h0]⟩
      · exact ⟨_, _, hv⟩
    subst ho
    obtain ⟨C, hC⟩ : ∃ C, C = mcs (.slice ao (ones ts).length co) (.slice (some ⟨g1, 0, none⟩) m m) (.slice (some ⟨g2, 0, none⟩) m m) zs := ⟨_, rfl⟩
    have hst := hide (run_storeAt_new (P := Try.prog) w2 42 z C (by rw [hC, mcs_size]; exact unhide HI) (by rw [hzs, hC, mcs_size]) (by rw [hC]; exact mcs_one _ _ _ _ rfl rfl rfl (fun _ => rfl)))
    have hbn : Below w2.heap.size w2 (w2.alloc (.cells C 42)) := (Below.refl _ _).alloc (Nat.le_refl _) _
    have hM0 : Hid (Mach (w2.alloc (.cells C 42)) w.heap.size w2.heap.size ts m (.slice ao (ones ts).length co) g1 g2 S A zs) := by
      refine ⟨?_, ⟨ys, _, own_of hO fun k c z hk => ((Sep.of 42 hbn).2 k c _ z hk (by decide)), hT.kt (Kt.of hbn)⟩, hP1.below hbn, hSj, hP2.below hbn, fun _ => .inl rfl, hne, by omega, by omega⟩
      have := heap_alloc_new w2 (.cells C 42)
      rw [hC] at this
      rw [hC]
      exact this
    have hB3 : Hid (Below w.heap.size w (w2.alloc (.cells C 42))) := (unhide hB2).alloc (unhide hB2).size _
    have hRun0 : Hid (Runs ts (hasW A) ((bs n).drop 0) ↔ mt ts (bs n) = true) := by
      rw [List.drop_zero, show hasW A = fun j => decide (j = 0) from funext hAj]
      exact runs_zero ts (bs n)
    rw [← hC]
    clear hO hT hP1 hSj hP2 hAj hge1 hge2 hb2 HN HB1 hC hbn
    go_wp2_with (refine wpList_store_arr _ rfl _ _ 42 rfl _ rfl _ rfl _ (by exact unhide hst) ?_)
    clear hst hzero
    generalize w2.alloc (.cells C 42) = w3 at *
    generalize w2.heap.size = b at *
    go_loopw [8] (fun v8 wr => ∃ (k : Nat) (A : Nat → Wd) (f : UInt8 → Value), k ≤ n.size ∧ v8 = .int .i64 k ∧ Hid (Mach wr w.heap.size b ts m (.slice ao (ones ts).length co) g1 g2 S A f) ∧ Hid (Runs ts (hasW A) ((bs n).drop k) ↔ mt ts (bs n) = true) ∧ Hid (Below w.heap.size w wr)) (fun v8 _ => n.size - (intOf v8).toNat)
    case atStart => exact ⟨0, A, zs, Nat.zero_le _, rfl, hM0, hRun0, hB3⟩
    case round =>
      clear hM0 hRun0 hB3
      obtain ⟨k, A, f, hk, rfl, hM, hRun, hB⟩ := hrel
      by_cases hlt : k < n.size
      · have HS := hide (step_any w.heap.size b ts m _ g1 g2 S A f n[k] wr (unhide hM) hmle hol (unhide hmge))
        have hat := hide (bs_at n k hlt)
        go_wp2_with fail
        refine (unhide HS).mono ?_
        rintro e w5 ⟨f', A', r, rfl, hM', hA', hr', hb5⟩
        have hM5 := hide hM'
        have hB5 : Hid (Below w.heap.size w w5) := (unhide hB).trans hb5
        have hRun5 : Hid (Runs ts (hasW A') ((bs n).drop (k + 1)) ↔ mt ts (bs n) = true) := by
          have h1 : Runs ts (hasW A') ((bs n).drop (k + 1)) ↔ Runs ts (stp ts n[k] (hasW A)) ((bs n).drop (k + 1)) := runs_congr fun j hj => hA' j (by have := unhide hmge; omega)
          have h2 := unhide hRun
          rw [unhide hat, runs_step] at h2
          exact h1.trans h2
        cases r
        · have hf : Hid (R = false) := by
            show _ = _
            rw [unhide hmt, ← Bool.not_eq_true]
            intro h
            obtain ⟨j, hj, h1, _⟩ := (unhide hRun5).2 h
            rw [hr' rfl j (by have := unhide hmge; omega)] at h1
            cases h1
          clear hRun hB hb5 hM' hA' hr' HS hat hM hRun5 hmt
          go_wp2_with fail
          go_ret
          exact ⟨by rw [unhide hf]; rfl, unhide hB5⟩
        · clear hRun hB hb5 hM' hA' hr' HS hat hM
          go_wp2_with fail
          go_roundw
          case rel => exact ⟨k + 1, A', f', by omega, by go_num, hM5, hRun5, hB5⟩
          case measure => simp [intOf]; omega
      · have hend : Hid (R = hasW A (ones ts).length) := by
          have h1 := unhide hRun
          rw [bs_end n k (by omega), runs_nil] at h1
          show _ = _
          rw [unhide hmt, Bool.eq_iff_iff]
          exact h1.symm
        have HH := hide (has_any g2 m (ones ts).length A wr (unhide hM).at' (unhide hmge) hmle)
        have hc0 := (unhide hM).mc.cell0
        have hc2 := (unhide hM).mc.cell2
        clear hRun hM hmt
        go_wp2_with fail
        refine (unhide HH).mono ?_
        rintro e w5 ⟨rfl, rfl⟩
        go_wp2_with fail
        go_ret
        exact ⟨by rw [unhide hend]; rfl, unhide hB⟩
end Go.Proofs.Ytelijbnamiefcaa.Gl
