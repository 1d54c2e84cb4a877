/- What the document's Match answers: the walk. -/
import Derived.Test.YtelijbnamiefcaaGlRefM
namespace Go.Proofs.Ytelijbnamiefcaa.Gl
open Go.RowKit

set_option maxRecDepth 100000 in
theorem rt_cells {w : World} {B n cap : Nat} {a : Option Addr} {us : List Th} (h : w.ownsRow B 49 257 (.slice a n cap) n (rtc us)) (h0 : 0 < n) :
    ∃ g, a = some ⟨g, 0, none⟩ ∧ g < w.heap.size ∧ n ≤ cap ∧ ∀ i t, us[i]? = some t → w.cell? ⟨g, i * 257, none⟩ = some (.bool t.star) ∧ ∀ c : UInt8, w.cell? ⟨g, i * 257 + 1 + c.toNat, none⟩ = some (.bool (t.p c)) := by
  rcases h.2 with ⟨_, hn⟩ | ⟨g, cap', cur, hv, _, hg, hle, _⟩
  · omega
  · simp at hv
    obtain ⟨rfl, rfl⟩ := hv
    have e : ∀ j, (⟨g, 0, none⟩ : Addr).add j = ⟨g, j, none⟩ := fun j => by unfold Addr.add; split <;> simp_all
    refine ⟨g, rfl, (Array.getElem?_eq_some_iff.1 hg).1, hle, fun i t ht => ⟨?_, fun c => ?_⟩⟩
    · have h1 := h.cells (g := g) rfl (i * 257 + 0) (.bool t.star) (by rw [rtc_get us i t ht 0 (by decide), rcs_0])
      rw [e] at h1
      exact h1
    · have hc := c.toNat_lt
      have h1 := h.cells (g := g) rfl (i * 257 + (1 + c.toNat)) (.bool (t.p c)) (by rw [rtc_get us i t ht (1 + c.toNat) (by omega), rcs_at])
      rw [e, ← Nat.add_assoc] at h1
      exact h1
set_option maxHeartbeats 2000000 in
set_option maxRecDepth 100000 in
theorem rmatch_any (s n : ByteArray) (w : World) (hs : s.size ≤ 4611686018427387904) (hn : n.size ≤ 5000) :
    Calls Try.prog 12 #[.string s, .string n] w fun e w' => e = .returned (.bool (matchP (bs s) (bs n))) ∧ Below w.heap.size w w' := by
  have HR := hide (things_any s w hs)
  have hmp : Hid (matchP (bs s) (bs n) = match readP (bs s) with
    | none => false
    | some ts => mt ts (bs n)) := rfl
  obtain ⟨R, hR⟩ : ∃ R, R = matchP (bs s) (bs n) := ⟨_, rfl⟩
  rw [← hR] at hmp ⊢
  clear hR
  go_enter Try.func12, Try.ntmps12
  go_wp2_with fail
  refine (unhide HR).mono ?_
  rintro e w1 ⟨h | ⟨ts, v, hts, htl, hs4, rfl, hO⟩, hb1⟩
  · obtain ⟨h1, rfl⟩ := h
    have hf : Hid (R = false) := by rw [unhide hmp, h1]; rfl
    clear hmp h1 HR
    go_wp2_with fail
    go_ret
    exact ⟨by rw [unhide hf]; rfl, hb1⟩
  · have hmt : Hid (R = mt (ts.map norm) (bs n)) := by rw [unhide hmp, hts]; exact (mt_norm ts (bs n)).symm
    have hul : (ts.map norm).length = ts.length := List.length_map _
    obtain ⟨us, hus⟩ : ∃ us, us = ts.map norm := ⟨_, rfl⟩
    rw [← hus] at hmt hO hul
    obtain ⟨a, cap, hv⟩ : ∃ a cap, v = .slice a ts.length cap := by
      rcases hO.2 with ⟨hv, h0⟩ | ⟨g, cap, cur, hv, _⟩
      · exact ⟨none, 0, by rw [hv, h0]⟩
      · exact ⟨_, _, hv⟩
    subst hv
    have HO := hide hO
    have HUL := hide hul
    have HB1 := hide hb1
    generalize ts.length = L at *
    obtain ⟨i0, hi, hz0, hz1, hz2⟩ := info_parts Try.infoBl
    have hnm : Hid (n.size + 1 ≤ maxLen) := by show _ ≤ _; unfold maxLen; omega
    have hsz1 := hb1.size
    clear hmp hts HR hO hb1 hus hul
    go_wp2_with (at_make; refine wpList_make_full _ rfl _ _ 46 rfl w1.heap.size 4 i0 _ 1 Try.underlying46 hi hz0 hz1 _ _ _ _ (n.size + 1) rfl rfl (by push_cast; rfl) (by push_cast; rfl) (by rw [hz2]; omega) (unhide hnm) (Nat.le_refl _) ?_)
    intro w2 hown2 hgrow2
    have hA0 : Bl w2 w1.heap.size (n.size + 1) (fun _ => false) := by
      refine bl_of_own (B := w1.heap.size) ?_
      rw [toList_madeCells_one] at hown2
      exact hown2
    have hB2 := hide (below_of_grown hgrow2)
    have hcz := hA0.cell 0 (by omega)
    have hfz := hA0.frozen 0
    have hA1 : Hid (Bl (w2.setCell ⟨w1.heap.size, 0, none⟩ (.bool true)) w1.heap.size (n.size + 1) (fun i => decide (i = 0))) := (hA0.set 0 true).eq fun i => by by_cases e : i = 0 <;> simp [e]
    have hB3 : Hid (Below w1.heap.size w1 (w2.setCell ⟨w1.heap.size, 0, none⟩ (.bool true))) := (unhide hB2).setCell (p := ⟨w1.heap.size, 0, none⟩) (Nat.le_refl _) _
    have hf0 : Hid (∀ i, i ≤ n.size → decide (i = 0) = mt (us.take 0) ((bs n).take i)) := fun i hi => by
      rw [List.take_zero]
      show _ = ((bs n).take i).isEmpty
      rw [Bool.eq_iff_iff, List.isEmpty_iff, List.take_eq_nil_iff, decide_eq_true_iff]
      constructor
      · intro h; exact .inl h
      · rintro (h | h)
        · exact h
        · have : n.size = 0 := by rw [← bs_len, h]; rfl
          omega
    clear hown2 hgrow2 hA0
    go_wp2_with fail
    clear hcz hfz
    generalize w2.setCell ⟨w1.heap.size, 0, none⟩ (.bool true) = w3 at *
    clear hB2
    go_loopw [7, 8] (fun v7 v8 wr => ∃ (k g : Nat) (f : Nat → Bool), k ≤ L ∧ v8 = .int .i64 k ∧ v7 = .slice (some ⟨g, 0, none⟩) (n.size + 1) (n.size + 1) ∧ w1.heap.size ≤ g ∧ Hid (Bl wr g (n.size + 1) f) ∧ Hid (∀ i, i ≤ n.size → f i = mt (us.take k) ((bs n).take i)) ∧ Hid (Below w1.heap.size w1 wr)) (fun _ v8 _ => L - (intOf v8).toNat)
    case atStart => exact ⟨0, w1.heap.size, _, Nat.zero_le _, rfl, rfl, Nat.le_refl _, hA1, hf0, hB3⟩
    case round =>
      clear hA1 hf0 hB3
      obtain ⟨k, g, f, hk, rfl, rfl, hg, hA, hf, hB⟩ := hrel
      by_cases hlt : k < L
      · have hlt' : (k : Int) < (L : Int) := by omega
        obtain ⟨t, ht⟩ : ∃ t, us[k]? = some t := ⟨_, List.getElem?_eq_getElem (by rw [unhide HUL]; exact hlt)⟩
        obtain ⟨g0, rfl, hg0, hcapn, hcs⟩ := rt_cells (unhide HO) (by omega)
        obtain ⟨hst, hin⟩ := hcs k t ht
        have hts := hide (take_snoc us k t ht)
        have hgr := (unhide hA).lt
        have hszr := (unhide hB).size
        have HIN := hide hin
        clear hcs hin ht
        go_wp2_with (at_make; refine wpList_make_full _ rfl _ _ 46 rfl wr.heap.size 4 i0 _ 1 Try.underlying46 hi hz0 hz1 _ _ _ _ (n.size + 1) rfl rfl (by push_cast; rfl) (by push_cast; rfl) (by rw [hz2]; omega) (unhide hnm) (Nat.le_refl _) ?_)
        intro w4 hown4 hgrow4
        have hN0 : Hid (Bl w4 wr.heap.size (n.size + 1) (fun _ => false)) := by
          refine bl_of_own (B := wr.heap.size) ?_
          rw [toList_madeCells_one] at hown4
          exact hown4
        have hb4 := below_of_grown hgrow4
        have hA4 := hide ((unhide hA).below hb4)
        have hB4 := hide ((unhide hB).trans (hb4.mono hszr))
        clear hown4 hgrow4 hb4 hA hB
        generalize hGe : wr.heap.size = G at *
        clear hGe
        have hgG : g ≠ G := by omega
        go_wp2_with fail
        go_loopw [10] (fun v10 wq => ∃ (i : Nat) (h : Nat → Bool), i ≤ n.size + 1 ∧ v10 = .int .i64 i ∧ Hid (Bl wq G (n.size + 1) h) ∧ Hid (∀ j, j < i → h j = mt (us.take (k + 1)) ((bs n).take j)) ∧ Hid (Bl wq g (n.size + 1) f) ∧ Hid (Below w1.heap.size w1 wq)) (fun v10 _ => n.size + 1 - (intOf v10).toNat)
        case atStart => exact ⟨0, _, by omega, rfl, hN0, fun j hj => absurd hj (Nat.not_lt_zero j), hA4, hB4⟩
        case round =>
          clear hN0 hA4 hB4
          obtain ⟨i, h, hi1, rfl, hN, hh, hA, hB⟩ := hrel
          have hs0 := ((unhide hB).cell (p := ⟨g0, k * 257, none⟩) hg0).trans hst
          by_cases hile : i ≤ n.size
          · have hile' : (i : Int) ≤ (n.size : Int) := by omega
            have hai := (unhide hA).cell i (by omega)
            have hfi := hide (unhide hf i hile)
            have hni := (unhide hN).cell i (by omega)
            have hfz := (unhide hN).frozen i
            have nxt : Hid (∀ x, x = mt (us.take (k + 1)) ((bs n).take i) → Bl (wr.setCell ⟨G, i, none⟩ (.bool x)) G (n.size + 1) (fun j => if j = i then x else h j) ∧ (∀ j, j < i + 1 → (if j = i then x else h j) = mt (us.take (k + 1)) ((bs n).take j)) ∧ Bl (wr.setCell ⟨G, i, none⟩ (.bool x)) g (n.size + 1) f ∧ Below w1.heap.size w1 (wr.setCell ⟨G, i, none⟩ (.bool x))) := fun x hx =>
              ⟨(unhide hN).set i x, fun j hj => by
                by_cases e : j = i
                · rw [if_pos e, e]; exact hx
                · rw [if_neg e]; exact unhide hh j (by omega), (unhide hA).other _ _ hgG, (unhide hB).setCell (p := ⟨G, i, none⟩) (by show w1.heap.size ≤ G; omega) _⟩
            cases hstar : t.star
            · rw [hstar] at hs0
              have hro := row_one (us.take k) hstar (bs n) i hile
              rw [← unhide hts] at hro
              by_cases hi0 : 0 < i
              · obtain ⟨j, rfl⟩ : ∃ j, i = j + 1 := ⟨i - 1, by omega⟩
                have haj := (unhide hA).cell j (by omega)
                have hjn : j < n.size := by omega
                have hgd : (bs n).getD j 0 = n[j] := by rw [List.getD_eq_getElem?_getD, List.getElem?_eq_getElem (by rw [bs_len]; exact hjn)]; rfl
                cases hfv : f j
                · rw [hfv] at haj
                  have hx : Hid (false = mt (us.take (k + 1)) ((bs n).take (j + 1))) := by
                    show _ = _
                    rw [hro]
                    simp only []
                    rw [← unhide hf j (by omega), hfv]; rfl
                  clear hgd
                  obtain ⟨r1, r2, r3, r4⟩ := unhide nxt false (unhide hx)
                  have R1 := hide r1
                  have R2 := hide r2
                  have R3 := hide r3
                  have R4 := hide (below_drew1 r4)
                  clear r1 r2 r3 r4 nxt hx hro hN hh hA hB hfi
                  go_wp2_with fail
                  go_region
                  go_wp2_with fail
                  go_roundw
                  case rel => exact ⟨j + 1 + 1, _, by omega, by go_num, R1, R2, R3, R4⟩
                  case measure => simp [intOf]; omega
                · rw [hfv] at haj
                  obtain ⟨y, hy⟩ : ∃ y, y = t.p n[j] := ⟨_, rfl⟩
                  have hcc := ((unhide hB).cell (p := ⟨g0, k * 257 + 1 + n[j].toNat, none⟩) hg0).trans (unhide HIN n[j])
                  rw [← hy] at hcc
                  have h256 : (n[j].toNat : Int) < 256 := by have := n[j].toNat_lt; omega
                  have hx : Hid (y = mt (us.take (k + 1)) ((bs n).take (j + 1))) := by
                    show _ = _
                    rw [hro]
                    simp only []
                    rw [← unhide hf j (by omega), hfv, hgd, hy]; rfl
                  clear hy hgd
                  obtain ⟨r1, r2, r3, r4⟩ := unhide nxt y (unhide hx)
                  have R1 := hide r1
                  have R2 := hide r2
                  have R3 := hide r3
                  have R4 := hide (below_drew1 r4)
                  clear r1 r2 r3 r4 nxt hx hro hN hh hA hB hfi
                  go_wp2_with fail
                  go_region
                  go_wp2_with fail
                  go_roundw
                  case rel => exact ⟨j + 1 + 1, _, by omega, by go_num, R1, R2, R3, R4⟩
                  case measure => simp [intOf]; omega
              · have hi0' : ¬ (0 : Int) < (i : Int) := by omega
                have hx : Hid (false = mt (us.take (k + 1)) ((bs n).take i)) := by
                  show _ = _
                  rw [hro]
                  obtain rfl : i = 0 := by omega
                  rfl
                obtain ⟨r1, r2, r3, r4⟩ := unhide nxt false (unhide hx)
                have R1 := hide r1
                have R2 := hide r2
                have R3 := hide r3
                have R4 := hide (below_drew1 r4)
                clear r1 r2 r3 r4 nxt hx hro hN hh hA hB hfi
                go_wp2_with fail
                go_region
                go_wp2_with fail
                go_roundw
                case rel => exact ⟨i + 1, _, by omega, by go_num, R1, R2, R3, R4⟩
                case measure => simp [intOf]; omega
            · rw [hstar] at hs0
              have hro := row_star (us.take k) hstar (bs n) i hile
              rw [← unhide hts] at hro
              cases hfv : f i
              · rw [hfv] at hai
                by_cases hi0 : 0 < i
                · obtain ⟨j, rfl⟩ : ∃ j, i = j + 1 := ⟨i - 1, by omega⟩
                  have hnj := (unhide hN).cell j (by omega)
                  obtain ⟨y, hy⟩ : ∃ y, y = h j := ⟨_, rfl⟩
                  rw [← hy] at hnj
                  have hx : Hid (y = mt (us.take (k + 1)) ((bs n).take (j + 1))) := by
                    show _ = _
                    rw [hro, ← unhide hfi, hfv, hy, unhide hh j (by omega)]; simp
                  clear hy
                  obtain ⟨r1, r2, r3, r4⟩ := unhide nxt y (unhide hx)
                  have R1 := hide r1
                  have R2 := hide r2
                  have R3 := hide r3
                  have R4 := hide r4
                  clear r1 r2 r3 r4 nxt hx hro hN hh hA hB hfi
                  go_wp2_with fail
                  go_roundw
                  case rel => exact ⟨j + 1 + 1, _, by omega, by go_num, R1, R2, R3, R4⟩
                  case measure => simp [intOf]; omega
                · have hi0' : ¬ (0 : Int) < (i : Int) := by omega
                  have hx : Hid (false = mt (us.take (k + 1)) ((bs n).take i)) := by
                    show _ = _
                    rw [hro, ← unhide hfi, hfv]
                    obtain rfl : i = 0 := by omega
                    rfl
                  obtain ⟨r1, r2, r3, r4⟩ := unhide nxt false (unhide hx)
                  have R1 := hide r1
                  have R2 := hide r2
                  have R3 := hide r3
                  have R4 := hide r4
                  clear r1 r2 r3 r4 nxt hx hro hN hh hA hB hfi
                  go_wp2_with fail
                  go_roundw
                  case rel => exact ⟨i + 1, _, by omega, by go_num, R1, R2, R3, R4⟩
                  case measure => simp [intOf]; omega
              · rw [hfv] at hai
                have hx : Hid (true = mt (us.take (k + 1)) ((bs n).take i)) := by
                  show _ = _
                  rw [hro, ← unhide hfi, hfv]; rfl
                obtain ⟨r1, r2, r3, r4⟩ := unhide nxt true (unhide hx)
                have R1 := hide r1
                have R2 := hide r2
                have R3 := hide r3
                have R4 := hide r4
                clear r1 r2 r3 r4 nxt hx hro hN hh hA hB hfi
                go_wp2_with fail
                go_roundw
                case rel => exact ⟨i + 1, _, by omega, by go_num, R1, R2, R3, R4⟩
                case measure => simp [intOf]; omega
          · have hile' : ¬ (i : Int) ≤ (n.size : Int) := by omega
            have hf' : Hid (∀ j, j ≤ n.size → h j = mt (us.take (k + 1)) ((bs n).take j)) := fun j hj => unhide hh j (by omega)
            clear hh hA
            go_wp2_with fail
            go_roundw
            case rel => exact ⟨k + 1, G, h, by omega, by go_num, rfl, by omega, hN, hf', hB⟩
            case measure => simp [intOf]; omega
      · have hlt' : ¬ (k : Int) < (L : Int) := by omega
        have hfin : Hid (R = f n.size) := by
          show _ = _
          rw [unhide hmt, unhide hf n.size (Nat.le_refl _), List.take_of_length_le (by rw [unhide HUL]; omega), List.take_of_length_le (by rw [bs_len]; exact Nat.le_refl _)]
        have hce := (unhide hA).cell n.size (by omega)
        have hB9 := hide ((unhide HB1).trans ((unhide hB).mono (unhide HB1).size))
        clear hf hA hB hmt
        go_wp2_with fail
        go_ret
        exact ⟨by rw [unhide hfin]; rfl, unhide hB9⟩
end Go.Proofs.Ytelijbnamiefcaa.Gl
