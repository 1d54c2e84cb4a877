/- What newMachine answers. -/
import Derived.Test.YtelijbnamiefcaaGlSep
namespace Go.Proofs.Ytelijbnamiefcaa.Gl
open Go.RowKit

theorem ths_cells {w : World} {B n cap : Nat} {a : Option Addr} {xs : List (Nat × Value)} (h : w.ownsRow B 67 2 (.slice a n cap) n (tc xs)) (h0 : 0 < n) :
    ∃ g, a = some ⟨g, 0, none⟩ ∧ g < w.heap.size ∧ n ≤ cap ∧ ∀ i x, xs[i]? = some x → w.cell? ⟨g, i * 2, none⟩ = some (.int .u8 (x.1 : Int)) ∧ w.cell? ⟨g, i * 2 + 1, none⟩ = some x.2 := by
  rcases h.2 with ⟨_, hn⟩ | ⟨g, cap', cur, hv, _, hg, hle, _⟩
  · omega
  · simp at hv
    obtain ⟨rfl, rfl⟩ := hv
    refine ⟨g, rfl, (Array.getElem?_eq_some_iff.1 hg).1, hle, fun i x hx => ?_⟩
    obtain ⟨g1, g2⟩ := tc_get xs i x hx
    have h1 := h.cells (g := g) rfl _ _ g1
    have h2 := h.cells (g := g) rfl _ _ g2
    have e : ∀ j, (⟨g, 0, none⟩ : Addr).add j = ⟨g, j, none⟩ := fun j => by unfold Addr.add; split <;> simp_all
    rw [e] at h1 h2
    exact ⟨h1, h2⟩
theorem pair_new2 (w : World) (o : Obj) (x y : Value) (e : TypeId) : ∀ j u, [x, y][j]? = some u → ((w.alloc o).alloc (.cells #[x, y] e)).cell? ((⟨w.heap.size + 1, 0, none⟩ : Addr).add j) = some u := by
  have h := pair_new (w.alloc o) x y e
  rw [World.size_alloc] at h
  exact h
theorem take_snoc {α : Type} (l : List α) (k : Nat) (x : α) (h : l[k]? = some x) : l.take (k + 1) = l.take k ++ [x] := by
  rw [List.take_add_one, h]; rfl
theorem ones_app (a b : List Th) : ones (a ++ b) = ones a ++ ones b := by simp [ones]
theorem ones_len (ts : List Th) : (ones ts).length ≤ ts.length := List.length_filter_le _ _
theorem words_ge (n : Nat) : n < 64 * wordsN (n + 1) := by unfold wordsN; omega
theorem words_le (n : Nat) (h : n ≤ 5000) : wordsN (n + 1) ≤ 1000 := by unfold wordsN; omega

set_option maxHeartbeats 1000000 in
set_option maxRecDepth 100000 in
theorem newMachine_any (ts : List Th) (a : Option Addr) (cap : Nat) (xs : List (Nat × Value)) (B : Nat) (w : World) (hO : w.ownsRow B 67 2 (.slice a ts.length cap) ts.length (tc xs)) (hT : TOk w xs ts) (hl : ts.length ≤ 4096) :
    Calls Try.prog 20 #[.slice a ts.length cap] w fun e w' => (∃ (o : Value) (g1 g2 : Nat) (S A : Nat → Wd), e = .returned (.agg (mcs o (.slice (some ⟨g1, 0, none⟩) (wordsN (ts.length + 1)) (wordsN (ts.length + 1))) (.slice (some ⟨g2, 0, none⟩) (wordsN (ts.length + 1)) (wordsN (ts.length + 1))) zs)) ∧ Ths w' w.heap.size o (ones ts) ∧ Pl w' g1 (wordsN (ts.length + 1)) S ∧ (∀ j, hasW S j = stayP ts j) ∧ Pl w' g2 (wordsN (ts.length + 1)) A ∧ (∀ j, hasW A j = decide (j = 0)) ∧ g1 ≠ g2 ∧ w.heap.size ≤ g1 ∧ w.heap.size ≤ g2) ∧ Below w.heap.size w w' := by
  obtain ⟨hzero, hinf⟩ := zero_of_info Try.infoMach
  obtain ⟨z, hz⟩ : ∃ z, z = mcs (.slice none 0 0) (.slice none 0 0) (.slice none 0 0) zs := ⟨_, rfl⟩
  rw [← hz] at hzero
  have hzs : z.size = 259 := by rw [hz, mcs_size]
  have HI := hide hinf
  have HZ := hide hz
  clear hz hinf
  have HO := hide hO
  have HT := hide hT
  clear hO hT
  have HN := hide (fun W => newPlaces_any (ts.length + 1) W (by omega) (by omega))
  have hmge := hide (words_ge ts.length)
  have hmle := words_le ts.length (by omega)
  generalize hn : ts.length = n at *
  have HL := hide hn
  clear hn
  obtain ⟨i0, hi, hz0, hz1, hz2⟩ := info_parts Try.infoThing
  go_enter Try.func20, Try.ntmps20
  go_wp2_with (first | (go_at_call 31; refine (unhide HN _).mono ?_))
  rintro e w1 ⟨rfl, hP1, hb1⟩
  have hg1 : (w.alloc (.cells z 42)).heap.size = w.heap.size + 1 := by simp
  rw [hg1] at hP1 hb1 ⊢
  have hR1 : Hid (w1.heap[w.heap.size]? = some (.cells z 42 (0, 0))) := (hb1.block _ (by simp)).trans (heap_alloc_new w _)
  have hB1 : Hid (Below w.heap.size w w1) := ((Below.refl _ _).alloc (Nat.le_refl _) _).trans (hb1.mono (by simp))
  have hP1' := hide hP1
  clear hb1 hg1 hP1
  go_wp2_with (first | (go_at_call 31; refine (unhide HN _).mono ?_))
  rintro e w2 ⟨rfl, hP2, hb2⟩
  have hP1 := hide ((unhide hP1').below hb2)
  have hR2 : Hid (w2.heap[w.heap.size]? = some (.cells z 42 (0, 0))) := (hb2.block _ (Array.getElem?_eq_some_iff.1 (unhide hR1)).1).trans (unhide hR1)
  have hB2 : Hid (Below w.heap.size w w2) := (unhide hB1).trans (hb2.mono (unhide hB1).size)
  have hP2' := hide hP2
  have hg12 : w.heap.size + 1 < w1.heap.size := (unhide hP1').lt
  have hg2 : w1.heap.size < w2.heap.size := hP2.lt
  generalize hmm : wordsN (n + 1) = m at *
  have HMM := hide hmm
  clear hmm
  generalize w1.heap.size = g2 at *
  clear hb2 hP2 hP1' hR1 hB1 HN
  have hnew : Hid ((w2.alloc (.cells z 42)).heap[w2.heap.size]? = some (.cells z 42 (0, 0))) := heap_alloc_new w2 _
  have hce : Hid ((z.setIfInBounds 1 (.slice (some ⟨w.heap.size + 1, 0, none⟩) m m)).setIfInBounds 2 (.slice (some ⟨g2, 0, none⟩) m m) = mcs (.slice none 0 0) (.slice (some ⟨w.heap.size + 1, 0, none⟩) m m) (.slice (some ⟨g2, 0, none⟩) m m) zs) := by
    show _ = _
    rw [unhide HZ, mcs_set1, mcs_set2]
  have hst := run_store_arr (P := Try.prog) (unhide hnew) (c' := (z.setIfInBounds 1 (.slice (some ⟨w.heap.size + 1, 0, none⟩) m m)).setIfInBounds 2 (.slice (some ⟨g2, 0, none⟩) m m)) (by rw [unhide hce, mcs_size]; exact unhide HI) (by rw [unhide hce, mcs_size, hzs]) (by rw [unhide hce]; exact mcs_one _ _ _ _ rfl rfl rfl (fun _ => rfl))
  obtain ⟨w3, hw3⟩ : ∃ w3, w3 = (w2.alloc (.cells z 42)).setRow w2.heap.size ((z.setIfInBounds 1 (.slice (some ⟨w.heap.size + 1, 0, none⟩) m m)).setIfInBounds 2 (.slice (some ⟨g2, 0, none⟩) m m)) := ⟨_, rfl⟩
  rw [← hw3] at hst
  have HST := hide hst
  have hoth : ∀ k, k < w2.heap.size → w3.heap[k]? = w2.heap[k]? := fun k hk => by
    rw [hw3, setRow_other _ _ _ _ (by omega), Below.heap_alloc _ _ _ hk]
  have hM3 : Hid (Mc w3 w2.heap.size (.slice none 0 0) (.slice (some ⟨w.heap.size + 1, 0, none⟩) m m) (.slice (some ⟨g2, 0, none⟩) m m) zs) := by
    have := setRow_heap _ _ _ ((z.setIfInBounds 1 (.slice (some ⟨w.heap.size + 1, 0, none⟩) m m)).setIfInBounds 2 (.slice (some ⟨g2, 0, none⟩) m m)) _ _ (unhide hnew)
    rw [← hw3, unhide hce] at this
    exact this
  have hB3 : Hid (Below w.heap.size w w3) := by rw [hw3]; exact below_setRow ((unhide hB2).alloc (unhide hB2).size _) (unhide hB2).size _
  have hR3 : Hid (w3.heap[w.heap.size]? = some (.cells z 42 (0, 0))) := (hoth _ (by omega)).trans (unhide hR2)
  have hP3 : Hid (Pl w3 (w.heap.size + 1) m (fun _ => 0)) := (hoth _ (by omega)).trans (unhide hP1)
  have hQ3 : Hid (Pl w3 g2 m (fun _ => 0)) := (hoth _ hg2).trans (unhide hP2')
  have hMge : Hid (w.heap.size ≤ w2.heap.size) := (unhide hB2).size
  have hne1 : Hid (w2.heap.size ≠ w.heap.size) := by show _ ≠ _; omega
  clear hst hw3 hoth hnew hce hR2 hP1 hP2' hB2
  go_wp2_with (refine wpList_store_arr _ rfl _ _ 42 rfl _ rfl _ rfl _ (by exact unhide HST) ?_)
  clear HST hzero
  generalize w2.heap.size = M at *
  go_loopw [17] (fun v17 wr => ∃ (k : Nat) (v : Value) (ys : List (Nat × Value)) (S : Nat → Wd), k ≤ n ∧ v17 = .int .i64 k ∧ Hid (wr.ownsRow w.heap.size 67 2 v (ones (ts.take k)).length (tc ys)) ∧ Hid (TOk wr ys (ones (ts.take k))) ∧ Hid (Mc wr M v (.slice (some ⟨w.heap.size + 1, 0, none⟩) m m) (.slice (some ⟨g2, 0, none⟩) m m) zs) ∧ Hid (Pl wr (w.heap.size + 1) m S) ∧ Hid (∀ j, hasW S j = stayP (ts.take k) j) ∧ Hid (Pl wr g2 m (fun _ => 0)) ∧ Hid (wr.heap[w.heap.size]? = some (.cells z 42 (0, 0))) ∧ Hid (Below w.heap.size w wr)) (fun v17 _ => n - (intOf v17).toNat)
  case atStart => exact ⟨0, .slice none 0 0, [], fun _ => 0, Nat.zero_le _, rfl, World.ownsRow_nil _ _ _ _, TOk.nil _, hM3, hP3, fun j => by simp [hasW, stayP], hQ3, hR3, hB3⟩
  case round =>
    clear hM3 hP3 hQ3 hR3 hB3
    obtain ⟨k, v, ys, S, hk, rfl, hO, hT, hM, hS, hSj, hQ, hR, hB⟩ := hrel
    have hol : (ones (ts.take k)).length ≤ n := by
      have := ones_len (ts.take k)
      rw [List.length_take] at this
      omega
    obtain ⟨L, hL⟩ : ∃ L, L = (ones (ts.take k)).length := ⟨_, rfl⟩
    rw [← hL] at hO hol
    obtain ⟨ao, co, hv⟩ : ∃ ao co, v = .slice ao L co := by
      rcases (unhide hO).2 with ⟨hv, h0⟩ | ⟨g, cap, cur, hv, _⟩
      · exact ⟨none, 0, by rw [hv, h0]⟩
      · exact ⟨_, _, hv⟩
    subst hv
    have HLL := hide hL
    clear hL
    have hm0 := (unhide hM).cell0
    have hm1 := (unhide hM).cell1
    have hm2 := (unhide hM).cell2
    have hMlt := (unhide hM).lt
    have hfz := (unhide hM).frozen 0
    by_cases hlt : k < n
    · obtain ⟨t, ht⟩ : ∃ t, ts[k]? = some t := ⟨_, List.getElem?_eq_getElem (by rw [unhide HL]; exact hlt)⟩
      obtain ⟨⟨kk, f⟩, hx⟩ : ∃ x, xs[k]? = some x := ⟨_, List.getElem?_eq_getElem (by rw [(unhide HT).1, unhide HL]; exact hlt)⟩
      obtain ⟨hk4, hst, hcl⟩ := (unhide HT).2 k _ t hx ht
      obtain ⟨g, rfl, hgl, hcapn, hcs⟩ := ths_cells (unhide HO) (by omega)
      obtain ⟨hc1, hc2⟩ := hcs k _ hx
      have hd1 := ((unhide hB).cell (p := ⟨g, k * 2, none⟩) hgl).trans hc1
      have hd2 := ((unhide hB).cell (p := ⟨g, k * 2 + 1, none⟩) hgl).trans hc2
      have hts := hide (take_snoc ts k t ht)
      have HCL := hide hcl
      obtain ⟨id, cp, hf, _⟩ := hcl
      simp only [] at hd1 hd2 hf hk4 hst
      subst hf
      clear hcs hc1 hc2 hx
      have hsz := (unhide hB).size
      have hstT := hide (run_storeAt_new (P := Try.prog) wr 67 #[.int .u8 0, .nilFunc] #[.int .u8 (kk : Int), .func (.func id) #[] cp] (by rw [hi]; simp [hz1]) rfl (by simp [Value.oneCell']))
      cases hstar : t.star
      · have hkk : ¬ (kk : Int) = 0 := by
          rw [hstar, decide_eq_false_iff_not] at hst; omega
        clear hst
        go_wp2_with (first | (refine wpList_store_arr _ rfl _ _ 67 rfl _ rfl _ rfl _ (by exact unhide hstT) ?_) | (at_builtin; refine wpList_append_own _ rfl _ _ 35 rfl w.heap.size 67 i0 _ 2 16 Try.underlying35 hi hz0 hz1 hz2 rfl (by decide) _ _ _ rfl (((unhide hO).alloc _).alloc _) ⟨wr.heap.size + 1, 0, none⟩ 1 1 [.int .u8 (kk : Int), .func (.func id) #[] cp] rfl rfl (by exact pair_new2 _ _ _ _ _) (pair_one _ _ _ _ _) (by unfold maxLen; omega) (by omega) (by simp; omega) ?_))
        intro v' w9 hown9 hg9 _
        have hsA : Sep 67 wr w9 := ((Sep.of _ ((Below.refl _ _).alloc (Nat.le_refl _) _)).trans (Sep.of _ ((Below.refl _ _).alloc (Nat.le_refl _) _))).trans (Sep.grown hg9 (((unhide hO).alloc _).alloc _))
        have hM9 := hide (hsA.mc (unhide hM) (by decide))
        have hQ9 := hide (hsA.pl (unhide hQ) (by decide))
        have hS9 := hide (hsA.pl (unhide hS) (by decide))
        have hR9 := hide (hsA.2 _ _ _ _ (unhide hR) (by decide))
        have hT9 := hide ((unhide hT).kt (hsA.kt rfl))
        have hK9 : Hid (Tk w9 (kk, .func (.func id) #[] cp) t) := ⟨hk4, by rw [hstar, decide_eq_false]; intro e; exact hkk (congrArg Int.ofNat e), (unhide HCL).kt ((Kt.of (unhide hB)).trans (hsA.kt rfl))⟩
        have hB9 : Hid (Below w.heap.size w w9) := (((unhide hB).alloc hsz _).alloc (by simp; omega) _).grown hg9 (by simp; omega) (fun k hk => ((unhide hO).lt k hk).1)
        obtain ⟨gg, cc, rfl⟩ : ∃ gg cc, v' = .slice (some ⟨gg, 0, none⟩) (L + 1) cc := by
          rcases hown9.2 with ⟨_, h0⟩ | ⟨g, cap, cur, hv, _⟩
          · omega
          · exact ⟨g, cap, hv⟩
        have hO9 := hide hown9
        have hm9 := (unhide hM9).cell0
        have hfz9 := (unhide hM9).frozen 0
        have hsB : Sep 42 w9 (w9.setCell ⟨M, 0, none⟩ (.slice (some ⟨gg, 0, none⟩) (L + 1) cc)) := Sep.set (a := ⟨M, 0, none⟩) (unhide hM9) _
        have hMX := hide ((unhide hM9).set0 (.slice (some ⟨gg, 0, none⟩) (L + 1) cc))
        have hQX := hide (hsB.pl (unhide hQ9) (by decide))
        have hSX := hide (hsB.pl (unhide hS9) (by decide))
        have hRX : Hid ((w9.setCell ⟨M, 0, none⟩ (.slice (some ⟨gg, 0, none⟩) (L + 1) cc)).heap[w.heap.size]? = some (.cells z 42 (0, 0))) := (heap_setCell_other _ _ _ _ (by have := unhide hne1; simp; omega)).trans (unhide hR9)
        have hones : Hid (ones (ts.take (k + 1)) = ones (ts.take k) ++ [t]) := by
          show _ = _
          rw [unhide hts, ones_app, ones_one hstar]; rfl
        have hTX : Hid (TOk (w9.setCell ⟨M, 0, none⟩ (.slice (some ⟨gg, 0, none⟩) (L + 1) cc)) (ys ++ [(kk, .func (.func id) #[] cp)]) (ones (ts.take (k + 1)))) := by
          rw [unhide hones]
          exact ((unhide hT9).snoc (unhide hK9)).kt (hsB.kt rfl)
        have hOX : Hid ((w9.setCell ⟨M, 0, none⟩ (.slice (some ⟨gg, 0, none⟩) (L + 1) cc)).ownsRow w.heap.size 67 2 (.slice (some ⟨gg, 0, none⟩) (L + 1) cc) (ones (ts.take (k + 1))).length (tc (ys ++ [(kk, .func (.func id) #[] cp)]))) := by
          rw [unhide hones, List.length_append, ← unhide HLL, tc_snoc]
          exact hsB.own (unhide hO9) (by decide)
        have hSjX : Hid (∀ j, hasW S j = stayP (ts.take (k + 1)) j) := fun j => by rw [unhide hts, stay_one_end hstar]; exact unhide hSj j
        have hBX : Hid (Below w.heap.size w (w9.setCell ⟨M, 0, none⟩ (.slice (some ⟨gg, 0, none⟩) (L + 1) cc))) := (unhide hB9).setCell (p := ⟨M, 0, none⟩) (unhide hMge) _
        clear hown9 hg9 hsA hsB hM9 hQ9 hS9 hR9 hT9 hK9 hB9 hO9 hones hSj hts hm0 hm1 hm2 hd1 hd2 hfz hstT hO hT hM hS hQ hR hB
        go_wp2_with fail
        go_roundw
        case rel => exact ⟨k + 1, _, _, S, by omega, by go_num, hOX, hTX, hMX, hSX, hSjX, hQX, hRX, hBX⟩
        case measure => simp [intOf]; omega
      · have hkk : (kk : Int) = 0 := by
          rw [hstar, decide_eq_true_iff] at hst; omega
        clear hst
        have HA := hide (fun W hW => add_any (w.heap.size + 1) m L S W hW (by have := unhide hmge; omega) hmle)
        rw [hkk] at hstT hd1
        have hW0 := hide ((Below.refl wr.heap.size wr).alloc (Nat.le_refl _) (.cells #[.int .u8 0, .func (.func id) #[] cp] 67))
        go_wp2_with (refine wpList_store_arr _ rfl _ _ 67 rfl _ rfl _ rfl _ (by exact unhide hstT) ?_)
        refine (unhide HA _ ((unhide hS).below (unhide hW0))).mono ?_
        rintro e w5 ⟨rfl, x, hw5, hP5⟩
        clear hstT
        generalize wr.alloc (.cells #[.int .u8 0, .func (.func id) #[] cp] 67) = W0 at *
        have hs0 : Sep 72 W0 w5 := by
          rw [hw5]; exact (Sep.set (a := ⟨w.heap.size + 1, L / 64, none⟩) ((unhide hS).below (unhide hW0)) x).drew
        have hs5 : Sep 72 wr w5 := (Sep.of _ (unhide hW0)).trans hs0
        have hM5 := hide (hs5.mc (unhide hM) (by decide))
        have hR5 := hide (hs5.2 _ _ _ _ (unhide hR) (by decide))
        have hones : Hid (ones (ts.take (k + 1)) = ones (ts.take k)) := by
          show _ = _
          rw [unhide hts, ones_app, ones_star hstar]; simp [ones]
        have hT5 : Hid (TOk w5 ys (ones (ts.take (k + 1)))) := by rw [unhide hones]; exact (unhide hT).kt (hs5.kt rfl)
        have hO5 : Hid (w5.ownsRow w.heap.size 67 2 (.slice ao L co) (ones (ts.take (k + 1))).length (tc ys)) := by
          rw [unhide hones, ← unhide HLL]; exact hs5.own (unhide hO) (by decide)
        have hQ5 : Hid (Pl w5 g2 m (fun _ => 0)) := by
          rw [hw5]
          exact (((unhide hQ).below (unhide hW0)).other _ _ (by simp; omega)).drew
        have hSj5 : Hid (∀ j, hasW (addW S L) j = stayP (ts.take (k + 1)) j) := fun j => by
          rw [hasW_add, unhide hts, stay_star_end hstar, unhide hSj, ← unhide HLL]
        have hB5 : Hid (Below w.heap.size w w5) := by
          rw [hw5]
          exact below_drew1 (((unhide hB).trans ((unhide hW0).mono (unhide hB).size)).setCell (p := ⟨w.heap.size + 1, L / 64, none⟩) (Nat.le_succ _) _)
        have hP5' := hide hP5
        clear hw5 hs0 hs5 hP5 hM hR hT hO hQ hSj hB HA hW0 hS hones hts hm0 hm1 hm2 hd1 hd2 hfz
        go_wp2_with fail
        go_roundw
        case rel => exact ⟨k + 1, _, _, addW S L, by omega, by go_num, hO5, hT5, hM5, hP5', hSj5, hQ5, hR5, hB5⟩
        case measure => simp [intOf]; omega
    · have hkn : Hid (ts.take k = ts) := List.take_of_length_le (by rw [unhide HL]; omega)
      rw [unhide hkn] at hT hSj HLL
      have HA := hide (add_any g2 m 0 (fun _ => 0) wr (unhide hQ) (by have := unhide hmge; omega) hmle)
      go_wp2_with fail
      refine (unhide HA).mono ?_
      rintro e w5 ⟨rfl, x, hw5, hP5⟩
      have hs5 : Sep 72 wr w5 := by
        rw [hw5]; exact (Sep.set (a := ⟨g2, 0 / 64, none⟩) (unhide hQ) x).drew
      have hM5 := hide (hs5.mc (unhide hM) (by decide))
      have hR5 := hide (hs5.2 _ _ _ _ (unhide hR) (by decide))
      have hT5 := hide ((unhide hT).kt (hs5.kt rfl))
      have hO5 := hide (hs5.own (unhide hO) (by decide))
      have hS5 : Hid (Pl w5 (w.heap.size + 1) m S) := by
        rw [hw5]
        exact ((unhide hS).other _ _ (by simp; omega)).drew
      have hB5 : Hid (Below w.heap.size w w5) := by
        rw [hw5]
        exact below_drew1 ((unhide hB).setCell (p := ⟨g2, 0 / 64, none⟩) (by show _ ≤ g2; omega) _)
      have hP5' := hide hP5
      clear hw5 hs5 hP5 hM hR hT hO hQ hB HA hS hm0 hm1 hm2 hfz
      obtain ⟨C, hC⟩ : ∃ C, C = mcs (.slice ao L co) (.slice (some ⟨w.heap.size + 1, 0, none⟩) m m) (.slice (some ⟨g2, 0, none⟩) m m) zs := ⟨_, rfl⟩
      have hCs : C.size = 259 := by rw [hC, mcs_size]
      have hM6 : w5.heap[M]? = some (.cells C 42 (0, 0)) := by rw [hC]; exact unhide hM5
      have hld := hide (run_load_rec (P := Try.prog) hM6 Try.underlying42 rfl (by rw [hCs]; exact unhide HI))
      have hst := hide (run_store_arr (P := Try.prog) (unhide hR5) (c' := C) (by rw [hCs]; exact unhide HI) (by rw [hzs, hCs]) (by rw [hC]; exact mcs_one _ _ _ _ rfl rfl rfl (fun _ => rfl)))
      obtain ⟨w9, hw9⟩ : ∃ w9, w9 = w5.setRow w.heap.size C := ⟨_, rfl⟩
      have hA9 : w9.heap[w.heap.size]? = some (.cells C 42 (0, 0)) := by rw [hw9]; exact setRow_heap _ _ _ _ _ _ (unhide hR5)
      have hld9 := hide (run_loadVar_row _ _ _ _ _ _ _ hA9 Try.underlying42 rfl (by rw [hCs]; exact unhide HI))
      have hoth : ∀ k, k ≠ w.heap.size → w9.heap[k]? = w5.heap[k]? := fun k hk => by rw [hw9, setRow_other _ _ _ _ hk]
      have hs9 : Sep 42 w5 w9 := by
        refine ⟨by rw [hw9, setRow_size]; exact Nat.le_refl _, fun k c e' z' hk he => ?_⟩
        rw [hoth k (fun e1 => ?_), hk]
        rw [e1, unhide hR5] at hk
        injection hk with hk
        injection hk with _ h2 _
        exact he h2.symm
      have hB9 : Hid (Below w.heap.size w w9) := by rw [hw9]; exact below_setRow (unhide hB5) (Nat.le_refl _) _
      have hT9 : Hid (Ths w9 w.heap.size (.slice ao L co) (ones ts)) := ⟨ys, by rw [← unhide HLL]; exact hs9.own (unhide hO5) (by decide), (unhide hT5).kt (hs9.kt rfl)⟩
      have hS9 := hide (hs9.pl (unhide hS5) (by decide))
      have hP9 := hide (hs9.pl (unhide hP5') (by decide))
      have HC := hide hC
      rw [← hw9] at hst
      clear hw9 hoth hs9 hM5 hR5 hT5 hO5 hS5 hB5 hP5' hA9 hM6 hC
      go_wp2_with (first | (refine wpList_load_arr _ rfl _ 42 rfl _ rfl _ (by exact unhide hld) ?_) | (refine wpList_store_arr _ rfl _ _ 42 rfl _ rfl _ rfl _ (by exact unhide hst) ?_))
      refine bodyPost_ret (v := .agg C) ?_ rfl ⟨⟨.slice ao L co, w.heap.size + 1, g2, S, addW (fun _ => 0) 0, by rw [unhide HC, unhide HMM], unhide hT9, by rw [unhide HMM]; exact unhide hS9, unhide hSj, by rw [unhide HMM]; exact unhide hP9, fun j => by rw [hasW_add]; simp [hasW], by omega, by omega, by omega⟩, unhide hB9⟩
      rw [results_cell rfl]
      simp [asAddr, Result.andThen, Act.put, unhide hld9]
end Go.Proofs.Ytelijbnamiefcaa.Gl
