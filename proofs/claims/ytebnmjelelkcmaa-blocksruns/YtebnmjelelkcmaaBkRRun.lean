/- What the document's Run answers. -/
import Derived.Test.YtebnmjelelkcmaaBkRBec
import Derived.Test.YtebnmjelelkcmaaBkRPlain
import Derived.Test.YtebnmjelelkcmaaBkRun
import Derived.Laws.AppendOwnNone
set_option linter.unusedVariables false
namespace Go.Proofs.Ytebnmjelelkcmaa.Bk
open Go.RowKit Go.Shelf Cu

theorem res_rrun {X : World} {b : Nat} {tmps : Array Value} {s : ByteArray} {e : Int} {v0 v1 v2 v3 : Value} (h : X.heap[b + 1]? = some (.cells #[v0, v1, v2, v3] 26 (0, 0))) (h4 : tmps.getD 6 undef = .string s) (h5 : tmps.getD 7 undef = .pointer (some ⟨b + 1, 0, none⟩)) (h6 : tmps.getD 8 undef = .int .i64 e) :
    (results Try.f11 tmps).run Try.prog X = .ok (.tuple #[.string s, .agg #[v0, v1, v2, v3], .int .i64 e]) X := by
  obtain ⟨c0, c1, c2, c3, _⟩ := four_cells h
  simp only [Array.getD_eq_getD_getElem?] at h4 h5 h6
  simp [results, Try.results11, h4, h5, h6, go_sem, c0, c1, c2, c3]
structure Rs (w : World) (p : Pl) (G : Bs) (c0 c1 c2 c3 : Nat) (v : Value) (W : World) : Prop where
  pl : W.heap[w.heap.size]? = some (RlO p)
  rs : W.heap[w.heap.size + 1]? = some Z4
  nm : W.heap[w.heap.size + 3]? = some (.cells #[.int .i64 (c0 : Int), .int .i64 (c1 : Int), .int .i64 (c2 : Int), .int .i64 (c3 : Int)] 26 (0, 0))
  sz : w.heap.size + 4 ≤ W.heap.size
  row : Row (w.heap.size + 4) v G W
  be : Below w.heap.size w W
theorem row_more {w : World} {B : Nat} {v : Value} {l m : Bs} (h : w.ownsRow B 5 1 v (l.length + m.length) (Lib.byteCells l ++ Lib.byteCells m)) : Row B v (l ++ m) w := by
  unfold Row
  rw [List.length_append, Lib.byteCells_append]
  exact h
theorem Rs.step {w : World} {p : Pl} {G : Bs} {c0 c1 c2 c3 : Nat} {v : Value} {W W' : World} (h : Rs w p G c0 c1 c2 c3 v W) (hb : Below W.heap.size W W') : Rs w p G c0 c1 c2 c3 v W' :=
  ⟨(hb.block _ (by have := h.sz; omega)).trans h.pl, (hb.block _ (by have := h.sz; omega)).trans h.rs, (hb.block _ (by have := h.sz; omega)).trans h.nm, Nat.le_trans h.sz hb.size, row_below h.row hb, h.be.trans (hb.mono (by have := h.sz; omega))⟩
theorem Rs.grown {w : World} {p : Pl} {G G' : Bs} {c0 c1 c2 c3 : Nat} {v v' : Value} {W W' : World} (h : Rs w p G c0 c1 c2 c3 v W) (hg : W.grownBy W' v.ownBlock) (hr : Row (w.heap.size + 4) v' G' W') : Rs w p G' c0 c1 c2 c3 v' W' := by
  have hk : ∀ k, k < w.heap.size + 4 → W'.heap[k]? = W.heap[k]? := fun k hk => hg.block k (by have := h.sz; omega) (fun e => by have := h.row.lt k e.symm; omega)
  exact ⟨(hk _ (by omega)).trans h.pl, (hk _ (by omega)).trans h.rs, (hk _ (by omega)).trans h.nm, Nat.le_trans h.sz hg.size, hr, ⟨hg.os.trans h.be.os, hg.tape.trans h.be.tape, hg.output.trans h.be.output, Nat.le_trans h.be.size hg.size, fun k hk' => (hk k (by omega)).trans (h.be.block k hk')⟩⟩
theorem Rs.nums {w : World} {p : Pl} {G : Bs} {c0 c1 c2 c3 d0 d1 d2 d3 : Nat} {v : Value} {W : World} (h : Rs w p G c0 c1 c2 c3 v W) (j : Nat) (x : Value) (hn : (W.setCell ⟨w.heap.size + 3, j, none⟩ x).heap[w.heap.size + 3]? = some (.cells #[.int .i64 (d0 : Int), .int .i64 (d1 : Int), .int .i64 (d2 : Int), .int .i64 (d3 : Int)] 26 (0, 0))) :
    Rs w p G d0 d1 d2 d3 v (W.setCell ⟨w.heap.size + 3, j, none⟩ x) := by
  have hk : ∀ k, k ≠ w.heap.size + 3 → (W.setCell ⟨w.heap.size + 3, j, none⟩ x).heap[k]? = W.heap[k]? := fun k hk => heap_setCell_other _ _ _ _ hk
  refine ⟨(hk _ (by omega)).trans h.pl, (hk _ (by omega)).trans h.rs, hn, by simpa using h.sz, h.row.kept (row := some (w.heap.size + 3)) (grown_set _ _ _ _) (.inr (fun e => ?_)), h.be.setCell (p := ⟨w.heap.size + 3, j, none⟩) (by show w.heap.size ≤ w.heap.size + 3; omega) _⟩
  have := h.row.lt _ e
  omega
theorem Rs.n0 {w : World} {p : Pl} {G : Bs} {c0 c1 c2 c3 : Nat} {v : Value} {W : World} (h : Rs w p G c0 c1 c2 c3 v W) : Rs w p G (c0 + 1) c1 c2 c3 v (W.setCell ⟨w.heap.size + 3, 0, none⟩ (.int .i64 ((c0 : Int) + 1))) :=
  h.nums 0 _ (heap_setCell_same W _ 0 _ _ _ h.nm)
theorem Rs.n1 {w : World} {p : Pl} {G : Bs} {c0 c1 c2 c3 : Nat} {v : Value} {W : World} (h : Rs w p G c0 c1 c2 c3 v W) : Rs w p G c0 (c1 + 1) c2 c3 v (W.setCell ⟨w.heap.size + 3, 1, none⟩ (.int .i64 ((c1 : Int) + 1))) :=
  h.nums 1 _ (heap_setCell_same W _ 1 _ _ _ h.nm)
theorem Rs.n2 {w : World} {p : Pl} {G : Bs} {c0 c1 c2 c3 : Nat} {v : Value} {W : World} (h : Rs w p G c0 c1 c2 c3 v W) (d : Nat) : Rs w p G c0 c1 d c3 v (W.setCell ⟨w.heap.size + 3, 2, none⟩ (.int .i64 (d : Int))) :=
  h.nums 2 _ (heap_setCell_same W _ 2 _ _ _ h.nm)
theorem Rs.n3 {w : World} {p : Pl} {G : Bs} {c0 c1 c2 c3 : Nat} {v : Value} {W : World} (h : Rs w p G c0 c1 c2 c3 v W) (d : Nat) : Rs w p G c0 c1 c2 d v (W.setCell ⟨w.heap.size + 3, 3, none⟩ (.int .i64 (d : Int))) :=
  h.nums 3 _ (heap_setCell_same W _ 3 _ _ _ h.nm)
/-- the last word, where it is an error -/
theorem Rs.ends {w : World} {p : Pl} {G : Bs} {c0 c1 c2 c3 : Nat} {v : Value} {W : World} (h : Rs w p G c0 c1 c2 c3 v W) (v0 v1 v2 v3 : Value) :
    ((((W.setCell ⟨w.heap.size + 1, 0, none⟩ v0).setCell ⟨w.heap.size + 1, 1, none⟩ v1).setCell ⟨w.heap.size + 1, 2, none⟩ v2).setCell ⟨w.heap.size + 1, 3, none⟩ v3).heap[w.heap.size + 1]? = some (.cells #[v0, v1, v2, v3] 26 (0, 0)) ∧
    Below w.heap.size w ((((W.setCell ⟨w.heap.size + 1, 0, none⟩ v0).setCell ⟨w.heap.size + 1, 1, none⟩ v1).setCell ⟨w.heap.size + 1, 2, none⟩ v2).setCell ⟨w.heap.size + 1, 3, none⟩ v3) :=
  ⟨set4 h.rs v0 v1 v2 v3, (((h.be.setCell (p := ⟨w.heap.size + 1, 0, none⟩) (by simp) _).setCell (p := ⟨w.heap.size + 1, 1, none⟩) (by simp) _).setCell (p := ⟨w.heap.size + 1, 2, none⟩) (by simp) _).setCell (p := ⟨w.heap.size + 1, 3, none⟩) (by simp) _⟩

set_option maxRecDepth 100000 in
set_option maxHeartbeats 1000000 in
theorem rrun_bad (p : Pl) (s t : ByteArray) (w : World) (h : okP p = false) :
    Calls Try.prog 11 #[.agg (plC p), .string s, .string t] w fun e w' => e = .returned (ansV (bad 1)) ∧ Below w.heap.size w w' := by
  have C := hide (rcheck_any p ((w.alloc (RlO p)).alloc Z4))
  rw [h] at C
  clear h
  obtain ⟨i, o, sk, ct, se, kp, sw, up, lo, sy⟩ := p
  unfold RlO plC at C
  unfold plC
  go_enter Try.func11, Try.ntmps11
  go_wp2_with fail
  refine (unhide C).mono ?_
  rintro e w1 ⟨rfl, rfl⟩
  clear C
  go_wp2_with fail
  refine bodyPost_ret (res_rrun (b := w.heap.size) (v0 := .int .i64 0) (v1 := .int .i64 0) (v2 := .int .i64 0) (v3 := .int .i64 0) (s := ⟨#[]⟩) (e := 1) ?_ rfl rfl rfl) rfl ⟨rfl, ?_⟩
  · exact (zero_at ((Below.refl _ _).alloc (by simp) _)).2
  · exact (((Below.refl _ _).alloc (Nat.le_refl _) _).alloc (by simp) _).alloc (by simp; omega) _
set_option maxRecDepth 100000 in
set_option maxHeartbeats 1000000 in
theorem rrun_long (p : Pl) (s t : ByteArray) (w : World) (h : okP p = true) (hl : 1048576 < s.size ∨ 1048576 < t.size) :
    Calls Try.prog 11 #[.agg (plC p), .string s, .string t] w fun e w' => e = .returned (ansV (bad 3)) ∧ Below w.heap.size w w' := by
  have C := hide (rcheck_any p ((w.alloc (RlO p)).alloc Z4))
  rw [h] at C
  clear h
  obtain ⟨i, o, sk, ct, se, kp, sw, up, lo, sy⟩ := p
  unfold RlO plC at C
  unfold plC
  by_cases h1 : 1048576 < s.size
  · have h1' : (1048576 : Int) < (s.size : Int) := by omega
    clear hl h1
    go_enter Try.func11, Try.ntmps11
    go_wp2_with fail
    refine (unhide C).mono ?_
    rintro e w1 ⟨rfl, rfl⟩
    clear C
    go_wp2_with fail
    refine bodyPost_ret (res_rrun (b := w.heap.size) (v0 := .int .i64 0) (v1 := .int .i64 0) (v2 := .int .i64 0) (v3 := .int .i64 0) (s := ⟨#[]⟩) (e := 3) ?_ rfl rfl rfl) rfl ⟨rfl, ?_⟩
    · exact (zero_at ((Below.refl _ _).alloc (by simp) _)).2
    · exact (((Below.refl _ _).alloc (Nat.le_refl _) _).alloc (by simp) _).alloc (by simp; omega) _
  · have h1' : ¬ (1048576 : Int) < (s.size : Int) := by omega
    have h2' : (1048576 : Int) < (t.size : Int) := by omega
    clear hl h1
    go_enter Try.func11, Try.ntmps11
    go_wp2_with fail
    refine (unhide C).mono ?_
    rintro e w1 ⟨rfl, rfl⟩
    clear C
    go_wp2_with fail
    refine bodyPost_ret (res_rrun (b := w.heap.size) (v0 := .int .i64 0) (v1 := .int .i64 0) (v2 := .int .i64 0) (v3 := .int .i64 0) (s := ⟨#[]⟩) (e := 3) ?_ rfl rfl rfl) rfl ⟨rfl, ?_⟩
    · exact (zero_at ((Below.refl _ _).alloc (by simp) _)).2
    · exact (((Below.refl _ _).alloc (Nat.le_refl _) _).alloc (by simp) _).alloc (by simp; omega) _


def lateR (p : Pl) (T : List Bs) (t : Bs) : Ans := if 1048576 < (p.se * p.o).toNat + (went p T).length then bad 3 else ⟨putP p (went p T) t, whole p.i.toNat T, parted p.i.toNat T, (went p T).length / p.o.toNat, if (went p T).length % p.o.toNat = 0 then 0 else 1, 0⟩
set_option maxRecDepth 100000 in
set_option maxHeartbeats 1000000 in
theorem rrun_ok (p : Pl) (s t : ByteArray) (w : World) (h : okP p = true) (h1 : s.size ≤ 1048576) (h2 : t.size ≤ 1048576) :
    Calls Try.prog 11 #[.agg (plC p), .string s, .string t] w fun e w' => e = .returned (ansV (runP p (bs s) (bs t))) ∧ Below w.heap.size w w' := by
  obtain ⟨⟨g1, g2⟩, ⟨g3, g4⟩, ⟨g5, g6⟩, ⟨g7, g8⟩, g9⟩ := (okP_iff _).1 h
  have C := hide (rcheck_any p ((w.alloc (RlO p)).alloc Z4))
  rw [h] at C
  have HBC : Hid (∀ (x : ByteArray) W, x.size ≤ p.i.toNat → Calls Try.prog 19 #[.agg (plC p), .string x] W fun e w' => ∃ v, e = .returned v ∧ Mk w' W.heap.size v (bec p (bs x)) ∧ Below W.heap.size W w') := fun x W hx => became_any p x W g1 g2 hx
  have HE : Hid (∀ k, 1048576 < (went p (sel p.i.toNat (bs s) p.sk p.ct k)).length → runP p (bs s) (bs t) = bad 3) := fun k => run_early p _ _ k h
  have HLT : Hid (∀ k, (bs s).length ≤ k * p.i.toNat → runP p (bs s) (bs t) = lateR p (sel p.i.toNat (bs s) p.sk p.ct k) (bs t)) := fun k => run_late p _ _ k h (by rw [bs_len]; exact h1) (by rw [bs_len]; exact h2)
  generalize runP p (bs s) (bs t) = R at HE HLT ⊢
  clear g9 h
  obtain ⟨i, o, sk, ct, se, kp, sw, up, lo, sy⟩ := p
  simp only at g1 g2 g3 g4 g5 g6 g7 g8
  obtain ⟨n, rfl⟩ : ∃ n : Nat, i = n := ⟨i.toNat, by omega⟩
  obtain ⟨on, rfl⟩ : ∃ on : Nat, o = on := ⟨o.toNat, by omega⟩
  unfold RlO plC at C
  unfold plC at HBC ⊢
  simp only [Int.toNat_natCast] at HBC HE HLT C ⊢
  obtain ⟨p, hp⟩ : ∃ p : Pl, p = ⟨n, on, sk, ct, se, kp, sw, up, lo, sy⟩ := ⟨_, rfl⟩
  have HP := hide hp
  rw [← hp] at HBC HE HLT
  clear hp
  have k1 : ¬ (1048576 : Int) < (s.size : Int) := by omega
  have k2 : ¬ (1048576 : Int) < (t.size : Int) := by omega
  obtain ⟨O, hO⟩ : ∃ O : Obj, O = .cells #[.int .i64 (n : Int), .int .i64 (on : Int), .int .i64 sk, .int .i64 ct, .int .i64 se, .bool kp, .bool sw, .bool up, .bool lo, .bool sy] 25 := ⟨_, rfl⟩
  go_enter Try.func11, Try.ntmps11
  go_wp2_with fail
  refine (unhide C).mono ?_
  rintro e w1 ⟨rfl, rfl⟩
  clear C
  go_wp2_with fail
  rw [← hO]
  obtain ⟨w4, hw4⟩ : ∃ W, W = (((w.alloc O).alloc Z4).alloc O).alloc Z4 := ⟨_, rfl⟩
  have HR0 : Hid (Rs w p [] 0 0 0 0 (.slice none 0 0) w4) := by
    have b1 : Below w.heap.size w w4 := by
      rw [hw4]
      exact ((((Below.refl _ _).alloc (Nat.le_refl _) _).alloc (by simp) _).alloc (by simp; omega) _).alloc (by simp; omega) _
    have b2 : Below (w.heap.size + 2) ((w.alloc O).alloc Z4) w4 := by
      rw [hw4]
      exact ((Below.refl _ _).alloc (by simp) _).alloc (by simp) _
    have z := zero_at b2
    refine ⟨?_, z.2, ?_, by rw [hw4]; simp, row_nil _ _, b1⟩
    · rw [z.1, hO, unhide HP]; rfl
    · rw [hw4]
      have := heap_alloc_new (((w.alloc O).alloc Z4).alloc O) Z4
      simpa using this
  rw [← hw4]
  have HRl : Hid (RlO p = O) := by rw [hO, unhide HP]; rfl
  clear hw4
  go_loopw [10, 11] (fun v10 v11 wr => ∃ (k : Nat) (T : List Bs) (G : Bs) (a : Option Addr) (c : Nat), v10 = .slice a G.length c ∧ v11 = .int .i64 k ∧ k ≤ s.size ∧ Hid (T = sel n (bs s) sk ct k) ∧ Hid (G = went p T) ∧ G.length ≤ 1048576 ∧ Hid (Rs w p G (whole n T) (parted n T) 0 0 (.slice a G.length c) wr)) (fun _ v11 _ => s.size + 1 - (intOf v11).toNat)
  case atStart => exact ⟨0, [], [], none, 0, rfl, rfl, Nat.zero_le _, (sel_zero ..).symm, rfl, Nat.zero_le _, HR0⟩
  case round =>
    clear HR0 w4
    obtain ⟨k, T, G, a, c, rfl, rfl, hk, hT, hG, hGl, hR⟩ := hrel
    obtain ⟨m, hm⟩ : ∃ m : Nat, m = k * n := ⟨_, rfl⟩
    have hQ : (k : Int) * (n : Int) = (m : Int) := by rw [hm, Int.natCast_mul]
    have hQ2 : ((k : Int) + 1) * (n : Int) = (m : Int) + (n : Int) := by rw [Int.add_mul, hQ, Int.one_mul]
    have hm9 : m ≤ 68719476736 := by rw [hm]; exact Nat.mul_le_mul (by omega : k ≤ 1048576) (by omega : n ≤ 65536)
    have hkm : k ≤ m := by rw [hm]; have : k * 1 ≤ k * n := Nat.mul_le_mul_left _ (by omega); omega
    have Hm := hide hm
    clear hm
    have hpl : wr.heap[w.heap.size]? = some O := by rw [(unhide hR).pl, unhide HRl]
    rw [hO] at hpl
    obtain ⟨d0, d1, d2, d3, d4, d5, d6, d7, d8, d9⟩ := rl_cells hpl
    clear hpl
    have hsz := (unhide hR).sz
    by_cases hlt : m < s.size
    · have hlt' : (m : Int) < (s.size : Int) := by omega
      obtain ⟨q, hq⟩ : ∃ q : Bool, q = (decide ((k : Int) < sk) || (decide (0 ≤ ct) && decide (ct ≤ (k : Int) - sk))) := ⟨_, rfl⟩
      have Hq := hide hq
      clear hq
      go_upto_region 10 with fail
      go_cut [54] (fun v wx => wr = wx ∧ v = .bool q)
      case first =>
        by_cases y1 : (k : Int) < sk
        · go_wp2_with fail
          go_meet
          exact ⟨rfl, by rw [unhide Hq, decide_eq_true y1]; simp⟩
        · by_cases y2 : 0 ≤ ct
          · by_cases y3 : ct ≤ (k : Int) - sk
            · go_wp2_with fail
              go_meet
              exact ⟨rfl, by rw [unhide Hq, decide_eq_true y2, decide_eq_true y3]; simp⟩
            · go_wp2_with fail
              go_meet
              exact ⟨rfl, by rw [unhide Hq, decide_eq_false (by omega : ¬ (k : Int) < sk), decide_eq_false (by omega : ¬ ct ≤ (k : Int) - sk)]; simp⟩
          · go_wp2_with fail
            go_meet
            exact ⟨rfl, by rw [unhide Hq, decide_eq_false (by omega : ¬ (k : Int) < sk), decide_eq_false (by omega : ¬ 0 ≤ ct)]; simp⟩
      case rest =>
        obtain ⟨rfl, rfl⟩ := hcut
        cases q
        case true =>
          have hTn : Hid (T = sel n (bs s) sk ct (k + 1)) := by
            rw [unhide hT]
            refine (sel_skip n (bs s) sk ct k ?_).symm
            have := (unhide Hq).symm
            simp only [Bool.or_eq_true, Bool.and_eq_true, decide_eq_true_eq] at this
            rcases this with h | ⟨h, h'⟩
            · exact .inl h
            · exact .inr ⟨g5, h, h'⟩
          clear Hq
          go_wp2_with fail
          go_roundw
          case rel => exact ⟨k + 1, T, G, a, c, rfl, by go_num, by omega, hTn, hG, hGl, hR⟩
          case measure => simp [intOf]; omega
        case false =>
          have hb := (unhide Hq).symm
          simp only [Bool.or_eq_false_iff, Bool.and_eq_false_iff, decide_eq_false_iff_not] at hb
          obtain ⟨hb1, hb2⟩ := hb
          obtain ⟨tt, htt⟩ : ∃ tt, tt = min s.size (m + n) := ⟨_, rfl⟩
          have hmin : min (s.size : Int) ((m : Int) + (n : Int)) = (tt : Int) := by omega
          have ht1 : m ≤ tt := by omega
          have ht2 : tt ≤ s.size := by omega
          obtain ⟨x, hx⟩ : ∃ x, x = s.extract m tt := ⟨_, rfl⟩
          have hxb : bs x = ((bs s).drop m).take n := by
            rw [hx, bt_extract]
            show ((bs s).drop m).take (tt - m) = _
            rw [List.take_eq_take_min (i := n), List.length_drop, bs_len]
            congr 1
            omega
          have hxn : x.size ≤ n := by rw [← bs_len, hxb, List.length_take]; omega
          have HT1 : Hid (T ++ [bs x] = sel n (bs s) sk ct (k + 1)) := by
            rw [unhide hT, hxb, unhide Hm]
            refine (sel_take n (by omega) (bs s) sk ct k (by rw [bs_len, ← unhide Hm]; exact hlt) g5 (by omega) ?_).symm
            rcases hb2 with h | h
            · exact .inl (by omega)
            · exact .inr (by omega)
          have hTk : T.length ≤ k := by rw [unhide hT]; exact sel_len ..
          have hw0 := whole_le n T
          have hw1 := parted_le n T
          have HW := hide (whole_snoc n T (bs x))
          have HV := hide (parted_snoc n T (bs x))
          clear Hq hb1 hb2 htt hxb
          rw [bs_len] at HW HV
          obtain ⟨c0, hc0⟩ : ∃ c0, c0 = whole n T := ⟨_, rfl⟩
          obtain ⟨c1, hc1⟩ : ∃ c1, c1 = parted n T := ⟨_, rfl⟩
          rw [← hc0] at hR HW hw0
          rw [← hc1] at hR HV hw1
          clear hc0 hc1
          go_upto_region 12 with fail
          rw [← hx]
          obtain ⟨q2, hq2⟩ : ∃ q2 : Bool, q2 = decide (x.size = n) := ⟨_, rfl⟩
          have Hq := hide hq2
          clear hq2 hx
          go_cut [73] (fun v wx => wr = wx ∧ v = .bool q2)
          case first =>
            by_cases y : (x.size : Int) = (n : Int)
            · go_wp2_with fail
              go_meet
              exact ⟨rfl, by rw [unhide Hq, decide_eq_true (by omega : x.size = n)]⟩
            · go_wp2_with fail
              go_meet
              exact ⟨rfl, by rw [unhide Hq, decide_eq_false (by omega : ¬ x.size = n), show ((x.size : Int) == (n : Int)) = false from beq_eq_false_iff_ne.2 y]⟩
          case rest =>
            obtain ⟨rfl, rfl⟩ := hcut
            go_upto_if 73 with fail
            go_cut [11] (fun v wx => v = .int .i64 k ∧ Hid (Rs w p G (whole n (T ++ [bs x])) (parted n (T ++ [bs x])) 0 0 (.slice a G.length c) wx))
            case first =>
              obtain ⟨e0, e1, e2, e3, ef⟩ := four_cells (unhide hR).nm
              cases q2
              · have y : ¬ x.size = n := of_decide_eq_false (unhide Hq).symm
                rw [if_neg y] at HW HV
                clear Hq y
                go_wp2_with fail
                go_meet
                exact ⟨rfl, by rw [unhide HW, unhide HV]; exact (unhide hR).n1⟩
              · have y : x.size = n := of_decide_eq_true (unhide Hq).symm
                rw [if_pos y] at HW HV
                clear Hq y
                go_wp2_with fail
                go_meet
                exact ⟨rfl, by rw [unhide HW, unhide HV]; exact (unhide hR).n0⟩
            case rest =>
              obtain ⟨rfl, hR1⟩ := hcut
              clear hR HW HV hw0 hw1 Hq q2 d0 d1 d2 d3 d4 d5 d6 d7 d8 d9 hsz
              have hpl : wc.heap[w.heap.size]? = some O := by rw [(unhide hR1).pl, unhide HRl]
              rw [hO] at hpl
              obtain ⟨d0, d1, d2, d3, d4, d5, d6, d7, d8, d9⟩ := rl_cells hpl
              clear hpl
              have hsz := (unhide hR1).sz
              go_wp2_with fail
              refine (unhide HBC x _ hxn).mono ?_
              rintro e w5 ⟨v5, rfl, hM5, hB5⟩
              obtain ⟨g5', c5', hv5⟩ := hM5.isSl
              subst hv5
              have HM5 := hide hM5
              have HR5 := hide ((unhide hR1).step hB5)
              obtain ⟨B, hB⟩ : ∃ B, B = bec p (bs x) := ⟨_, rfl⟩
              have HBl : Hid (B.length ≤ n) := by
                rw [hB, bec_len1]
                have := b1_len p (bs x) (by rw [bs_len, unhide HP]; exact hxn)
                rw [unhide HP] at this ⊢
                exact this
              rw [← hB] at HM5 ⊢
              have hBl := unhide HBl
              have HBe := hide hB
              clear hM5 hB5 hB d0 d1 d2 d3 d4 d5 d6 d7 d8 d9 hR1 hsz
              obtain ⟨i0, hi, hz0, hz1, hz2⟩ := info_parts Try.infoByte
              obtain ⟨G2, hG2⟩ : ∃ G2, G ++ B = G2 := ⟨_, rfl⟩
              go_upto_region 16 with (at_builtin; (refine wpList_append_own _ rfl _ _ 49 rfl (w.heap.size + 4) 5 i0 (.int .u8 0) 1 1 Try.underlying49 hi hz0 hz1 hz2 rfl (by decide) _ G.length (Lib.byteCells G) rfl (unhide HR5).row ⟨g5', 0, none⟩ B.length c5' (Lib.byteCells B) rfl (by rw [Lib.byteCells_length]; omega) (unhide HM5).src.2 (by intro u hu; obtain ⟨c, _, rfl⟩ := List.mem_map.1 hu; rfl) (by simp [maxLen]; omega) (by omega) (unhide HR5).sz ?_; intro v6 w6 hown6 hg6 _; have row6 : Row (w.heap.size + 4) v6 (G ++ B) w6 := row_more hown6; have HR6 := hide ((unhide HR5).grown hg6 row6); obtain ⟨a6, c6, hv6⟩ := row_slice row6; subst hv6; clear row6 hown6 hg6; rw [hG2] at HR6 ⊢))
              have HG6 : Hid (G2 = went p (T ++ [bs x])) := by rw [← hG2, went_snoc, ← unhide hG, ← unhide HBe]; exact rfl
              clear HR5 HM5 HBe HBl hG2
              by_cases hbig : 1048576 < G2.length
              · have hbig' : (1048576 : Int) < (G2.length : Int) := by omega
                have HF : Hid (R = bad 3) := unhide HE (k + 1) (by rw [← unhide HT1, ← unhide HG6]; exact hbig)
                obtain ⟨z0, z1, z2, z3, zf⟩ := four_cells (unhide HR6).rs
                go_wp2_with fail
                have HEN := (unhide HR6).ends (.int .i64 0) (.int .i64 0) (.int .i64 0) (.int .i64 0)
                refine bodyPost_ret (res_rrun (b := w.heap.size) (v0 := .int .i64 0) (v1 := .int .i64 0) (v2 := .int .i64 0) (v3 := .int .i64 0) (s := ⟨#[]⟩) (e := 3) HEN.1 rfl rfl rfl) rfl ⟨by rw [unhide HF]; rfl, HEN.2⟩
              · have hbig' : ¬ (1048576 : Int) < (G2.length : Int) := by omega
                go_wp2_with fail
                go_roundw
                case rel => exact ⟨k + 1, T ++ [bs x], G2, a6, c6, rfl, by go_num, by omega, HT1, HG6, by omega, HR6⟩
                case measure => simp [intOf]; omega
    · have hlt' : ¬ (m : Int) < (s.size : Int) := by omega
      have HF0 := hide (unhide HLT k (by rw [bs_len, ← unhide Hm]; omega))
      rw [← unhide hT] at HF0
      have HF : Hid (R = if 1048576 < (se * (on : Int)).toNat + G.length then bad 3 else ⟨putP p G (bs t), whole n T, parted n T, G.length / on, if G.length % on = 0 then 0 else 1, 0⟩) := by
        rw [unhide HF0]
        unfold lateR
        rw [← unhide hG, unhide HP]
        exact rfl
      clear HF0 HLT HE HBC hT hG Hm
      obtain ⟨c0, hc0⟩ : ∃ c0, c0 = whole n T := ⟨_, rfl⟩
      obtain ⟨c1, hc1⟩ : ∃ c1, c1 = parted n T := ⟨_, rfl⟩
      obtain ⟨dv, hdv0⟩ : ∃ dv, dv = G.length / on := ⟨_, rfl⟩
      obtain ⟨rm, hrm0⟩ : ∃ rm, rm = G.length % on := ⟨_, rfl⟩
      rw [← hc0, ← hc1] at hR HF
      rw [← hdv0, ← hrm0] at HF
      have hdv : (G.length : Int) / (on : Int) = (dv : Int) := by rw [hdv0]; simp
      have hrm : (G.length : Int) % (on : Int) = (rm : Int) := by rw [hrm0]; simp
      have hd9 : dv ≤ G.length := by rw [hdv0]; exact Nat.div_le_self _ _
      have hr9 : rm ≤ G.length := by rw [hrm0]; exact Nat.mod_le _ _
      have hon : ¬ (on : Int) = 0 := by omega
      clear hc0 hc1 hdv0 hrm0 T
      obtain ⟨e0, e1, e2, e3, ef⟩ := four_cells (unhide hR).nm
      go_upto_region 18 with fail
      clear hQ hQ2 hm9 hkm
      go_cut [95] (fun v wx => Hid (Rs w p G c0 c1 dv 0 (.slice a G.length c) wx))
      case first =>
        go_wp2_with fail
        go_meet
        exact (unhide hR).n2 dv
      case rest =>
        have hR2 := hcut
        clear hcut hR e0 e1 e2 e3 ef d0 d1 d2 d3 d4 d5 d6 d7 d8 d9 hsz hdv
        have hpl : wc.heap[w.heap.size]? = some O := by rw [(unhide hR2).pl, unhide HRl]
        rw [hO] at hpl
        obtain ⟨d0, d1, d2, d3, d4, d5, d6, d7, d8, d9⟩ := rl_cells hpl
        clear hpl
        have hsz := (unhide hR2).sz
        obtain ⟨q, hq⟩ : ∃ q : Bool, q = decide (0 < (rm : Int)) := ⟨_, rfl⟩
        have Hq := hide hq
        clear hq
        go_upto_region 19 with fail
        go_cut [102] (fun v wx => wc = wx ∧ v = .bool q)
        case first =>
          by_cases y : 0 < (rm : Int)
          · go_wp2_with fail
            go_meet
            exact ⟨rfl, by rw [unhide Hq]; simp⟩
          · go_wp2_with fail
            go_meet
            exact ⟨rfl, by rw [unhide Hq]; simp⟩
        case rest =>
          obtain ⟨rfl, rfl⟩ := hcut
          clear hrm
          go_upto_if 102 with fail
          go_cut [10] (fun v wx => v = .slice a G.length c ∧ Hid (Rs w p G c0 c1 dv (if rm = 0 then 0 else 1) (.slice a G.length c) wx))
          case first =>
            obtain ⟨e0, e1, e2, e3, ef⟩ := four_cells (unhide hR2).nm
            cases q
            · have y : rm = 0 := by have := of_decide_eq_false (unhide Hq).symm; omega
              clear Hq
              go_wp2_with fail
              go_meet
              exact ⟨rfl, by rw [if_pos y]; exact hR2⟩
            · have y : ¬ rm = 0 := by have := of_decide_eq_true (unhide Hq).symm; omega
              clear Hq
              go_wp2_with fail
              go_meet
              exact ⟨rfl, by rw [if_neg y]; exact (unhide hR2).n3 1⟩
          case rest =>
            obtain ⟨rfl, hR3⟩ := hcut
            obtain ⟨wn, hwn⟩ : ∃ wn, wn = wc := ⟨_, rfl⟩
            subst hwn
            clear hR2 d0 d1 d2 d3 d4 d5 d6 d7 d8 d9 hsz Hq q
            obtain ⟨c3, hc3⟩ : ∃ c3, c3 = if rm = 0 then 0 else 1 := ⟨_, rfl⟩
            rw [← hc3] at hR3 HF
            clear hc3 hr9 rm
            have hpl : wn.heap[w.heap.size]? = some O := by rw [(unhide hR3).pl, unhide HRl]
            rw [hO] at hpl
            obtain ⟨d0, d1, d2, d3, d4, d5, d6, d7, d8, d9⟩ := rl_cells hpl
            clear hpl
            have hsz := (unhide hR3).sz
            obtain ⟨A, hQ⟩ : ∃ A : Nat, se * (on : Int) = (A : Int) := ⟨(se * on).toNat, by have := Int.mul_nonneg g7 (by omega : 0 ≤ (on : Int)); omega⟩
            have hA9 : (A : Int) ≤ 140737488355328 := by
              rw [← hQ]
              have := Int.mul_le_mul g8 g4 (by omega) (by omega : (0 : Int) ≤ 2147483647)
              omega
            rw [hQ, Int.toNat_natCast] at HF
            by_cases hov : 1048576 < A + G.length
            · have hov' : (1048576 : Int) < (A : Int) + (G.length : Int) := by omega
              rw [if_pos hov] at HF
              obtain ⟨z0, z1, z2, z3, zf⟩ := four_cells (unhide hR3).rs
              go_wp2_with fail
              have HEN := (unhide hR3).ends (.int .i64 0) (.int .i64 0) (.int .i64 0) (.int .i64 0)
              refine bodyPost_ret (res_rrun (b := w.heap.size) (v0 := .int .i64 0) (v1 := .int .i64 0) (v2 := .int .i64 0) (v3 := .int .i64 0) (s := ⟨#[]⟩) (e := 3) HEN.1 rfl rfl rfl) rfl ⟨by rw [unhide HF]; rfl, HEN.2⟩
            · have hov' : ¬ (1048576 : Int) < (A : Int) + (G.length : Int) := by omega
              rw [if_neg hov] at HF
              obtain ⟨f0, hf0⟩ : ∃ f0, f0 = min A t.size := ⟨_, rfl⟩
              have hmin : min (A : Int) (t.size : Int) = (f0 : Int) := by omega
              have hft : f0 ≤ t.size := by omega
              have hpre : bs (t.extract 0 f0) = (bs t).take A := by
                rw [bt_extract, hf0]
                show ((bs t).drop 0).take (min A t.size - 0) = _
                rw [List.drop_zero, Nat.sub_zero, List.take_eq_take_min (i := A), bs_len]
              have hxs : (t.extract 0 f0).size = f0 := by rw [← bs_len, hpre, List.length_take, bs_len]; omega
              obtain ⟨cp, o5, hcv, hM5⟩ := Mk.conv (t.extract 0 f0) wn
              rw [hpre] at hM5
              rw [hxs] at hM5 hcv
              have HM5 := hide hM5
              have HB5 : Hid (Below wn.heap.size wn (wn.alloc o5).drew) := ((Below.refl _ _).alloc (Nat.le_refl _) _).drew
              obtain ⟨w5, hw5⟩ : ∃ W, W = (wn.alloc o5).drew := ⟨_, rfl⟩
              rw [← hw5] at hcv HM5 HB5
              have hfl : ((bs t).take A).length = f0 := by rw [List.length_take, bs_len]; omega
              have Hfl := hide hfl
              have hfA : f0 ≤ A := by omega
              clear hw5 hM5 hpre hxs hfl hf0
              go_wp2_with fail
              clear hcv hmin
              have hBig : A ≤ 1048576 := by omega
              go_loopw [14] (fun v wr => ∃ (l : Bs) (g c : Nat), v = sl g l.length c ∧ l.length ≤ A ∧ Hid (Mk wr wn.heap.size (sl g l.length c) l) ∧ Hid (Below wn.heap.size wn wr) ∧ Hid (fillP A l = fillP A ((bs t).take A))) (fun v _ => A - slLen v)
              case atStart => exact ⟨(bs t).take A, _, _, by rw [unhide Hfl], by rw [unhide Hfl]; exact hfA, by rw [unhide Hfl]; exact HM5, HB5, rfl⟩
              case round =>
                clear HM5 HB5 w5 hfA Hfl d0 d1 d2 d3 d4 d5 d6 d7 d8 d9
                obtain ⟨l, g, cc, rfl, hl, hM, hB, hE⟩ := hrel
                have hgl : g < wr.heap.size := ((unhide hM).lt g rfl).2
                have hwl : wn.heap.size ≤ g := ((unhide hM).lt g rfl).1
                by_cases hlA : l.length < A
                · have hlA' : (l.length : Int) < (A : Int) := by omega
                  go_wp2_with (at_builtin; refine wpList_append_mk rfl _ _ rfl wn.heap.size _ l rfl ((unhide hM).alloc _) ⟨wr.heap.size, 0, none⟩ 1 1 [0] rfl rfl (byte_new _ _ _) (by omega) (by simp; omega) ?_; intro v9 w9 hM9 hg9; obtain ⟨g9, c9, hv9⟩ := hM9.isSl; subst hv9; have HM9 := hide hM9; have HB9 : Hid (Below wn.heap.size wn w9) := ((unhide hB).alloc (by omega) _).trans (((unhide hM).alloc _).below hg9 (by simp; omega)); clear hM9 hg9)
                  have HE9 : Hid (fillP A (l ++ [0]) = fillP A ((bs t).take A)) := (fill_more A l hlA).trans (unhide hE)
                  go_wp2_with fail
                  go_roundw
                  case rel => exact ⟨l ++ [0], g9, c9, by simp, by rw [List.length_append]; simp; omega, HM9, HB9, HE9⟩
                  case measure => simp [slLen]; omega
                · have hlA' : ¬ (l.length : Int) < (A : Int) := by omega
                  have hfin : Hid (l = fillP A ((bs t).take A)) := (fill_full A l (by omega)).symm.trans (unhide hE)
                  have Hlen : Hid (l.length = A) := by show l.length = A; omega
                  have HRx := hide ((unhide hR3).step (unhide hB))
                  go_upto_region 27 with fail
                  clear hlA hlA' hE
                  go_cut [14] (fun v wx => ∃ (g c : Nat), v = sl g (l ++ G).length c ∧ Hid (Mk wx wn.heap.size (sl g (l ++ G).length c) (l ++ G)) ∧ Hid (Below wn.heap.size wn wx))
                  case first =>
                    have hrow := (unhide HRx).row
                    rcases hrow.2 with ⟨hv, h0⟩ | ⟨g', cap', cur, hv, _⟩
                    · injection hv with v1 v2 v3
                      obtain rfl : G = [] := List.eq_nil_of_length_eq_zero h0
                      subst v1 v3
                      clear hrow h0 v2
                      go_wp2_with (at_builtin; refine wpList_append_mk_none rfl _ _ rfl wn.heap.size _ l rfl (unhide hM) rfl ?_)
                      go_meet
                      exact ⟨g, cc, by simp, by simpa using hM, hB⟩
                    · injection hv with v1 v2 v3
                      subst v1
                      have hnews := fun j u hj => hrow.cells (g := g') rfl j u hj
                      clear hrow v2 v3
                      go_wp2_with (at_builtin; refine wpList_append_mk rfl _ _ rfl wn.heap.size _ l rfl (unhide hM) ⟨g', 0, none⟩ G.length c G rfl rfl hnews (by have := unhide Hlen; omega) (by have := (unhide hB).size; omega) ?_; intro v9 w9 hM9 hg9; obtain ⟨g9, c9, hv9⟩ := hM9.isSl; subst hv9; have HM9 := hide hM9; have HB9 : Hid (Below wn.heap.size wn w9) := (unhide hB).trans ((unhide hM).below hg9 (unhide hB).size); clear hM9 hg9)
                      go_meet
                      exact ⟨g9, c9, by simp, HM9, HB9⟩
                  case rest =>
                    obtain ⟨g2, c2, rfl, hM2, hB2⟩ := hcut
                    have hXl : (l ++ G).length = A + G.length := by rw [List.length_append, unhide Hlen]
                    have HX0 : Hid (putP p G (bs t) = (l ++ G) ++ (if kp = true then (bs t).drop (l ++ G).length else [])) := by
                      rw [hXl, unhide hfin]
                      unfold putP fillP Hid
                      rw [unhide HP]
                      simp only
                      rw [hQ, Int.toNat_natCast, List.length_take, bs_len]
                      have e : A - min A t.size = A - t.size := by omega
                      rw [e]
                    have HRx2 := hide ((unhide hR3).step (unhide hB2))
                    obtain ⟨X, hX⟩ : ∃ X, X = l ++ G := ⟨_, rfl⟩
                    rw [← hX] at hM2 HX0 hXl ⊢
                    have hXt : X.length ≤ 1048576 := by omega
                    clear hM hB hgl hwl HRx hfin hl hX Hlen hXl
                    have hpl : wc.heap[w.heap.size]? = some O := by rw [(unhide HRx2).pl, unhide HRl]
                    rw [hO] at hpl
                    obtain ⟨d0, d1, d2, d3, d4, d5, d6, d7, d8, d9⟩ := rl_cells hpl
                    clear hpl
                    obtain ⟨q, hq⟩ : ∃ q : Bool, q = (kp && decide (X.length < t.size)) := ⟨_, rfl⟩
                    have Hq := hide hq
                    clear hq
                    have hg2l : g2 < wc.heap.size := ((unhide hM2).lt g2 rfl).2
                    go_upto_region 28 with fail
                    go_cut [140] (fun v wx => wc = wx ∧ v = .bool q)
                    case first =>
                      cases kp
                      · go_wp2_with fail
                        go_meet
                        exact ⟨rfl, by rw [unhide Hq]; simp⟩
                      · by_cases y : (X.length : Int) < (t.size : Int)
                        · go_wp2_with fail
                          go_meet
                          exact ⟨rfl, by rw [unhide Hq, decide_eq_true (by omega : X.length < t.size)]; simp⟩
                        · go_wp2_with fail
                          go_meet
                          exact ⟨rfl, by rw [unhide Hq, decide_eq_false (by omega : ¬ X.length < t.size)]; simp⟩
                    case rest =>
                      obtain ⟨rfl, rfl⟩ := hcut
                      obtain ⟨Y, hY⟩ : ∃ Y, Y = X ++ (if kp = true then (bs t).drop X.length else []) := ⟨_, rfl⟩
                      rw [← hY] at HX0
                      have HY := hide hY
                      clear hY
                      go_upto_if 140 with fail
                      go_cut [14] (fun v wx => ∃ (g c : Nat), v = sl g Y.length c ∧ Hid (Mk wx wn.heap.size (sl g Y.length c) Y) ∧ Hid (Below wn.heap.size wn wx))
                      case first =>
                        cases q
                        · have hYX : Hid (Y = X) := by
                            rw [unhide HY]
                            have hb := (unhide Hq).symm
                            show X ++ _ = X
                            cases kp
                            · simp
                            · have : ¬ X.length < t.size := by simpa using hb
                              rw [if_pos rfl, List.drop_eq_nil_of_le (by rw [bs_len]; omega)]
                              simp
                          clear Hq
                          go_wp2_with fail
                          go_meet
                          exact ⟨g2, c2, by rw [unhide hYX], by rw [unhide hYX]; exact hM2, hB2⟩
                        · have hb := (unhide Hq).symm
                          simp only [Bool.and_eq_true, decide_eq_true_eq] at hb
                          obtain ⟨hkp, hXs⟩ := hb
                          have hXs' : (X.length : Int) ≤ (t.size : Int) := by omega
                          obtain ⟨z, hz⟩ : ∃ z, z = t.extract X.length t.size := ⟨_, rfl⟩
                          have hzb : bs z = (bs t).drop X.length := by
                            rw [hz, bt_extract]
                            show ((bs t).drop X.length).take (t.size - X.length) = _
                            rw [List.take_of_length_le (by rw [List.length_drop, bs_len]; omega)]
                          have HYz : Hid (Y = X ++ bs z) := by rw [unhide HY, if_pos hkp, hzb]; exact rfl
                          have hzs : z.size ≤ 1048576 := by rw [← bs_len, hzb, List.length_drop, bs_len]; omega
                          obtain ⟨c6, o6, hcv, hM6⟩ := Mk.conv z wc
                          have HM6 := hide hM6
                          have HM7 := hide ((unhide hM2).alloc o6).drew
                          have HB6 : Hid (Below wn.heap.size wn (wc.alloc o6).drew) := ((unhide hB2).alloc (unhide hB2).size _).drew
                          obtain ⟨w6, hw6⟩ : ∃ W, W = (wc.alloc o6).drew := ⟨_, rfl⟩
                          rw [← hw6] at hcv HM6 HM7 HB6
                          rw [hz] at hcv
                          have hzl : (t.extract X.length t.size).size = (bs z).length := by rw [← hz, bs_len]
                          rw [hzl] at hcv
                          rw [← bs_len] at HM6
                          have hzl2 : (bs z).length ≤ 1048576 := by rw [bs_len]; exact hzs
                          clear hM6 hw6 hzb hkp Hq hz hzl hzs
                          go_wp2_with (at_builtin; refine wpList_append_mk rfl _ _ rfl wn.heap.size _ X rfl (unhide HM7) ⟨wc.heap.size, 0, none⟩ (bs z).length c6 (bs z) rfl rfl (unhide HM6).src.2 (by omega) (unhide HB6).size ?_; intro v9 w9 hM9 hg9; obtain ⟨g9, c9, hv9⟩ := hM9.isSl; subst hv9; have HM9 := hide hM9; have HB9 : Hid (Below wn.heap.size wn w9) := (unhide HB6).trans ((unhide HM7).below hg9 (unhide HB6).size); clear hM9 hg9)
                          go_meet
                          exact ⟨g9, c9, by rw [unhide HYz, List.length_append, bs_len], by rw [unhide HYz]; exact HM9, HB9⟩
                      case rest =>
                        obtain ⟨g3, c3', rfl, hM3, hB3⟩ := hcut
                        clear hM2 hB2 HRx2 HY Hq d0 d1 d2 d3 d4 d5 d6 d7 d8 d9
                        have HRz := hide ((unhide hR3).step (unhide hB3))
                        obtain ⟨z0, z1, z2, z3, zf⟩ := four_cells (unhide HRz).rs
                        obtain ⟨e0, e1, e2, e3, ef⟩ := four_cells (unhide HRz).nm
                        have hback := (unhide hM3).drew.back
                        go_upto_region 30 with fail
                        go_region
                        go_wp2_with fail
                        have HEN := (unhide HRz).ends (.int .i64 (c0 : Int)) (.int .i64 (c1 : Int)) (.int .i64 (dv : Int)) (.int .i64 (c3 : Int))
                        refine bodyPost_ret (res_rrun (b := w.heap.size) (v0 := .int .i64 (c0 : Int)) (v1 := .int .i64 (c1 : Int)) (v2 := .int .i64 (dv : Int)) (v3 := .int .i64 (c3 : Int)) (s := bt Y) (e := 0) HEN.1 rfl rfl rfl) rfl ⟨?_, HEN.2.drew⟩
                        rw [unhide HF, unhide HX0]
                        rfl
theorem rrun_any (p : Pl) (s t : ByteArray) (w : World) :
    Calls Try.prog 11 #[.agg (plC p), .string s, .string t] w fun e w' => e = .returned (ansV (runP p (bs s) (bs t))) ∧ Below w.heap.size w w' := by
  cases h : okP p
  · have : runP p (bs s) (bs t) = bad 1 := by unfold runP; rw [if_pos h]
    rw [this]
    exact rrun_bad p s t w h
  · by_cases hl : 1048576 < s.size ∨ 1048576 < t.size
    · have : runP p (bs s) (bs t) = bad 3 := by unfold runP; rw [if_neg (by rw [h]; simp), if_pos (by rw [bs_len, bs_len]; exact hl)]
      rw [this]
      exact rrun_long p s t w h hl
    · exact rrun_ok p s t w h (by omega) (by omega)
end Go.Proofs.Ytebnmjelelkcmaa.Bk
