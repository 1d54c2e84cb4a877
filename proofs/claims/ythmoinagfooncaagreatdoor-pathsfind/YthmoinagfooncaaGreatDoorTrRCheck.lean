/- What the document's Check answers. -/
import Derived.Test.YthmoinagfooncaaGreatDoorTrRChk
namespace Go.Proofs.YthmoinagfooncaaGreatDoor.Tr
open Go.RowKit Go.Proofs.YthmoinagfooncaaGreatDoor.Cu

set_option maxRecDepth 100000 in
set_option maxHeartbeats 400000 in
theorem rcheck_few (a : Option Addr) (n cap : Nat) (now : Int) (w : World) (hn : n < 2) :
    Calls Tryz.prog 37 #[.agg #[.slice a n cap, .int .i64 now]] w fun e w' => e = .returned (.bool false) ∧ Below w.heap.size w w' := by
  have HB1 : Hid (∀ o, Below w.heap.size w (w.alloc o)) := fun o => (Below.refl _ w).alloc (Nat.le_refl _) o
  have hn' : (n : Int) < 2 := by omega
  clear hn
  go_enter Tryz.func37, Tryz.ntmps37
  go_wp2
  go_ret
  exact ⟨rfl, unhide HB1 _⟩
set_option maxRecDepth 100000 in
set_option maxHeartbeats 400000 in
theorem rcheck_many (a : Option Addr) (n cap : Nat) (now : Int) (w : World) (hn : 513 < n) :
    Calls Tryz.prog 37 #[.agg #[.slice a n cap, .int .i64 now]] w fun e w' => e = .returned (.bool false) ∧ Below w.heap.size w w' := by
  have HB1 : Hid (∀ o, Below w.heap.size w (w.alloc o)) := fun o => (Below.refl _ w).alloc (Nat.le_refl _) o
  have hn' : 513 < (n : Int) := by omega
  have hn2 : ¬ (n : Int) < 2 := by omega
  clear hn
  go_enter Tryz.func37, Tryz.ntmps37
  go_wp2
  go_ret
  exact ⟨rfl, unhide HB1 _⟩
/-- what Check works in: the tree's box, how often each is listed, how many directories each lists -/
structure Ck (w W : World) (T0 g1 g2 n : Nat) (o : Obj) (T D : List Nat) : Prop where
  below : Below w.heap.size w W
  box : W.heap[T0]? = some o
  l1 : Li W g1 n T
  l2 : Li W g2 n D
  h0 : w.heap.size ≤ T0
  h1 : T0 < g1
  h2 : g1 < g2
  h3 : g2 < W.heap.size
theorem Ck.step {w W W' : World} {T0 g1 g2 n : Nat} {o : Obj} {T D : List Nat} (h : Ck w W T0 g1 g2 n o T D) (hb : Below W.heap.size W W') : Ck w W' T0 g1 g2 n o T D :=
  ⟨h.below.trans (hb.mono h.below.size), (hb.block _ (Array.getElem?_eq_some_iff.1 h.box).1).trans h.box, h.l1.below hb, h.l2.below hb, h.h0, h.h1, h.h2, Nat.lt_of_lt_of_le h.h3 hb.size⟩
theorem Ck.set1 {w W : World} {T0 g1 g2 n : Nat} {o : Obj} {T D : List Nat} (h : Ck w W T0 g1 g2 n o T D) (k : Nat) (x : Int) (hx : x = wr (T.count k + 1)) : Ck w (W.setCell ⟨g1, k, none⟩ (.int .i64 x)) T0 g1 g2 n o (k :: T) D := by
  have e : ∀ P, P ≠ g1 → (W.setCell ⟨g1, k, none⟩ (.int .i64 x)).heap[P]? = W.heap[P]? := fun P hP => heap_setCell_other W ⟨g1, k, none⟩ P _ hP
  have a1 := h.h0; have a2 := h.h1; have a3 := h.h2; have a4 := h.h3
  exact ⟨h.below.setCell (p := ⟨g1, k, none⟩) (by show w.heap.size ≤ g1; omega) _, (e _ (by omega)).trans h.box, h.l1.set k x hx, (e _ (by omega)).trans h.l2, h.h0, h.h1, h.h2, by simpa using h.h3⟩
theorem Ck.set2 {w W : World} {T0 g1 g2 n : Nat} {o : Obj} {T D : List Nat} (h : Ck w W T0 g1 g2 n o T D) (k : Nat) (x : Int) (hx : x = wr (D.count k + 1)) : Ck w (W.setCell ⟨g2, k, none⟩ (.int .i64 x)) T0 g1 g2 n o T (k :: D) := by
  have e : ∀ P, P ≠ g2 → (W.setCell ⟨g2, k, none⟩ (.int .i64 x)).heap[P]? = W.heap[P]? := fun P hP => heap_setCell_other W ⟨g2, k, none⟩ P _ hP
  have a1 := h.h0; have a2 := h.h1; have a3 := h.h2; have a4 := h.h3
  exact ⟨h.below.setCell (p := ⟨g2, k, none⟩) (by show w.heap.size ≤ g2; omega) _, (e _ (by omega)).trans h.box, (e _ (by omega)).trans h.l1, h.l2.set k x hx, h.h0, h.h1, h.h2, by simpa using h.h3⟩
theorem Ck.drew {w W : World} {T0 g1 g2 n : Nat} {o : Obj} {T D : List Nat} (h : Ck w W T0 g1 g2 n o T D) {q : Nat} : Ck w (W.drewN q) T0 g1 g2 n o T D := ⟨below_drewN h.below q, h.box, h.l1, h.l2, h.h0, h.h1, h.h2, h.h3⟩
theorem Ck.drew1 {w W : World} {T0 g1 g2 n : Nat} {o : Obj} {T D : List Nat} (h : Ck w W T0 g1 g2 n o T D) : Ck w W.drew T0 g1 g2 n o T D := ⟨⟨h.below.os, h.below.tape, h.below.output, h.below.size, h.below.block⟩, h.box, h.l1, h.l2, h.h0, h.h1, h.h2, h.h3⟩
theorem ck_new {w w1 : World} {T0 n : Nat} {o : Obj} (hb : Below w.heap.size w w1) (hx : w1.heap[T0]? = some o) (h0 : w.heap.size ≤ T0) : Ck w ((w1.alloc (.cells (lv n []) 3)).alloc (.cells (lv n []) 3)) T0 w1.heap.size (w1.heap.size + 1) n o [] [] := by
  have b1 : Below w1.heap.size w1 (w1.alloc (.cells (lv n []) 3)) := (Below.refl _ _).alloc (Nat.le_refl _) _
  have b2 : Below (w1.alloc (.cells (lv n []) 3)).heap.size (w1.alloc (.cells (lv n []) 3)) ((w1.alloc (.cells (lv n []) 3)).alloc (.cells (lv n []) 3)) := (Below.refl _ _).alloc (Nat.le_refl _) _
  have k1 := heap_alloc_new w1 (.cells (lv n []) 3)
  have k2 := heap_alloc_new (w1.alloc (.cells (lv n []) 3)) (.cells (lv n []) 3)
  rw [World.size_alloc] at k2
  have hlt := (Array.getElem?_eq_some_iff.1 hx).1
  exact ⟨hb.trans ((b1.trans (b2.mono (by simp))).mono hb.size), ((b1.trans (b2.mono (by simp))).block _ hlt).trans hx, (b2.block _ (by simp)).trans k1, k2, h0, hlt, by omega, by simp⟩
theorem cnt_le (ns : List Nd) (x : Nat) : cnt ns ns.length x ≤ namesP ns ns.length := by
  rw [names_sum ns _ (Nat.le_refl _)]
  exact sumTo_le _ _ _ fun i _ => Nat.le_trans List.count_le_length (by simp [tg])
theorem tg_take (ns : List Nd) (k j : Nat) (h : j < (nd ns k).list.length) : (tg ns k).take (j + 1) = (tg ns k).take j ++ [(en (nd ns k).list j).node.toNat] := by
  have h' : j < (tg ns k).length := by simpa [tg] using h
  rw [List.take_succ_eq_append_getElem h']
  simp [tg, en, List.getD, h]
theorem dirsIn_take (ns : List Nd) (l : List En) (j : Nat) (h : j < l.length) : dirsIn ns (l.take (j + 1)) = dirsIn ns (l.take j) + (if (nd ns (en l j).node.toNat).kind = 2 then 1 else 0) := by
  have e : en l j = l[j] := by simp [en, List.getD, h]
  rw [List.take_succ_eq_append_getElem h, e]
  unfold dirsIn
  rw [List.filter_append, List.length_append]
  congr 1
  by_cases hk : (nd ns l[j].node.toNat).kind = 2
  · simp [hk]
  · simp [hk]
theorem box10 {W : World} {N : Nat} {t : TypeId} {a0 a1 a2 a3 a4 a5 a6 a7 a8 a9 : Value} (h : W.heap[N]? = some (.cells #[a0, a1, a2, a3, a4, a5, a6, a7, a8, a9] t)) : W.cell? ⟨N, 0, none⟩ = some a0 ∧ W.cell? ⟨N, 1, none⟩ = some a1 ∧ W.cell? ⟨N, 2, none⟩ = some a2 ∧ W.cell? ⟨N, 3, none⟩ = some a3 ∧ W.cell? ⟨N, 4, none⟩ = some a4 ∧ W.cell? ⟨N, 5, none⟩ = some a5 ∧ W.cell? ⟨N, 6, none⟩ = some a6 ∧ W.cell? ⟨N, 7, none⟩ = some a7 ∧ W.cell? ⟨N, 8, none⟩ = some a8 ∧ W.cell? ⟨N, 9, none⟩ = some a9 :=
  ⟨by rw [cell_of_row _ _ _ _ _ _ h]; rfl, by rw [cell_of_row _ _ _ _ _ _ h]; rfl, by rw [cell_of_row _ _ _ _ _ _ h]; rfl, by rw [cell_of_row _ _ _ _ _ _ h]; rfl, by rw [cell_of_row _ _ _ _ _ _ h]; rfl, by rw [cell_of_row _ _ _ _ _ _ h]; rfl, by rw [cell_of_row _ _ _ _ _ _ h]; rfl, by rw [cell_of_row _ _ _ _ _ _ h]; rfl, by rw [cell_of_row _ _ _ _ _ _ h]; rfl, by rw [cell_of_row _ _ _ _ _ _ h]; rfl⟩
set_option maxRecDepth 100000 in
set_option maxHeartbeats 40000000 in
theorem rcheck_some (b off n cap : Nat) (ns : List Nd) (now : Int) (w : World) (h : ∀ i, i < n → Nx w b (off + i * 10) (nd ns i)) (hb : b < w.heap.size) (hl : ns.length = n) (h2 : 2 ≤ n) (h5 : n ≤ 513) (hs : Sm ns) (hts : ∀ i, (nd ns i).target.size < 4611686018427387904) (hns : ∀ i k, (en (nd ns i).list k).name.size < 4611686018427387904) :
    Calls Tryz.prog 37 #[.agg #[.slice (some ⟨b, off, none⟩) n cap, .int .i64 now]] w fun e w' => e = .returned (.bool (rcheckP now ns)) ∧ Below w.heap.size w w' := by
  obtain ⟨T0, hT0⟩ : ∃ T0, T0 = w.heap.size := ⟨_, rfl⟩
  obtain ⟨W, hWe⟩ : ∃ W, W = w.alloc (.cells #[.slice (some ⟨b, off, none⟩) n cap, .int .i64 now] 24) := ⟨_, rfl⟩
  have hB : Below w.heap.size w W := by rw [hWe]; exact (Below.refl _ _).alloc (Nat.le_refl _) _
  have hbox : W.heap[T0]? = some (.cells #[.slice (some ⟨b, off, none⟩) n cap, .int .i64 now] 24) := by rw [hWe, hT0]; exact heap_alloc_new w _
  have HX := hide hbox
  have HB := hide hB
  have HC := hide h
  have HL := hide hl
  have t0 : W.cell? ⟨T0, 0, none⟩ = some (.slice (some ⟨b, off, none⟩) n cap) := by rw [cell_of_row _ _ _ _ _ _ hbox]; rfl
  have t1 : W.cell? ⟨T0, 1, none⟩ = some (.int .i64 now) := by rw [cell_of_row _ _ _ _ _ _ hbox]; rfl
  have hx0 := h 0 (by omega)
  obtain ⟨da, dc, la, lc, h10, -, -⟩ := hx0
  obtain ⟨m0, hm0⟩ : ∃ m, m = nd ns 0 := ⟨_, rfl⟩
  rw [← hm0] at h10
  obtain ⟨dl, hdl⟩ : ∃ dl, m0.data.length = dl := ⟨_, rfl⟩
  obtain ⟨ll, hll⟩ : ∃ ll, m0.list.length = ll := ⟨_, rfl⟩
  have HZ := hide (fun V => rzero_any m0 da dl dc la ll lc V hdl hll)
  rw [hdl, hll] at h10
  obtain ⟨Z, hZ⟩ : ∃ Z, Z = zeroP m0 := ⟨_, rfl⟩
  rw [← hZ] at HZ
  have HZe0 : Hid (Z = zeroP (nd ns 0)) := by rw [← hm0]; exact hZ
  have HHe : Hid (headR now ns = (decide (2 ≤ n) && decide (n ≤ 513) && Z && decide ((nd ns 1).kind = 2) && decide ((nd ns 1).parent = 1) && decide ((nd ns (n - 1)).kind ≠ 0) && timeP now)) := by rw [hZ, hm0, ← hl]; exact rfl
  have HP : Hid (rcheckP now ns = (headR now ns && allTo (n - 1) (oneS ns) && limitsP ns && allTo (n - 1) (twoS ns))) := by rw [← hl]; exact rfl
  obtain ⟨P, hPe⟩ : ∃ P, P = rcheckP now ns := ⟨_, rfl⟩
  rw [← hPe] at HP ⊢
  have h2' : ¬ (n : Int) < 2 := by omega
  have h5' : ¬ 513 < (n : Int) := by omega
  have d0 := h10.c0
  have d1 := h10.c1
  have d2 := h10.c2
  have d3 := h10.c3
  have d4 := h10.c4
  have d5 := h10.c5
  have d6 := h10.c6
  have d7 := h10.c7
  have d8 := h10.c8
  have d9 := h10.c9
  simp only [Nat.zero_mul, Nat.add_zero] at d0 d1 d2 d3 d4 d5 d6 d7 d8 d9
  clear h10 hdl hll hZ hm0 hPe h hB hbox hl
  obtain ⟨kd, md, us, gr, lk, ti, dt, tgt, ls, pa⟩ := m0
  simp only at d0 d1 d2 d3 d4 d5 d6 d7 d8 d9
  unfold na at HZ
  simp only at HZ
  go_enter Tryz.func37, Tryz.ntmps37
  go_wp2_with fail
  refine (unhide HZ _).mono ?_
  rintro e w1 ⟨rfl, hb1⟩
  rw [← hWe] at hb1
  rw [← hT0]
  clear d0 d1 d2 d3 d4 d5 d6 d7 d8 d9 t0 t1 HZ
  have HB1 := hide ((unhide HB).trans (hb1.mono (unhide HB).size))
  have HX1 := hide ((hb1.block _ (Array.getElem?_eq_some_iff.1 (unhide HX)).1).trans (unhide HX))
  have HT0 := hide hT0
  clear hb1 hWe HX HB hT0
  have t0 : w1.cell? ⟨T0, 0, none⟩ = some (.slice (some ⟨b, off, none⟩) n cap) := by rw [cell_of_row _ _ _ _ _ _ (unhide HX1)]; rfl
  have t1 : w1.cell? ⟨T0, 1, none⟩ = some (.int .i64 now) := by rw [cell_of_row _ _ _ _ _ _ (unhide HX1)]; rfl
  cases Z with
  | false =>
    clear HZe0
    obtain rfl : P = false := by rw [unhide HP, unhide HHe]; simp
    clear HP HHe
    go_wp2
    go_ret
    exact ⟨rfl, unhide HB1⟩
  | true =>
  have HZ0 : Hid (bytesP ns 1 = 0 ∧ namesP ns 1 = 0 ∧ tg ns 0 = [] ∧ (nd ns 0).list = []) := by
    have hzp := zero_parts (unhide HZe0).symm
    have hl0 := unhide HL
    have e1 := bytesP_succ ns 0 (by omega)
    have e2 := namesP_succ ns 0 (by omega)
    refine ⟨?_, ?_, tg_none hzp.2.2.2, List.eq_nil_of_length_eq_zero hzp.2.2.2⟩
    · rw [e1, hzp.2.2.1]; simp [bytesP]
    · rw [e2, hzp.2.2.2]; simp [namesP]
  clear HZe0
  obtain ⟨da1, dc1, la1, lc1, q10, -, -⟩ := (unhide HC 1 (by omega)).below hb (unhide HB1)
  obtain ⟨z, hz⟩ : ∃ z, n = z + 1 := ⟨n - 1, by omega⟩
  obtain ⟨da2, dc2, la2, lc2, p10, -, -⟩ := (unhide HC z (by omega)).below hb (unhide HB1)
  have q0 := q10.c0
  have q9 := q10.c9
  have p0 := p10.c0
  simp only [Nat.one_mul] at q0 q9
  have hw : IntKind.i64.wrap ((n : Int) - 1) = (z : Int) := by rw [show (n : Int) - 1 = (z : Int) by omega]; exact wrap_small _ (by omega) (by omega)
  have hzn : z < n := by omega
  have hbw : b < w1.heap.size := Nat.lt_of_lt_of_le hb (unhide HB1).size
  rw [show n - 1 = z by omega] at HHe
  obtain ⟨k1, hk1⟩ : ∃ k1, k1 = (nd ns 1).kind := ⟨_, rfl⟩
  obtain ⟨p1, hp1⟩ : ∃ p1, p1 = (nd ns 1).parent := ⟨_, rfl⟩
  obtain ⟨kz, hkz⟩ : ∃ kz, kz = (nd ns z).kind := ⟨_, rfl⟩
  rw [← hk1, ← hp1, ← hkz] at HHe
  rw [← hk1] at q0
  rw [← hp1] at q9
  rw [← hkz] at p0
  have HZ := hide hz
  clear q10 p10 hk1 hp1 hkz hz
  by_cases a1 : k1 = 2
  case neg =>
    obtain rfl : P = false := by rw [unhide HP, unhide HHe]; simp [a1]
    have a1' : ¬ (k1.toNat : Int) = 2 := kd_no a1
    clear HP HHe a1
    go_wp2
    go_ret
    exact ⟨rfl, unhide HB1⟩
  subst a1
  by_cases a2 : p1 = 1
  case neg =>
    obtain rfl : P = false := by rw [unhide HP, unhide HHe]; simp [a2]
    clear HP HHe
    go_wp2
    go_ret
    exact ⟨rfl, unhide HB1⟩
  subst a2
  by_cases a3 : kz = 0
  case pos =>
    obtain rfl : P = false := by rw [unhide HP, unhide HHe]; simp [a3]
    subst a3
    clear HP HHe
    go_wp2
    go_ret
    exact ⟨rfl, unhide HB1⟩
  have a3' : ((kz.toNat : Int) == 0) = false := by have := kd_no a3; simpa using this
  by_cases a4 : 0 ≤ now
  case neg =>
    obtain rfl : P = false := by rw [unhide HP, unhide HHe]; simp [timeP, a4]
    clear HP HHe a3
    go_wp2
    go_ret
    exact ⟨rfl, unhide HB1⟩
  by_cases a5 : now ≤ 1099511627775
  case neg =>
    obtain rfl : P = false := by rw [unhide HP, unhide HHe]; simp [timeP, a5]
    clear HP HHe a3
    go_wp2
    go_ret
    exact ⟨rfl, unhide HB1⟩
  have HP2 : Hid (P = (allTo (n - 1) (oneS ns) && limitsP ns && allTo (n - 1) (twoS ns))) := by
    show P = _
    rw [unhide HP, unhide HHe]
    simp [timeP, a3, a4, a5, h2, h5]
  clear HP HHe a3
  have hmk := made_int n (by omega)
  have HCk := hide (ck_new (n := n) (unhide HB1) (unhide HX1) (Nat.le_of_eq (unhide HT0).symm))
  have HB1' := HB1
  go_wp2_with fail
  obtain ⟨g1, hg1⟩ : ∃ g, g = w1.heap.size := ⟨_, rfl⟩
  obtain ⟨g2, hg2⟩ : ∃ g, g = w1.heap.size + 1 := ⟨_, rfl⟩
  obtain ⟨W3, hW3⟩ : ∃ W, W = (w1.alloc (.cells (lv n []) 3)).alloc (.cells (lv n []) 3) := ⟨_, rfl⟩
  obtain ⟨o, ho⟩ : ∃ o : Obj, o = .cells #[.slice (some ⟨b, off, none⟩) n cap, .int .i64 now] 24 := ⟨_, rfl⟩
  rw [← hW3, ← hg2, ← hg1]
  rw [← hW3, ← hg2, ← hg1, ← ho] at HCk
  have HO := hide ho
  have HUP : Hid (∀ (V : World) (x : Nat), Below w.heap.size w V → Calls Tryz.prog 60 #[.agg #[.slice (some ⟨b, off, none⟩) n cap, .int .i64 now], .int .i64 (x : Int)] V fun e w' => e = .returned (.int .i64 (upG ns 33 (x : Int) 0)) ∧ Below V.heap.size V w') := fun V x hV => rup_any b off n cap ns now (x : Int) V (fun i hi => (unhide HC i hi).below hb hV) (Nat.lt_of_lt_of_le hb hV.size) (unhide HL)
  have HTS := hide hts
  have HNS := hide hns
  have HSM := hide hs
  have hB0 : Hid (bytesP ns 1 = 0 ∧ namesP ns 1 = 0 ∧ tg ns 0 = [] ∧ (nd ns 0).list = []) := unhide HZ0
  clear hg1 hg2 hW3 ho hmk HB1 HB1' HX1 t0 t1 q0 q9 p0 hw hzn hbw a3' HZ hts hns hs HT0 HZ0
  go_loopw [6, 7, 8] (fun bv nv iv wr => ∃ (k y z : Nat) (T D : List Nat), 1 ≤ k ∧ k ≤ n ∧ iv = .int .i64 k ∧ bv = .int .i64 y ∧ nv = .int .i64 z ∧ y ≤ 1000000000 ∧ z ≤ 1000000000 ∧ Hid (y = bytesP ns k ∧ z = namesP ns k) ∧ Hid (∀ j, 1 ≤ j → j < k → oneR ns j = true) ∧ Hid (∀ x, T.count x = cnt ns k x) ∧ Hid (∀ x, D.count x = if x < k then dirsIn ns (nd ns x).list else 0) ∧ Hid (Ck w wr T0 g1 g2 n o T D)) (fun _ _ iv _ => n - (intOf iv).toNat)
  case atStart =>
    refine ⟨1, 0, 0, [], [], by omega, by omega, rfl, rfl, rfl, by omega, by omega, ⟨(unhide hB0).1.symm, (unhide hB0).2.1.symm⟩, fun j h1 h2 => by omega, fun x => ?_, fun x => ?_, HCk⟩
    · show 0 = cnt ns 1 x
      unfold cnt
      rw [sumTo_succ]
      simp [sumTo, (unhide hB0).2.2.1]
    · show 0 = _
      split
      · rename_i h
        obtain rfl : x = 0 := by omega
        rw [(unhide hB0).2.2.2]; rfl
      · rfl
  case round =>
    obtain ⟨k, y, z, T, D, hk1, hk, rfl, rfl, rfl, hy, hzz, hyz, hall, hT, hD, HCk'⟩ := hrel
    clear HCk
    by_cases hlt : k < n
    · have hlt' : (k : Int) < (n : Int) := by omega
      have hbx := (unhide HCk').box
      rw [unhide HO] at hbx
      have t0 : wr.cell? ⟨T0, 0, none⟩ = some (.slice (some ⟨b, off, none⟩) n cap) := by rw [cell_of_row _ _ _ _ _ _ hbx]; rfl
      obtain ⟨da, dc, la, lc, h10w, hby, heg⟩ := unhide HC k hlt
      have h10 := h10w.of fun o => (unhide HCk').below.cell (p := ⟨b, o, none⟩) hb
      clear h10w
      have HFa : Hid (oneR ns k = false → P = false) := fun h => by
        rw [unhide HP2, allTo_false (p := oneS ns) (k := k - 1) (by omega) (by unfold oneS; rw [show k - 1 + 1 = k by omega]; exact h)]; rfl
      obtain ⟨m, hm⟩ : ∃ m, m = nd ns k := ⟨_, rfl⟩
      rw [← hm] at h10 hby heg
      have htg := unhide HTS k
      rw [← hm] at htg
      obtain ⟨dl, hdl⟩ : ∃ dl, m.data.length = dl := ⟨_, rfl⟩
      obtain ⟨ll, hll⟩ : ∃ ll, m.list.length = ll := ⟨_, rfl⟩
      rw [hdl, hll] at h10
      rw [hll] at heg
      have HZ1 := hide (fun V => rzero_any m da dl dc la ll lc V hdl hll)
      have HA1 := hide (fun V => ralone_any m da dl dc la ll lc V hdl hll htg)
      have c0 := h10.c0
      have c1 := h10.c1
      have c2 := h10.c2
      have c3 := h10.c3
      have c4 := h10.c4
      have c5 := h10.c5
      have c6 := h10.c6
      have c7 := h10.c7
      have c8 := h10.c8
      have c9 := h10.c9
      have hbw : b < wr.heap.size := Nat.lt_of_lt_of_le hb (unhide HCk').below.size
      have HX0 := hide (heap_alloc_new wr (.cells (na m (.slice da dl dc) (.slice la ll lc)) 48))
      have HCa := hide ((unhide HCk').step ((Below.refl _ wr).alloc (Nat.le_refl _) (.cells (na m (.slice da dl dc) (.slice la ll lc)) 48)))
      have HM := hide hm
      have HDL := hide hdl
      have HLL := hide hll
      have HG := hide heg
      by_cases hk0 : m.kind = 0
      · have HOne : Hid (oneR ns k = zeroP m) := by show oneR ns k = zeroP m; unfold oneR; rw [← hm, if_pos hk0]
        obtain ⟨Z, hZ⟩ : ∃ Z, Z = zeroP m := ⟨_, rfl⟩
        rw [← hZ] at HOne HZ1
        have HZe := hide hZ
        clear hbx h10 hby heg hm hdl hll HA1 hZ htg
        obtain ⟨kd, md, us, gr, lk, ti, dt, tgt, ls, pa⟩ := m
        simp only at c0 c1 c2 c3 c4 c5 c6 c7 c8 c9 hk0
        subst hk0
        unfold na at *
        simp only at *
        go_wp2_with fail
        refine (unhide HZ1 _).mono ?_
        rintro e w2 ⟨rfl, hb2⟩
        have HCb := hide ((unhide HCa).step hb2)
        clear hb2 HCa HX0 HZ1 c0 c1 c2 c3 c4 c5 c6 c7 c8 c9 t0
        cases Z with
        | false =>
          have hP := unhide HFa (unhide HOne)
          subst hP
          have HB9 := hide (unhide HCb).below
          clear HP2 HFa
          go_wp2
          go_ret
          exact ⟨rfl, unhide HB9⟩
        | true =>
          have hzp := zero_parts (unhide HZe).symm
          simp only at hzp
          have hmm := unhide HM
          go_wp2
          go_roundw
          case rel =>
            refine ⟨k + 1, y, z, T, D, by omega, by omega, by go_num, rfl, rfl, hy, hzz, ?_, ?_, ?_, ?_, HCb⟩
            · have e1 := unhide hyz
              exact ⟨by rw [bytesP_succ ns k (by have := unhide HL; omega), ← hmm]; simp only; rw [hzp.2.2.1]; exact e1.1, by rw [namesP_succ ns k (by have := unhide HL; omega), ← hmm]; simp only; rw [hzp.2.2.2]; exact e1.2⟩
            · intro j h1 h2
              by_cases e : j = k
              · subst e; exact unhide HOne
              · exact unhide hall j h1 (by omega)
            · intro x
              rw [unhide hT x]
              unfold cnt
              rw [sumTo_succ, tg_none (by rw [← hmm]; exact hzp.2.2.2)]; rfl
            · intro x
              rw [unhide hD x]
              by_cases e : x = k
              · subst e
                rw [if_neg (by omega), if_pos (by omega), ← hmm]
                simp only
                rw [List.eq_nil_of_length_eq_zero hzp.2.2.2]; rfl
              · by_cases e2 : x < k
                · rw [if_pos e2, if_pos (by omega)]
                · rw [if_neg e2, if_neg (by omega)]
          case measure => simp [intOf]; omega
      · have HOne : Hid (oneR ns k = (aloneP m && allTo ll (entR ns k))) := by
          show oneR ns k = _
          unfold oneR
          rw [← hm, if_neg hk0, hll]
        obtain ⟨Z, hZ⟩ : ∃ Z, Z = aloneP m := ⟨_, rfl⟩
        rw [← hZ] at HOne HA1
        have hk0' : ((m.kind.toNat : Int) == 0) = false := by have := kd_no hk0; simpa using this
        have hbs : Hid (bytesP ns (k + 1) = bytesP ns k + dl ∧ namesP ns (k + 1) = namesP ns k + ll) := ⟨by rw [bytesP_succ ns k (by have := unhide HL; omega), ← hm, hdl], by rw [namesP_succ ns k (by have := unhide HL; omega), ← hm, hll]⟩
        have hy2 : y + dl ≤ 1000000000 := by
          have e1 := (unhide hbs).1
          rw [(unhide hyz).1, ← e1]
          exact Nat.le_trans (bytesP_mono ns (k + 1) (by have := unhide HL; omega)) (unhide HSM).hby
        have hz2 : z + ll ≤ 1000000000 := by
          have e1 := (unhide hbs).2
          rw [(unhide hyz).2, ← e1]
          exact Nat.le_trans (namesP_mono ns (k + 1) (by have := unhide HL; omega)) (unhide HSM).hna
        clear hbx h10 hby heg hm hdl hll HZ1 hZ htg hk0
        obtain ⟨kd, md, us, gr, lk, ti, dt, tgt, ls, pa⟩ := m
        simp only at c0 c1 c2 c3 c4 c5 c6 c7 c8 c9 hk0'
        unfold na at *
        simp only at *
        go_wp2_with fail
        refine (unhide HA1 _).mono ?_
        rintro e w2 ⟨rfl, hb2⟩
        have HCb := hide ((unhide HCa).step hb2)
        obtain ⟨X, hX⟩ : ∃ X, X = wr.heap.size := ⟨_, rfl⟩
        have HXb := hide ((hb2.block _ (Array.getElem?_eq_some_iff.1 (unhide HX0)).1).trans (unhide HX0))
        rw [← hX] at HXb ⊢
        have hgX : g2 < X := by rw [hX]; exact (unhide HCk').h3
        clear hb2 HCa HX0 HA1 c0 c1 c2 c3 c4 c5 c6 c7 c8 c9 t0 hX HCk' hbw
        cases Z with
        | false =>
          have hP := unhide HFa (unhide HOne)
          subst hP
          have HB9 := hide (unhide HCb).below
          clear HP2 HFa
          go_wp2
          go_ret
          exact ⟨rfl, unhide HB9⟩
        | true =>
          rw [Bool.true_and] at HOne
          obtain ⟨x0, x1, x2, x3, x4, x5, x6, x7, x8, x9⟩ := box10 (unhide HXb)
          go_wp2_with fail
          go_loopw [10] (fun jv wi => ∃ (j : Nat) (T' D' : List Nat), j ≤ ll ∧ jv = .int .i64 j ∧ Hid (∀ i, i < j → entR ns k i = true) ∧ Hid (∀ x, T'.count x = cnt ns k x + ((tg ns k).take j).count x) ∧ Hid (∀ x, D'.count x = if x < k then dirsIn ns (nd ns x).list else if x = k then dirsIn ns ((nd ns k).list.take j) else 0) ∧ Hid (Ck w wi T0 g1 g2 n o T' D') ∧ Hid (wi.heap[X]? = some (.cells #[.int .u8 kd.toNat, .int .i64 md, .int .i64 us, .int .i64 gr, .int .i64 lk, .int .i64 ti, .slice da dl dc, .string tgt, .slice la ll lc, .int .i64 pa] 48))) (fun jv _ => ll - (intOf jv).toNat)
          case atStart =>
            refine ⟨0, T, D, Nat.zero_le _, rfl, fun i hi => by omega, fun x => by simp [unhide hT x], fun x => ?_, HCb, HXb⟩
            rw [unhide hD x]
            split
            · rfl
            · split
              · rfl
              · rfl
          case round =>
            dsimp +zetaDelta only
            as_aux_lemma =>
              clear HCb HXb x0 x1 x2 x3 x4 x5 x6 x7 x8 x9 hT hD
              obtain ⟨j, T', D', hj, rfl, hej, hT, hD, HCi, HXi⟩ := hrel
              obtain ⟨x0, x1, x2, x3, x4, x5, x6, x7, x8, x9⟩ := box10 (unhide HXi)
              by_cases hjl : j < ll
              · have hjl' : (j : Int) < (ll : Int) := by omega
                rcases (unhide HG).cells with h0 | ⟨lb, lo, rfl, hlb, hcc⟩
                · omega
                have HFe : Hid (entR ns k j = false → P = false) := fun h => unhide HFa ((unhide HOne).trans (allTo_false (p := entR ns k) hjl h))
                have hbl := (unhide HCi).below
                have ec := (hcc j hjl).of fun o => hbl.cell (p := ⟨lb, o, none⟩) hlb
                have e0 := ec.c0
                have e1 := ec.c1
                have hlbw : lb < wr.heap.size := Nat.lt_of_lt_of_le hlb hbl.size
                have hbw : b < wr.heap.size := Nat.lt_of_lt_of_le hb hbl.size
                have hXw : X < wr.heap.size := (Array.getElem?_eq_some_iff.1 (unhide HXi)).1
                have hbx := (unhide HCi).box
                rw [unhide HO] at hbx
                have t0 : wr.cell? ⟨T0, 0, none⟩ = some (.slice (some ⟨b, off, none⟩) n cap) := by rw [cell_of_row _ _ _ _ _ _ hbx]; rfl
                have hT0w : T0 < wr.heap.size := (Array.getElem?_eq_some_iff.1 hbx).1
                have hls : Hid (ls = (nd ns k).list) := by rw [← unhide HM]; exact rfl
                have hnm : (en ls j).name.size < 4611686018427387904 := by rw [unhide hls]; exact unhide HNS k j
                have HN := hide (fun V => rname_any (en ls j).name V hnm)
                have HEn : Hid (entR ns k j = (okE ls j && decide (1 < (en ls j).node) && decide ((en ls j).node < (n : Int)) && !decide ((nd ns (en ls j).node.toNat).kind = 0) && (!decide ((nd ns (en ls j).node.toNat).kind = 2) || decide ((nd ns (en ls j).node.toNat).parent = (k : Int))))) := by rw [unhide hls, ← unhide HL]; exact rfl
                have HOk : Hid (okE ls j = (nameP (en ls j).name && (decide (j = 0) || ltB (en ls (j - 1)).name (en ls j).name))) := rfl
                have hpre : j = 0 ∨ ∃ i, j = i + 1 ∧ wr.cell? ⟨lb, lo + i * 2, none⟩ = some (.string (en ls i).name) := by
                  cases j with
                  | zero => exact .inl rfl
                  | succ i => exact .inr ⟨i, rfl, ((hcc i (by omega)).of fun o => hbl.cell (p := ⟨lb, o, none⟩) hlb).c0⟩
                have hCo : Hid (∀ ob, Ck w (wr.alloc ob) T0 g1 g2 n o T' D') := fun ob => (unhide HCi).step ((Below.refl _ wr).alloc (Nat.le_refl _) ob)
                have hBa : Hid (∀ ob, Below w.heap.size w (wr.alloc ob)) := fun ob => (unhide hCo ob).below
                have HCn : Hid (∀ i, i < n → ∃ da dc la lc, N10 wr b (off + i * 10) (nd ns i) (.slice da (nd ns i).data.length dc) (.slice la (nd ns i).list.length lc)) := fun i hi => by
                  obtain ⟨da, dc, la, lc, h10, _⟩ := (unhide HC i hi).below hb hbl
                  exact ⟨da, dc, la, lc, h10⟩
                have HTk : Hid ((tg ns k).take (j + 1) = (tg ns k).take j ++ [(en ls j).node.toNat]) := by rw [unhide hls]; exact tg_take ns k j (by rw [← unhide hls, unhide HLL]; exact hjl)
                have HDk : Hid (dirsIn ns ((nd ns k).list.take (j + 1)) = dirsIn ns ((nd ns k).list.take j) + (if (nd ns (en ls j).node.toNat).kind = 2 then 1 else 0)) := by rw [unhide hls]; exact dirsIn_take ns _ j (by rw [← unhide hls, unhide HLL]; exact hjl)
                obtain ⟨nm, hnme⟩ : ∃ x, x = (en ls j).name := ⟨_, rfl⟩
                obtain ⟨no, hnoe⟩ : ∃ x, x = (en ls j).node := ⟨_, rfl⟩
                rw [← hnme] at e0 HN HOk
                rw [← hnoe] at e1 HEn HTk HDk
                clear hbl ec hcc hbx hnm hnme hnoe
                cases hN : nameP nm with
                | false =>
                  rw [hN] at HN HOk
                  have hP := unhide HFe (by rw [unhide HEn, unhide HOk]; simp)
                  subst hP
                  clear HP2 HFa HFe HOne HEn HOk hpre hN
                  go_wp2
                  go_quiet ((go_at_call 59; exact Calls.quiet_of_same (unhide HN _)))
                  go_wp2
                  go_ret
                  exact ⟨rfl, below_drewN (unhide hBa _) _⟩
                | true =>
                  rw [hN] at HN HOk
                  clear hN
                  rcases hpre with hj0 | ⟨i, hji, hci⟩
                  · as_aux_lemma =>
                      have hd : decide (0 < j) = false := by simp; omega
                      replace HOk : Hid (okE ls j = true) := by show _ = _; rw [unhide HOk, hj0]; rfl
                      clear hj0
                      by_cases b1 : no < 2
                      · have hP := unhide HFe (by rw [unhide HEn, show decide (1 < no) = false from decide_eq_false (by omega)]; simp)
                        subst hP
                        clear HP2 HFa HFe HOne HEn HOk
                        go_wp2
                        have q1 : decide (no < 2) = true := by simp; omega
                        go_quiet ((go_at_call 59; exact Calls.quiet_of_same (unhide HN _)))
                        go_wp2
                        go_ret
                        exact ⟨rfl, below_drewN (unhide hBa _) _⟩
                      by_cases b2 : (n : Int) ≤ no
                      · have hP := unhide HFe (by rw [unhide HEn, show decide (no < (n : Int)) = false from decide_eq_false (by omega)]; simp)
                        subst hP
                        clear HP2 HFa HFe HOne HEn HOk
                        go_wp2
                        have q1 : decide (no < 2) = false := by simp; omega
                        have q3 : decide ((n : Int) ≤ no) = true := by simp; omega
                        go_quiet ((go_at_call 59; exact Calls.quiet_of_same (unhide HN _)))
                        go_wp2
                        go_ret
                        exact ⟨rfl, below_drewN (unhide hBa _) _⟩
                      obtain ⟨x, rfl⟩ : ∃ x : Nat, no = (x : Int) := ⟨no.toNat, by omega⟩
                      have hxn : x < n := by omega
                      obtain ⟨da3, dc3, la3, lc3, r10⟩ := unhide HCn x hxn
                      have r0 := r10.c0
                      have r9 := r10.c9
                      rw [Int.toNat_natCast] at HEn HTk HDk
                      obtain ⟨xk, hxk⟩ : ∃ q, q = (nd ns x).kind := ⟨_, rfl⟩
                      obtain ⟨xp, hxp⟩ : ∃ q, q = (nd ns x).parent := ⟨_, rfl⟩
                      rw [← hxk] at r0 HEn HDk
                      rw [← hxp] at r9 HEn
                      clear r10 hxk hxp
                      by_cases b3 : xk = 0
                      · subst b3
                        have hP := unhide HFe (by rw [unhide HEn]; simp)
                        subst hP
                        clear HP2 HFa HFe HOne HEn HOk
                        go_wp2
                        have q1 : decide ((x : Int) < 2) = false := by simp; omega
                        have q2 : decide (n ≤ x) = false := by simp; omega
                        have q3 : decide ((n : Int) ≤ (x : Int)) = false := by simp; omega
                        go_quiet ((go_at_call 59; exact Calls.quiet_of_same (unhide HN _)))
                        go_wp2
                        go_ret
                        exact ⟨rfl, below_drewN (unhide hBa _) _⟩
                      have b3' : ((xk.toNat : Int) == 0) = false := by have := kd_no b3; simpa using this
                      have HE2 : Hid (entR ns k j = (!decide (xk = 2) || decide (xp = (k : Int)))) := by
                        show _ = _
                        rw [unhide HEn, unhide HOk, show decide (1 < (x : Int)) = true from decide_eq_true (by omega), show decide ((x : Int) < (n : Int)) = true from decide_eq_true (by omega), show decide (xk = 0) = false from decide_eq_false b3]; simp
                      have l1 := (unhide HCi).l1.cell x hxn
                      have f1 := (unhide HCi).l1.frozen x
                      have hg1w := (unhide HCi).l1.lt
                      have HC1 : Hid (∀ ob q, Ck w (((wr.alloc ob).drewN q).setCell ⟨g1, x, none⟩ (.int .i64 (wrap64 (Tr.wr (T'.count x) + 1)))) T0 g1 g2 n o (x :: T') D') := fun ob q => (unhide hCo ob).drew.set1 x _ (by rw [← IntWalk.i64_left]; exact wr_succ _)
                      have HX1 : Hid (∀ ob q v, (((wr.alloc ob).drewN q).setCell ⟨g1, x, none⟩ v).heap[X]? = wr.heap[X]?) := fun ob q v => (heap_setCell_other _ ⟨g1, x, none⟩ X _ (by have := (unhide HCi).h2; show X ≠ g1; omega)).trans (Below.heap_alloc _ _ _ hXw)
                      have HT2 : Hid (∀ y, (x :: T').count y = cnt ns k y + ((tg ns k).take (j + 1)).count y) := fun y => by
                        rw [unhide HTk, List.count_append, List.count_cons, unhide hT y, List.count_cons, List.count_nil]; omega
                      obtain ⟨cx, hcx⟩ : ∃ cx, cx = Tr.wr (T'.count x) := ⟨_, rfl⟩
                      rw [← hcx] at l1 HC1
                      clear hcx b3 HEn HOk
                      by_cases b4 : xk = 2
                      · subst b4
                        have l2 := (unhide HCi).l2.cell k hlt
                        have f2 := (unhide HCi).l2.frozen k
                        have hg2w := (unhide HCi).l2.lt
                        have hne : ¬ g2 = g1 := by have := (unhide HCi).h2; omega
                        have hne1 : ¬ b = g1 := by have := (unhide HCi).h0; have := (unhide HCi).h1; omega
                        have hne2 : ¬ b = g2 := by have := (unhide HCi).h0; have := (unhide HCi).h1; have := (unhide HCi).h2; omega
                        have hne3 : ¬ T0 = g1 := by have := (unhide HCi).h1; omega
                        have hne4 : ¬ T0 = g2 := by have := (unhide HCi).h1; have := (unhide HCi).h2; omega
                        have hne5 : ¬ wr.heap.size = g1 := by omega
                        have hne6 : ¬ wr.heap.size = g2 := by omega
                        have HC2 : Hid (∀ ob q, Ck w ((((wr.alloc ob).drewN q).setCell ⟨g1, x, none⟩ (.int .i64 (wrap64 (cx + 1)))).setCell ⟨g2, k, none⟩ (.int .i64 (wrap64 (Tr.wr (D'.count k) + 1)))) T0 g1 g2 n o (x :: T') (k :: D')) := fun ob q => (unhide HC1 ob q).set2 k _ (by rw [← IntWalk.i64_left]; exact wr_succ _)
                        have HX2 : Hid (∀ ob q v v2, ((((wr.alloc ob).drewN q).setCell ⟨g1, x, none⟩ v).setCell ⟨g2, k, none⟩ v2).heap[X]? = wr.heap[X]?) := fun ob q v v2 => (heap_setCell_other _ ⟨g2, k, none⟩ X _ (by show X ≠ g2; omega)).trans (unhide HX1 ob q v)
                        have HD2 : Hid (∀ y, (k :: D').count y = if y < k then dirsIn ns (nd ns y).list else if y = k then dirsIn ns ((nd ns k).list.take (j + 1)) else 0) := fun y => by
                          rw [List.count_cons, unhide hD y, unhide HDk, if_pos rfl]
                          by_cases e : y = k
                          · subst e; simp
                          · have e' : ¬ k = y := fun h => e h.symm
                            simp [e, e']
                        obtain ⟨cd, hcd⟩ : ∃ cd, cd = Tr.wr (D'.count k) := ⟨_, rfl⟩
                        rw [← hcd] at l2 HC2
                        have HB2 : Hid (∀ ob q, Below w.heap.size w ((((wr.alloc ob).drewN q).setCell ⟨g1, x, none⟩ (.int .i64 (wrap64 (cx + 1)))).setCell ⟨g2, k, none⟩ (.int .i64 (wrap64 (cd + 1))))) := fun ob q => (unhide HC2 ob q).below
                        clear hcd HC1 HX1
                        by_cases b5 : xp = (k : Int)
                        · have HE3 : Hid (entR ns k j = true) := by show _ = _; rw [unhide HE2, b5]; simp
                          subst b5
                          clear HE2 HP2 HFa HFe HB2
                          go_wp2
                          have q1 : decide ((x : Int) < 2) = false := by simp; omega
                          have q2 : decide (n ≤ x) = false := by simp; omega
                          have q3 : decide ((n : Int) ≤ (x : Int)) = false := by simp; omega
                          go_quiet ((go_at_call 59; exact Calls.quiet_of_same (unhide HN _)))
                          go_wp2_with fail
                          go_roundw
                          case rel =>
                            refine ⟨j + 1, x :: T', k :: D', by omega, by go_num, fun i hi => ?_, HT2, HD2, unhide HC2 _ _, (unhide HX2 _ _ _ _).trans (unhide HXi)⟩
                            by_cases e : i = j
                            · subst e; exact unhide HE3
                            · exact unhide hej i (by omega)
                          case measure => simp [intOf]; omega
                        · have HE3 : Hid (entR ns k j = false) := by show _ = _; rw [unhide HE2]; simp [b5]
                          have hP := unhide HFe (unhide HE3)
                          subst hP
                          have b5' : (xp == (k : Int)) = false := by simpa using b5
                          clear HE2 HE3 HP2 HFa HFe HOne HC2 b5
                          go_wp2
                          have q1 : decide ((x : Int) < 2) = false := by simp; omega
                          have q2 : decide (n ≤ x) = false := by simp; omega
                          have q3 : decide ((n : Int) ≤ (x : Int)) = false := by simp; omega
                          go_quiet ((go_at_call 59; exact Calls.quiet_of_same (unhide HN _)))
                          go_wp2_with fail
                          go_ret
                          exact ⟨rfl, unhide HB2 _ _⟩
                      · have b4' : ((xk.toNat : Int) == 2) = false := by have := kd_no b4; simpa using this
                        have HE3 : Hid (entR ns k j = true) := by show _ = _; rw [unhide HE2]; simp [b4]
                        rw [if_neg b4, Nat.add_zero] at HDk
                        clear HE2 HP2 HFa HFe b4
                        go_wp2
                        have q1 : decide ((x : Int) < 2) = false := by simp; omega
                        have q2 : decide (n ≤ x) = false := by simp; omega
                        have q3 : decide ((n : Int) ≤ (x : Int)) = false := by simp; omega
                        go_quiet ((go_at_call 59; exact Calls.quiet_of_same (unhide HN _)))
                        go_wp2_with fail
                        go_roundw
                        case rel =>
                          refine ⟨j + 1, x :: T', D', by omega, by go_num, fun i hi => ?_, HT2, fun y => ?_, unhide HC1 _ _, (unhide HX1 _ _ _).trans (unhide HXi)⟩
                          · by_cases e : i = j
                            · subst e; exact unhide HE3
                            · exact unhide hej i (by omega)
                          · rw [unhide HDk]; exact unhide hD y
                        case measure => simp [intOf]; omega
                  · as_aux_lemma =>
                      obtain ⟨pm, hpm⟩ : ∃ x, x = (en ls i).name := ⟨_, rfl⟩
                      rw [show j - 1 = i by omega, ← hpm, show decide (j = 0) = false by simp; omega] at HOk
                      rw [← hpm] at hci
                      have hw : IntKind.i64.wrap ((j : Int) - 1) = (i : Int) := by rw [show (j : Int) - 1 = (i : Int) by omega]; exact wrap_small _ (by omega) (by omega)
                      have hil : i < ll := by omega
                      have hd : decide (0 < j) = true := by simp; omega
                      clear hpm hji
                      unfold ltB at HOk
                      cases hLs : Op.bytesLess pm.toList nm.toList with
                      | false =>
                        rw [hLs] at HOk
                        have hP := unhide HFe (by rw [unhide HEn, unhide HOk]; simp)
                        subst hP
                        clear HP2 HFa HFe HOne HEn HOk
                        go_wp2
                        go_quiet ((go_at_call 59; exact Calls.quiet_of_same (unhide HN _)))
                        go_wp2
                        go_ret
                        exact ⟨rfl, below_drewN (unhide hBa _) _⟩
                      | true =>
                        rw [hLs] at HOk
                        replace HOk : Hid (okE ls j = true) := by show _ = _; rw [unhide HOk]; rfl
                        by_cases b1 : no < 2
                        · have hP := unhide HFe (by rw [unhide HEn, show decide (1 < no) = false from decide_eq_false (by omega)]; simp)
                          subst hP
                          clear HP2 HFa HFe HOne HEn HOk
                          go_wp2
                          have q1 : decide (no < 2) = true := by simp; omega
                          go_quiet ((go_at_call 59; exact Calls.quiet_of_same (unhide HN _)))
                          go_wp2
                          go_ret
                          exact ⟨rfl, below_drewN (unhide hBa _) _⟩
                        by_cases b2 : (n : Int) ≤ no
                        · have hP := unhide HFe (by rw [unhide HEn, show decide (no < (n : Int)) = false from decide_eq_false (by omega)]; simp)
                          subst hP
                          clear HP2 HFa HFe HOne HEn HOk
                          go_wp2
                          have q1 : decide (no < 2) = false := by simp; omega
                          have q3 : decide ((n : Int) ≤ no) = true := by simp; omega
                          go_quiet ((go_at_call 59; exact Calls.quiet_of_same (unhide HN _)))
                          go_wp2
                          go_ret
                          exact ⟨rfl, below_drewN (unhide hBa _) _⟩
                        obtain ⟨x, rfl⟩ : ∃ x : Nat, no = (x : Int) := ⟨no.toNat, by omega⟩
                        have hxn : x < n := by omega
                        obtain ⟨da3, dc3, la3, lc3, r10⟩ := unhide HCn x hxn
                        have r0 := r10.c0
                        have r9 := r10.c9
                        rw [Int.toNat_natCast] at HEn HTk HDk
                        obtain ⟨xk, hxk⟩ : ∃ q, q = (nd ns x).kind := ⟨_, rfl⟩
                        obtain ⟨xp, hxp⟩ : ∃ q, q = (nd ns x).parent := ⟨_, rfl⟩
                        rw [← hxk] at r0 HEn HDk
                        rw [← hxp] at r9 HEn
                        clear r10 hxk hxp
                        by_cases b3 : xk = 0
                        · subst b3
                          have hP := unhide HFe (by rw [unhide HEn]; simp)
                          subst hP
                          clear HP2 HFa HFe HOne HEn HOk
                          go_wp2
                          have q1 : decide ((x : Int) < 2) = false := by simp; omega
                          have q2 : decide (n ≤ x) = false := by simp; omega
                          have q3 : decide ((n : Int) ≤ (x : Int)) = false := by simp; omega
                          go_quiet ((go_at_call 59; exact Calls.quiet_of_same (unhide HN _)))
                          go_wp2
                          go_ret
                          exact ⟨rfl, below_drewN (unhide hBa _) _⟩
                        have b3' : ((xk.toNat : Int) == 0) = false := by have := kd_no b3; simpa using this
                        have HE2 : Hid (entR ns k j = (!decide (xk = 2) || decide (xp = (k : Int)))) := by
                          show _ = _
                          rw [unhide HEn, unhide HOk, show decide (1 < (x : Int)) = true from decide_eq_true (by omega), show decide ((x : Int) < (n : Int)) = true from decide_eq_true (by omega), show decide (xk = 0) = false from decide_eq_false b3]; simp
                        have l1 := (unhide HCi).l1.cell x hxn
                        have f1 := (unhide HCi).l1.frozen x
                        have hg1w := (unhide HCi).l1.lt
                        have HC1 : Hid (∀ ob q, Ck w (((wr.alloc ob).drewN q).setCell ⟨g1, x, none⟩ (.int .i64 (wrap64 (Tr.wr (T'.count x) + 1)))) T0 g1 g2 n o (x :: T') D') := fun ob q => (unhide hCo ob).drew.set1 x _ (by rw [← IntWalk.i64_left]; exact wr_succ _)
                        have HX1 : Hid (∀ ob q v, (((wr.alloc ob).drewN q).setCell ⟨g1, x, none⟩ v).heap[X]? = wr.heap[X]?) := fun ob q v => (heap_setCell_other _ ⟨g1, x, none⟩ X _ (by have := (unhide HCi).h2; show X ≠ g1; omega)).trans (Below.heap_alloc _ _ _ hXw)
                        have HT2 : Hid (∀ y, (x :: T').count y = cnt ns k y + ((tg ns k).take (j + 1)).count y) := fun y => by
                          rw [unhide HTk, List.count_append, List.count_cons, unhide hT y, List.count_cons, List.count_nil]; omega
                        obtain ⟨cx, hcx⟩ : ∃ cx, cx = Tr.wr (T'.count x) := ⟨_, rfl⟩
                        rw [← hcx] at l1 HC1
                        clear hcx b3 HEn HOk
                        by_cases b4 : xk = 2
                        · subst b4
                          have l2 := (unhide HCi).l2.cell k hlt
                          have f2 := (unhide HCi).l2.frozen k
                          have hg2w := (unhide HCi).l2.lt
                          have hne : ¬ g2 = g1 := by have := (unhide HCi).h2; omega
                          have hne1 : ¬ b = g1 := by have := (unhide HCi).h0; have := (unhide HCi).h1; omega
                          have hne2 : ¬ b = g2 := by have := (unhide HCi).h0; have := (unhide HCi).h1; have := (unhide HCi).h2; omega
                          have hne3 : ¬ T0 = g1 := by have := (unhide HCi).h1; omega
                          have hne4 : ¬ T0 = g2 := by have := (unhide HCi).h1; have := (unhide HCi).h2; omega
                          have hne5 : ¬ wr.heap.size = g1 := by omega
                          have hne6 : ¬ wr.heap.size = g2 := by omega
                          have HC2 : Hid (∀ ob q, Ck w ((((wr.alloc ob).drewN q).setCell ⟨g1, x, none⟩ (.int .i64 (wrap64 (cx + 1)))).setCell ⟨g2, k, none⟩ (.int .i64 (wrap64 (Tr.wr (D'.count k) + 1)))) T0 g1 g2 n o (x :: T') (k :: D')) := fun ob q => (unhide HC1 ob q).set2 k _ (by rw [← IntWalk.i64_left]; exact wr_succ _)
                          have HX2 : Hid (∀ ob q v v2, ((((wr.alloc ob).drewN q).setCell ⟨g1, x, none⟩ v).setCell ⟨g2, k, none⟩ v2).heap[X]? = wr.heap[X]?) := fun ob q v v2 => (heap_setCell_other _ ⟨g2, k, none⟩ X _ (by show X ≠ g2; omega)).trans (unhide HX1 ob q v)
                          have HD2 : Hid (∀ y, (k :: D').count y = if y < k then dirsIn ns (nd ns y).list else if y = k then dirsIn ns ((nd ns k).list.take (j + 1)) else 0) := fun y => by
                            rw [List.count_cons, unhide hD y, unhide HDk, if_pos rfl]
                            by_cases e : y = k
                            · subst e; simp
                            · have e' : ¬ k = y := fun h => e h.symm
                              simp [e, e']
                          obtain ⟨cd, hcd⟩ : ∃ cd, cd = Tr.wr (D'.count k) := ⟨_, rfl⟩
                          rw [← hcd] at l2 HC2
                          have HB2 : Hid (∀ ob q, Below w.heap.size w ((((wr.alloc ob).drewN q).setCell ⟨g1, x, none⟩ (.int .i64 (wrap64 (cx + 1)))).setCell ⟨g2, k, none⟩ (.int .i64 (wrap64 (cd + 1))))) := fun ob q => (unhide HC2 ob q).below
                          clear hcd HC1 HX1
                          by_cases b5 : xp = (k : Int)
                          · have HE3 : Hid (entR ns k j = true) := by show _ = _; rw [unhide HE2, b5]; simp
                            subst b5
                            clear HE2 HP2 HFa HFe HB2
                            go_wp2
                            have q1 : decide ((x : Int) < 2) = false := by simp; omega
                            have q2 : decide (n ≤ x) = false := by simp; omega
                            have q3 : decide ((n : Int) ≤ (x : Int)) = false := by simp; omega
                            go_quiet ((go_at_call 59; exact Calls.quiet_of_same (unhide HN _)))
                            go_wp2_with fail
                            go_roundw
                            case rel =>
                              refine ⟨j + 1, x :: T', k :: D', by omega, by go_num, fun i hi => ?_, HT2, HD2, unhide HC2 _ _, (unhide HX2 _ _ _ _).trans (unhide HXi)⟩
                              by_cases e : i = j
                              · subst e; exact unhide HE3
                              · exact unhide hej i (by omega)
                            case measure => simp [intOf]; omega
                          · have HE3 : Hid (entR ns k j = false) := by show _ = _; rw [unhide HE2]; simp [b5]
                            have hP := unhide HFe (unhide HE3)
                            subst hP
                            have b5' : (xp == (k : Int)) = false := by simpa using b5
                            clear HE2 HE3 HP2 HFa HFe HOne HC2 b5
                            go_wp2
                            have q1 : decide ((x : Int) < 2) = false := by simp; omega
                            have q2 : decide (n ≤ x) = false := by simp; omega
                            have q3 : decide ((n : Int) ≤ (x : Int)) = false := by simp; omega
                            go_quiet ((go_at_call 59; exact Calls.quiet_of_same (unhide HN _)))
                            go_wp2_with fail
                            go_ret
                            exact ⟨rfl, unhide HB2 _ _⟩
                        · have b4' : ((xk.toNat : Int) == 2) = false := by have := kd_no b4; simpa using this
                          have HE3 : Hid (entR ns k j = true) := by show _ = _; rw [unhide HE2]; simp [b4]
                          rw [if_neg b4, Nat.add_zero] at HDk
                          clear HE2 HP2 HFa HFe b4
                          go_wp2
                          have q1 : decide ((x : Int) < 2) = false := by simp; omega
                          have q2 : decide (n ≤ x) = false := by simp; omega
                          have q3 : decide ((n : Int) ≤ (x : Int)) = false := by simp; omega
                          go_quiet ((go_at_call 59; exact Calls.quiet_of_same (unhide HN _)))
                          go_wp2_with fail
                          go_roundw
                          case rel =>
                            refine ⟨j + 1, x :: T', D', by omega, by go_num, fun i hi => ?_, HT2, fun y => ?_, unhide HC1 _ _, (unhide HX1 _ _ _).trans (unhide HXi)⟩
                            · by_cases e : i = j
                              · subst e; exact unhide HE3
                              · exact unhide hej i (by omega)
                            · rw [unhide HDk]; exact unhide hD y
                          case measure => simp [intOf]; omega
              · have hjl' : ¬ (j : Int) < (ll : Int) := by omega
                have HJ : Hid (j = ll) := by show _ = _; omega
                clear hjl HP2 HFa
                go_wp2
                go_roundw
                case rel =>
                  have hje := unhide HJ
                  have hls : (nd ns k).list = ls := by rw [← unhide HM]
                  have hlen : (tg ns k).length = ll := by unfold tg; rw [List.length_map, hls]; exact unhide HLL
                  refine ⟨k + 1, y + dl, z + ll, T', D', by omega, by omega, by go_num, by go_num, by go_num, hy2, hz2, ?_, ?_, ?_, ?_, HCi⟩
                  · exact ⟨by rw [(unhide hbs).1, (unhide hyz).1], by rw [(unhide hbs).2, (unhide hyz).2]⟩
                  · intro i h1 h2
                    by_cases e : i = k
                    · subst e; rw [unhide HOne]; exact allTo_true.2 fun q hq => unhide hej q (by omega)
                    · exact unhide hall i h1 (by omega)
                  · intro x
                    rw [unhide hT x]
                    unfold cnt
                    rw [sumTo_succ, List.take_of_length_le (by omega)]
                  · intro x
                    rw [unhide hD x]
                    by_cases e : x = k
                    · subst e
                      rw [if_neg (by omega), if_pos rfl, if_pos (by omega), List.take_of_length_le (by rw [hls, unhide HLL]; omega)]
                    · by_cases e2 : x < k
                      · rw [if_pos e2, if_pos (by omega)]
                      · rw [if_neg e2, if_neg e, if_neg (by omega)]
                case measure => simp [intOf]; omega
    · have hke : k = n := by omega
      subst hke
      have hBk := hide (unhide HCk').below
      have HLi : Hid (limitsP ns = (decide (y ≤ 1048576) && decide (z ≤ 2048))) := by
        show _ = _
        unfold limitsP
        rw [unhide HL, (unhide hyz).1, (unhide hyz).2]
      by_cases l1 : y ≤ 1048576
      case neg =>
        obtain rfl : P = false := by rw [unhide HP2, unhide HLi]; simp [l1]
        have l1' : ¬ (y : Int) ≤ 1048576 := by omega
        clear HP2 l1 HLi
        go_wp2
        go_ret
        exact ⟨rfl, unhide hBk⟩
      by_cases l2 : z ≤ 2048
      case neg =>
        obtain rfl : P = false := by rw [unhide HP2, unhide HLi]; simp [l2]
        have l1' : (y : Int) ≤ 1048576 := by omega
        have l2' : ¬ (z : Int) ≤ 2048 := by omega
        clear HP2 l1 l2 HLi
        go_wp2
        go_ret
        exact ⟨rfl, unhide hBk⟩
      have HP3 : Hid (P = allTo (k - 1) (twoS ns)) := by
        show _ = _
        rw [unhide HP2, unhide HLi, show allTo (k - 1) (oneS ns) = true from allTo_true.2 fun q hq => unhide hall (q + 1) (by omega) (by omega)]
        simp [l1, l2]
      have l1' : (y : Int) ≤ 1048576 := by omega
      have l2' : (z : Int) ≤ 2048 := by omega
      have HCT : Hid (∀ x, T.count x ≤ 1000000000 ∧ (T.count x = cnt ns ns.length x)) := fun x => by
        rw [unhide hT x, unhide HL]
        refine ⟨?_, rfl⟩
        have h1 := (unhide HSM).hna
        have h2 := cnt_le ns x
        rw [unhide HL] at h1 h2
        exact Nat.le_trans h2 h1
      have HCD : Hid (∀ x, x < k → D.count x ≤ 1000000000 ∧ D.count x = dirsIn ns (nd ns x).list) := fun x hx => by
        rw [unhide hD x, if_pos hx]
        exact ⟨Nat.le_trans (List.length_filter_le _ _) ((unhide HSM).hls x), rfl⟩
      clear HP2 HLi l1 l2 hall hT hD hyz
      go_wp2_with fail
      go_loopw [12] (fun iv wr => ∃ i : Nat, 1 ≤ i ∧ i ≤ k ∧ iv = .int .i64 i ∧ Hid (∀ j, 1 ≤ j → j < i → twoR ns j = true) ∧ Hid (Ck w wr T0 g1 g2 k o T D)) (fun iv _ => k - (intOf iv).toNat)
      case atStart => exact ⟨1, by omega, by omega, rfl, fun j h1 h2 => by omega, HCk'⟩
      case round =>
        dsimp +zetaDelta only
        as_aux_lemma =>
          clear HCk' hBk
          obtain ⟨i, hi1, hi, rfl, hall, HCk'⟩ := hrel
          by_cases hil : i < k
          · have hil' : (i : Int) < (k : Int) := by omega
            have hbl := (unhide HCk').below
            have hbx := (unhide HCk').box
            rw [unhide HO] at hbx
            have t0 : wr.cell? ⟨T0, 0, none⟩ = some (.slice (some ⟨b, off, none⟩) k cap) := by rw [cell_of_row _ _ _ _ _ _ hbx]; rfl
            have hT0w : T0 < wr.heap.size := (Array.getElem?_eq_some_iff.1 hbx).1
            have hbw : b < wr.heap.size := Nat.lt_of_lt_of_le hb hbl.size
            have hg1w := (unhide HCk').l1.lt
            have hg2w := (unhide HCk').l2.lt
            obtain ⟨da, dc, la, lc, h10, -, -⟩ := (unhide HC i hil).below hb hbl
            have HFb : Hid (twoR ns i = false → P = false) := fun h => by
              rw [unhide HP3]
              exact allTo_false (p := twoS ns) (k := i - 1) (by omega) (by unfold twoS; rw [show i - 1 + 1 = i by omega]; exact h)
            have l1 := (unhide HCk').l1.cell i hil
            have l2 := (unhide HCk').l2.cell i hil
            have ct1 := (unhide HCT i).1
            have cd1 := (unhide HCD i hil).1
            have hs1 : Tr.wr (T.count i) = (T.count i : Int) := wr_small _ (Nat.le_trans ct1 (by decide))
            have hs2 : Tr.wr (D.count i) = (D.count i : Int) := wr_small _ (Nat.le_trans cd1 (by decide))
            have HWc0 := hide hs1
            have HWd0 := hide hs2
            rw [hs1] at l1
            rw [hs2] at l2
            clear hs1 hs2
            have HTw : Hid (twoR ns i = if (nd ns i).kind = 0 then true else if (nd ns i).kind = 2 then decide ((nd ns i).links = 2 + (D.count i : Int)) && (decide (i ≤ 1) || decide (T.count i = 1)) && decide (0 ≤ upG ns 33 (i : Int) 0) else decide (1 ≤ T.count i) && decide ((nd ns i).links = (T.count i : Int))) := by
              show _ = _
              unfold twoR
              rw [(unhide HCT i).2, (unhide HCD i hil).2]
            have HU1 := hide (fun V hV => unhide HUP V i hV)
            have hnext : Hid (twoR ns i = true → ∀ j, 1 ≤ j → j < i + 1 → twoR ns j = true) := fun h j h1 h2 => by
              by_cases e : j = i
              · subst e; exact h
              · exact unhide hall j h1 (by omega)
            obtain ⟨m, hm⟩ : ∃ m, m = nd ns i := ⟨_, rfl⟩
            rw [← hm] at h10 HTw
            obtain ⟨ct, hct⟩ : ∃ c, c = T.count i := ⟨_, rfl⟩
            obtain ⟨cd, hcd⟩ : ∃ c, c = D.count i := ⟨_, rfl⟩
            obtain ⟨U, hU⟩ : ∃ U, U = upG ns 33 (i : Int) 0 := ⟨_, rfl⟩
            rw [← hct] at l1 HTw ct1
            rw [← hcd] at l2 HTw cd1
            rw [← hU] at HTw HU1
            obtain ⟨dl, hdl⟩ : ∃ dl, dl = m.data.length := ⟨_, rfl⟩
            obtain ⟨ll, hll⟩ : ∃ ll, ll = m.list.length := ⟨_, rfl⟩
            rw [← hdl, ← hll] at h10
            have c0 := h10.c0
            have c1 := h10.c1
            have c2 := h10.c2
            have c3 := h10.c3
            have c4 := h10.c4
            have c5 := h10.c5
            have c6 := h10.c6
            have c7 := h10.c7
            have c8 := h10.c8
            have c9 := h10.c9
            have hCo : Hid (∀ ob, Ck w (wr.alloc ob) T0 g1 g2 k o T D) := fun ob => (unhide HCk').step ((Below.refl _ wr).alloc (Nat.le_refl _) ob)
            have hBa : Hid (∀ ob, Below w.heap.size w (wr.alloc ob)) := fun ob => (unhide hCo ob).below
            have HWc : Hid (Tr.wr (T.count i) = (ct : Int)) := by rw [hct]; exact unhide HWc0
            have HWd : Hid (Tr.wr (D.count i) = (cd : Int)) := by rw [hcd]; exact unhide HWd0
            clear HWc0 HWd0
            clear h10 hdl hll hm hct hcd hU hbl hbx hall HP3
            obtain ⟨kd, md, us, gr, lk, ti, dt, tgt, ls, pa⟩ := m
            simp only at c0 c1 c2 c3 c4 c5 c6 c7 c8 c9 HTw
            by_cases b0 : kd = 0
            · subst b0
              have HT1 := hide (unhide hnext ((unhide HTw).trans (if_pos rfl)))
              clear HTw HFb hnext
              go_wp2
              go_roundw
              case rel => exact ⟨i + 1, by omega, by omega, by go_num, HT1, unhide hCo _⟩
              case measure => simp [intOf]; omega
            rw [if_neg b0] at HTw
            have b0' : ((kd.toNat : Int) == 0) = false := by have := kd_no b0; simpa using this
            clear b0
            by_cases b2 : kd = 2
            case neg =>
              rw [if_neg b2] at HTw
              have b2' : ((kd.toNat : Int) == 2) = false := by have := kd_no b2; simpa using this
              have b2'' : ((kd.toNat : Int) != 2) = true := by have := kd_no b2; simpa using this
              clear b2
              by_cases b3 : 1 ≤ ct
              case neg =>
                have hP := unhide HFb (by rw [unhide HTw]; simp [b3])
                subst hP
                clear HTw HFb hnext
                go_wp2
                have q1 : decide ((ct : Int) < 1) = true := by simp; omega
                go_quiet (fail)
                go_wp2
                go_ret
                exact ⟨rfl, below_drewN (unhide hBa _) _⟩
              by_cases b4 : lk = (ct : Int)
              case neg =>
                have hP := unhide HFb (by rw [unhide HTw]; simp [b4])
                subst hP
                have q2 : (lk != (ct : Int)) = true := by simpa using b4
                clear HTw HFb hnext b4
                go_wp2
                have q1 : decide ((ct : Int) < 1) = false := by simp; omega
                go_quiet (fail)
                go_wp2
                go_ret
                exact ⟨rfl, below_drewN (unhide hBa _) _⟩
              have HT1 := hide (unhide hnext (by rw [unhide HTw]; simp [b3, b4]))
              subst b4
              clear HTw HFb hnext
              go_wp2
              have q1 : decide ((ct : Int) < 1) = false := by simp; omega
              go_quiet (fail)
              go_wp2
              go_roundw
              case rel => exact ⟨i + 1, by omega, by omega, by go_num, HT1, (unhide hCo _).drew⟩
              case measure => simp [intOf]; omega
            rw [if_pos b2] at HTw
            subst b2
            have hEw : IntKind.i64.wrap (2 + (cd : Int)) = 2 + (cd : Int) := wrap_small _ (by omega) (by omega)
            have hEx : wrap64 (2 + (cd : Int)) = 2 + (cd : Int) := by rw [← IntWalk.i64_left]; exact hEw
            by_cases b3 : lk = 2 + (cd : Int)
            case neg =>
              have hP := unhide HFb (by rw [unhide HTw]; simp [b3])
              subst hP
              clear HTw HFb hnext
              go_wp2
              have q2 : (lk != 2 + (cd : Int)) = true := by simpa using b3
              clear b3
              go_quiet (fail)
              go_wp2
              go_ret
              exact ⟨rfl, below_drewN (unhide hBa _) _⟩
            have hd3 : decide (lk = 2 + (cd : Int)) = true := decide_eq_true b3
            rw [hd3, Bool.true_and] at HTw
            clear hd3
            obtain ⟨ob, hob⟩ : ∃ ob : Obj, ob = .cells #[.int .u8 2, .int .i64 md, .int .i64 us, .int .i64 gr, .int .i64 lk, .int .i64 ti, .slice da dl dc, .string tgt, .slice la ll lc, .int .i64 pa] 48 := ⟨_, rfl⟩
            have HXd : Hid ((wr.alloc ob).drew.heap[wr.heap.size]? = some ob) := heap_alloc_new wr ob
            have HCd : Hid (Ck w (wr.alloc ob).drew T0 g1 g2 k o T D) := (unhide hCo ob).drew1
            obtain ⟨XX, hXX⟩ : ∃ XX, XX = wr.heap.size := ⟨_, rfl⟩
            rw [← hXX] at HXd
            have HS5 : Hid (∀ V : World, Ck w V T0 g1 g2 k o T D → V.heap[XX]? = some ob → V.cell? ⟨T0, 0, none⟩ = some (.slice (some ⟨b, off, none⟩) k cap) ∧ V.cell? ⟨T0, 1, none⟩ = some (.int .i64 now) ∧ V.cell? ⟨XX, 4, none⟩ = some (.int .i64 lk) ∧ V.cell? ⟨g1, i, none⟩ = some (.int .i64 ct) ∧ V.cell? ⟨g2, i, none⟩ = some (.int .i64 cd)) := fun V hV hX => by
              have hbx := hV.box
              rw [unhide HO] at hbx
              rw [hob] at hX
              refine ⟨by rw [cell_of_row _ _ _ _ _ _ hbx]; rfl, by rw [cell_of_row _ _ _ _ _ _ hbx]; rfl, by rw [cell_of_row _ _ _ _ _ _ hX]; rfl, ?_, ?_⟩
              · rw [hV.l1.cell i hil, unhide HWc]
              · rw [hV.l2.cell i hil, unhide HWd]
            have HU2 := hide (unhide HU1 _ (unhide HCd).below)
            by_cases b4 : i ≤ 1
            · subst b3
              by_cases b6 : 0 ≤ U
              case neg =>
                have hP := unhide HFb (by rw [unhide HTw]; simp [b6])
                subst hP
                have hS1 := unhide HS5 _ (unhide HCd) (unhide HXd)
                clear HTw HFb hnext
                go_wp2_with fail
                rw [← hob, ← hXX]
                clear hob hXX
                have q3 : decide (1 < i) = false := by simp; omega
                have q5 : decide ((1 : Int) < (i : Int)) = false := by simp; omega
                have q6 : decide (U < 0) = true := by simp; omega
                refine wp_region_held_drew (S := (fun w' => w'.cell? ⟨T0, 0, none⟩ = some (.slice (some ⟨b, off, none⟩) k cap) ∧ w'.cell? ⟨T0, 1, none⟩ = some (.int .i64 now) ∧ w'.cell? ⟨XX, 4, none⟩ = some (.int .i64 (2 + (cd : Int))) ∧ w'.cell? ⟨g1, i, none⟩ = some (.int .i64 ct) ∧ w'.cell? ⟨g2, i, none⟩ = some (.int .i64 cd))) (by kernel_rfl) hS1 (fun hHeld => ?_)
                refine wpAnyH_take (i := 0) (oi := _) (v := ?v1) rfl (by kernel_rfl) (by kernel_rfl) (by kernel_rfl) (fun _ _ _ h => h) (Or.inl ⟨by rfl, ?hy1⟩) (by assumption) ?rest1
                case hy1 => (intro w hSw; (try dsimp only at hSw); go_simp; try with_reducible rfl)
                simp only [Act.put, List.getElem_toArray, List.getElem_cons_zero, List.setIfInBounds_toArray, List.set_cons_zero, List.set_cons_succ]
                refine wpAnyH_take (i := 1) (oi := _) (v := ?v2) rfl (by kernel_rfl) (by kernel_rfl) (by kernel_rfl) (fun _ _ _ h => h) (Or.inl ⟨by rfl, ?hy2⟩) (by assumption) ?rest2
                case hy2 => (intro w hSw; (try dsimp only at hSw); go_simp; try with_reducible rfl)
                simp only [Act.put, List.getElem_toArray, List.getElem_cons_zero, List.getElem_cons_succ, List.setIfInBounds_toArray, List.set_cons_zero, List.set_cons_succ]
                refine wpAnyH_take (i := 2) (oi := _) (v := ?v3) rfl (by kernel_rfl) (by kernel_rfl) (by kernel_rfl) (fun _ _ _ h => h) (Or.inl ⟨by rfl, ?hy3⟩) (by assumption) ?rest3
                case hy3 => (intro w hSw; (try dsimp only at hSw); go_simp; try with_reducible rfl)
                simp only [Act.put, List.getElem_toArray, List.getElem_cons_zero, List.getElem_cons_succ, List.setIfInBounds_toArray, List.set_cons_zero, List.set_cons_succ]
                refine wpAnyH_take (i := 3) (oi := _) (v := ?v4) rfl (by kernel_rfl) (by kernel_rfl) (by kernel_rfl) (fun _ _ _ h => h) (Or.inl ⟨by rfl, ?hy4⟩) (by assumption) ?rest4
                case hy4 => (intro w hSw; (try dsimp only at hSw); go_simp; try with_reducible rfl)
                simp only [Act.put, List.getElem_toArray, List.getElem_cons_zero, List.getElem_cons_succ, List.setIfInBounds_toArray, List.set_cons_zero, List.set_cons_succ]
                refine wpAnyH_take (i := 4) (oi := _) (v := ?v5) rfl (by kernel_rfl) (by kernel_rfl) (by kernel_rfl) (fun _ _ _ h => h) (Or.inl ⟨by rfl, ?hy5⟩) (by assumption) ?rest5
                case hy5 => (intro w hSw; (try dsimp only at hSw); go_simp; try with_reducible rfl)
                simp only [Act.put, List.getElem_toArray, List.getElem_cons_zero, List.getElem_cons_succ, List.setIfInBounds_toArray, List.set_cons_zero, List.set_cons_succ]
                refine wpAnyH_take (i := 5) (oi := _) (v := ?v6) rfl (by kernel_rfl) (by kernel_rfl) (by kernel_rfl) (fun _ _ _ h => h) (Or.inl ⟨by rfl, ?hy6⟩) (by assumption) ?rest6
                case hy6 => (intro w hSw; (try dsimp only at hSw); go_simp; try with_reducible rfl)
                simp only [Act.put, List.getElem_toArray, List.getElem_cons_zero, List.getElem_cons_succ, List.setIfInBounds_toArray, List.set_cons_zero, List.set_cons_succ]
                refine wpAnyH_take (i := 6) (oi := _) (v := ?v7) rfl (by kernel_rfl) (by kernel_rfl) (by kernel_rfl) (fun _ _ _ h => h) (Or.inl ⟨by rfl, ?hy7⟩) (by assumption) ?rest7
                case hy7 => (intro w hSw; (try dsimp only at hSw); go_simp; try with_reducible rfl)
                simp only [Act.put, List.getElem_toArray, List.getElem_cons_zero, List.getElem_cons_succ, List.setIfInBounds_toArray, List.set_cons_zero, List.set_cons_succ]
                refine wpAnyH_take (i := 7) (oi := _) (v := ?v8) rfl (by kernel_rfl) (by kernel_rfl) (by kernel_rfl) (fun _ _ _ h => h) (Or.inl ⟨by rfl, ?hy8⟩) (by assumption) ?rest8
                case hy8 => (intro w hSw; (try dsimp only at hSw); go_simp; try with_reducible rfl)
                simp only [Act.put, List.getElem_toArray, List.getElem_cons_zero, List.getElem_cons_succ, List.setIfInBounds_toArray, List.set_cons_zero, List.set_cons_succ]
                refine wpAnyH_take (i := 8) (oi := _) (v := ?v9) rfl (by kernel_rfl) (by kernel_rfl) (by kernel_rfl) (fun _ _ _ h => h) (Or.inl ⟨by rfl, ?hy9⟩) (by assumption) ?rest9
                case hy9 => (intro w hSw; (try dsimp only at hSw); go_simp; try with_reducible rfl)
                simp only [Act.put, List.getElem_toArray, List.getElem_cons_zero, List.getElem_cons_succ, List.setIfInBounds_toArray, List.set_cons_zero, List.set_cons_succ]
                refine wpAnyH_take (i := 9) (oi := _) (v := ?v10) rfl (by kernel_rfl) (by kernel_rfl) (by kernel_rfl) (fun _ _ _ h => h) (Or.inl ⟨by rfl, ?hy10⟩) (by assumption) ?rest10
                case hy10 => (intro w hSw; (try dsimp only at hSw); go_simp; try with_reducible rfl)
                simp only [Act.put, List.getElem_toArray, List.getElem_cons_zero, List.getElem_cons_succ, List.setIfInBounds_toArray, List.set_cons_zero, List.set_cons_succ]
                refine wpAnyH_take (i := 10) (oi := _) (v := ?v11) rfl (by kernel_rfl) (by kernel_rfl) (by kernel_rfl) (fun _ _ _ h => h) (Or.inl ⟨by rfl, ?hy11⟩) (by assumption) ?rest11
                case hy11 => (intro w hSw; (try dsimp only at hSw); go_simp; try with_reducible rfl)
                simp only [Act.put, List.getElem_toArray, List.getElem_cons_zero, List.getElem_cons_succ, List.setIfInBounds_toArray, List.set_cons_zero, List.set_cons_succ]
                refine wpAnyH_take (i := 11) (oi := _) (v := ?v12) rfl (by kernel_rfl) (by kernel_rfl) (by kernel_rfl) (fun _ _ _ h => h) (Or.inl ⟨by rfl, ?hy12⟩) (by assumption) ?rest12
                case hy12 => (intro w hSw; (try dsimp only at hSw); go_simp; try with_reducible rfl)
                simp only [Act.put, List.getElem_toArray, List.getElem_cons_zero, List.getElem_cons_succ, List.setIfInBounds_toArray, List.set_cons_zero, List.set_cons_succ]
                refine wpAnyH_take (i := 12) (oi := _) (v := undef) rfl (by kernel_rfl) (by kernel_rfl) (by kernel_rfl) (fun _ _ _ h => h) (Or.inr ⟨by rfl, rfl⟩) (by assumption) ?_
                simp only [Act.put, List.getElem_toArray, List.getElem_cons_zero, List.getElem_cons_succ, List.setIfInBounds_toArray, List.set_cons_zero, List.set_cons_succ]
                refine wpAnyH_take (i := 13) (oi := _) (v := undef) rfl (by kernel_rfl) (by kernel_rfl) (by kernel_rfl) (fun _ _ _ h => h) (Or.inr ⟨by rfl, rfl⟩) (by assumption) ?_
                simp only [Act.put, List.getElem_toArray, List.getElem_cons_zero, List.getElem_cons_succ, List.setIfInBounds_toArray, List.set_cons_zero, List.set_cons_succ]
                refine wpAnyH_take (i := 14) (oi := _) (v := undef) rfl (by kernel_rfl) (by kernel_rfl) (by kernel_rfl) (fun _ _ _ h => h) (Or.inr ⟨by rfl, rfl⟩) (by assumption) ?_
                simp only [Act.put, List.getElem_toArray, List.getElem_cons_zero, List.getElem_cons_succ, List.setIfInBounds_toArray, List.set_cons_zero, List.set_cons_succ]
                refine wpAnyH_take (i := 15) (oi := _) (v := undef) rfl (by kernel_rfl) (by kernel_rfl) (by kernel_rfl) (fun _ _ _ h => h) (Or.inr ⟨by rfl, rfl⟩) (by assumption) ?_
                simp only [Act.put, List.getElem_toArray, List.getElem_cons_zero, List.getElem_cons_succ, List.setIfInBounds_toArray, List.set_cons_zero, List.set_cons_succ]
                refine wpAnyH_take (i := 16) (oi := _) (v := undef) rfl (by kernel_rfl) (by kernel_rfl) (by kernel_rfl) (fun _ _ _ h => h) (Or.inr ⟨by rfl, rfl⟩) (by assumption) ?_
                simp only [Act.put, List.getElem_toArray, List.getElem_cons_zero, List.getElem_cons_succ, List.setIfInBounds_toArray, List.set_cons_zero, List.set_cons_succ]
                refine wpAnyH_take (i := 17) (oi := _) (v := ?v18) rfl (by kernel_rfl) (by kernel_rfl) (by kernel_rfl) (fun _ _ _ h => h) (Or.inl ⟨by rfl, ?hy18⟩) (by assumption) ?rest18
                case hy18 => (intro w hSw; (try dsimp only at hSw); go_simp; try with_reducible rfl)
                simp only [Act.put, List.getElem_toArray, List.getElem_cons_zero, List.getElem_cons_succ, List.setIfInBounds_toArray, List.set_cons_zero, List.set_cons_succ]
                refine wpAnyH_take (i := 18) (oi := _) (v := ?v19) rfl (by kernel_rfl) (by kernel_rfl) (by kernel_rfl) (fun _ _ _ h => h) (Or.inl ⟨by rfl, ?hy19⟩) (by assumption) ?rest19
                case hy19 => (intro w hSw; (try dsimp only at hSw); go_simp; try with_reducible rfl)
                simp only [Act.put, List.getElem_toArray, List.getElem_cons_zero, List.getElem_cons_succ, List.setIfInBounds_toArray, List.set_cons_zero, List.set_cons_succ]
                refine wpAnyH_take (i := 19) (oi := _) (v := ?v20) rfl (by kernel_rfl) (by kernel_rfl) (by kernel_rfl) (fun _ _ _ h => h) (Or.inl ⟨by rfl, ?hy20⟩) (by assumption) ?rest20
                case hy20 => (intro w hSw; (try dsimp only at hSw); go_simp; try with_reducible rfl)
                simp only [Act.put, List.getElem_toArray, List.getElem_cons_zero, List.getElem_cons_succ, List.setIfInBounds_toArray, List.set_cons_zero, List.set_cons_succ]
                refine wpAnyH_take (i := 20) (oi := _) (v := ?v21) rfl (by kernel_rfl) (by kernel_rfl) (by kernel_rfl) (fun _ _ _ h => h) (Or.inl ⟨by rfl, ?hy21⟩) (by assumption) ?rest21
                case hy21 => (intro w hSw; (try dsimp only at hSw); go_simp; try with_reducible rfl)
                simp only [Act.put, List.getElem_toArray, List.getElem_cons_zero, List.getElem_cons_succ, List.setIfInBounds_toArray, List.set_cons_zero, List.set_cons_succ]
                refine wpAnyH_take (i := 21) (oi := _) (v := ?v22) rfl (by kernel_rfl) (by kernel_rfl) (by kernel_rfl) (fun _ _ _ h => h) (Or.inl ⟨by rfl, ?hy22⟩) (by assumption) ?rest22
                case hy22 => (intro w hSw; (try dsimp only at hSw); go_simp; try with_reducible rfl)
                simp only [Act.put, List.getElem_toArray, List.getElem_cons_zero, List.getElem_cons_succ, List.setIfInBounds_toArray, List.set_cons_zero, List.set_cons_succ]
                refine wpAnyH_ready (rs := [22]) (by kernel_rfl) (by simp) ?_
                refine AllReadyH.cons (o := _) rfl (fun K hK => ?_) AllReadyH.nil
                go_simp
                with_reducible refine (unhide HU2).mono ?_
                rintro e w2 ⟨rfl, hb2⟩
                have HCe := hide ((unhide HCd).step hb2)
                have hS2 := unhide HS5 _ (unhide HCe) ((hb2.block _ (Array.getElem?_eq_some_iff.1 (unhide HXd)).1).trans (unhide HXd))
                clear hb2
                go_wp2_with fail
                refine hK.out _ _ (by first | assumption | (dsimp only; assumption)) (fun hHeld2 => ?_)
                clear hK K
                try simp only [Act.put, List.getElem_toArray, List.getElem_cons_zero, List.getElem_cons_succ, List.setIfInBounds_toArray, List.set_cons_zero, List.set_cons_succ]
                refine wpAnyH_take (i := 23) (oi := _) (v := ?v24) rfl (by kernel_rfl) (by kernel_rfl) (by kernel_rfl) (fun _ _ _ h => h) (Or.inl ⟨by rfl, ?hy24⟩) (by assumption) ?rest24
                case hy24 => (intro w hSw; (try dsimp only at hSw); go_simp; try with_reducible rfl)
                simp only [Act.put, List.getElem_toArray, List.getElem_cons_zero, List.getElem_cons_succ, List.setIfInBounds_toArray, List.set_cons_zero, List.set_cons_succ]
                refine wpAnyH_take (i := 24) (oi := _) (v := ?v25) rfl (by kernel_rfl) (by kernel_rfl) (by kernel_rfl) (fun _ _ _ h => h) (Or.inl ⟨by rfl, ?hy25⟩) (by assumption) ?rest25
                case hy25 => (intro w hSw; (try dsimp only at hSw); go_simp; try with_reducible rfl)
                simp only [Act.put, List.getElem_toArray, List.getElem_cons_zero, List.getElem_cons_succ, List.setIfInBounds_toArray, List.set_cons_zero, List.set_cons_succ]
                refine wpAnyH_done (by kernel_rfl) ?_ _
                have HBe := hide (unhide HCe).below
                clear hS1 hS2 HCd HXd HS5 HU2
                go_wp2
                go_ret
                exact ⟨rfl, unhide HBe⟩
              have HT1 := hide (unhide hnext (by rw [unhide HTw]; simp [b4, b6]))
              have hS1 := unhide HS5 _ (unhide HCd) (unhide HXd)
              clear HTw HFb hnext
              go_wp2_with fail
              rw [← hob, ← hXX]
              clear hob hXX
              have q3 : decide (1 < i) = false := by simp; omega
              have q5 : decide ((1 : Int) < (i : Int)) = false := by simp; omega
              have q6 : decide (U < 0) = false := by simp; omega
              refine wp_region_held_drew (S := (fun w' => w'.cell? ⟨T0, 0, none⟩ = some (.slice (some ⟨b, off, none⟩) k cap) ∧ w'.cell? ⟨T0, 1, none⟩ = some (.int .i64 now) ∧ w'.cell? ⟨XX, 4, none⟩ = some (.int .i64 (2 + (cd : Int))) ∧ w'.cell? ⟨g1, i, none⟩ = some (.int .i64 ct) ∧ w'.cell? ⟨g2, i, none⟩ = some (.int .i64 cd))) (by kernel_rfl) hS1 (fun hHeld => ?_)
              refine wpAnyH_take (i := 0) (oi := _) (v := ?v26) rfl (by kernel_rfl) (by kernel_rfl) (by kernel_rfl) (fun _ _ _ h => h) (Or.inl ⟨by rfl, ?hy26⟩) (by assumption) ?rest26
              case hy26 => (intro w hSw; (try dsimp only at hSw); go_simp; try with_reducible rfl)
              simp only [Act.put, List.getElem_toArray, List.getElem_cons_zero, List.setIfInBounds_toArray, List.set_cons_zero, List.set_cons_succ]
              refine wpAnyH_take (i := 1) (oi := _) (v := ?v27) rfl (by kernel_rfl) (by kernel_rfl) (by kernel_rfl) (fun _ _ _ h => h) (Or.inl ⟨by rfl, ?hy27⟩) (by assumption) ?rest27
              case hy27 => (intro w hSw; (try dsimp only at hSw); go_simp; try with_reducible rfl)
              simp only [Act.put, List.getElem_toArray, List.getElem_cons_zero, List.getElem_cons_succ, List.setIfInBounds_toArray, List.set_cons_zero, List.set_cons_succ]
              refine wpAnyH_take (i := 2) (oi := _) (v := ?v28) rfl (by kernel_rfl) (by kernel_rfl) (by kernel_rfl) (fun _ _ _ h => h) (Or.inl ⟨by rfl, ?hy28⟩) (by assumption) ?rest28
              case hy28 => (intro w hSw; (try dsimp only at hSw); go_simp; try with_reducible rfl)
              simp only [Act.put, List.getElem_toArray, List.getElem_cons_zero, List.getElem_cons_succ, List.setIfInBounds_toArray, List.set_cons_zero, List.set_cons_succ]
              refine wpAnyH_take (i := 3) (oi := _) (v := ?v29) rfl (by kernel_rfl) (by kernel_rfl) (by kernel_rfl) (fun _ _ _ h => h) (Or.inl ⟨by rfl, ?hy29⟩) (by assumption) ?rest29
              case hy29 => (intro w hSw; (try dsimp only at hSw); go_simp; try with_reducible rfl)
              simp only [Act.put, List.getElem_toArray, List.getElem_cons_zero, List.getElem_cons_succ, List.setIfInBounds_toArray, List.set_cons_zero, List.set_cons_succ]
              refine wpAnyH_take (i := 4) (oi := _) (v := ?v30) rfl (by kernel_rfl) (by kernel_rfl) (by kernel_rfl) (fun _ _ _ h => h) (Or.inl ⟨by rfl, ?hy30⟩) (by assumption) ?rest30
              case hy30 => (intro w hSw; (try dsimp only at hSw); go_simp; try with_reducible rfl)
              simp only [Act.put, List.getElem_toArray, List.getElem_cons_zero, List.getElem_cons_succ, List.setIfInBounds_toArray, List.set_cons_zero, List.set_cons_succ]
              refine wpAnyH_take (i := 5) (oi := _) (v := ?v31) rfl (by kernel_rfl) (by kernel_rfl) (by kernel_rfl) (fun _ _ _ h => h) (Or.inl ⟨by rfl, ?hy31⟩) (by assumption) ?rest31
              case hy31 => (intro w hSw; (try dsimp only at hSw); go_simp; try with_reducible rfl)
              simp only [Act.put, List.getElem_toArray, List.getElem_cons_zero, List.getElem_cons_succ, List.setIfInBounds_toArray, List.set_cons_zero, List.set_cons_succ]
              refine wpAnyH_take (i := 6) (oi := _) (v := ?v32) rfl (by kernel_rfl) (by kernel_rfl) (by kernel_rfl) (fun _ _ _ h => h) (Or.inl ⟨by rfl, ?hy32⟩) (by assumption) ?rest32
              case hy32 => (intro w hSw; (try dsimp only at hSw); go_simp; try with_reducible rfl)
              simp only [Act.put, List.getElem_toArray, List.getElem_cons_zero, List.getElem_cons_succ, List.setIfInBounds_toArray, List.set_cons_zero, List.set_cons_succ]
              refine wpAnyH_take (i := 7) (oi := _) (v := ?v33) rfl (by kernel_rfl) (by kernel_rfl) (by kernel_rfl) (fun _ _ _ h => h) (Or.inl ⟨by rfl, ?hy33⟩) (by assumption) ?rest33
              case hy33 => (intro w hSw; (try dsimp only at hSw); go_simp; try with_reducible rfl)
              simp only [Act.put, List.getElem_toArray, List.getElem_cons_zero, List.getElem_cons_succ, List.setIfInBounds_toArray, List.set_cons_zero, List.set_cons_succ]
              refine wpAnyH_take (i := 8) (oi := _) (v := ?v34) rfl (by kernel_rfl) (by kernel_rfl) (by kernel_rfl) (fun _ _ _ h => h) (Or.inl ⟨by rfl, ?hy34⟩) (by assumption) ?rest34
              case hy34 => (intro w hSw; (try dsimp only at hSw); go_simp; try with_reducible rfl)
              simp only [Act.put, List.getElem_toArray, List.getElem_cons_zero, List.getElem_cons_succ, List.setIfInBounds_toArray, List.set_cons_zero, List.set_cons_succ]
              refine wpAnyH_take (i := 9) (oi := _) (v := ?v35) rfl (by kernel_rfl) (by kernel_rfl) (by kernel_rfl) (fun _ _ _ h => h) (Or.inl ⟨by rfl, ?hy35⟩) (by assumption) ?rest35
              case hy35 => (intro w hSw; (try dsimp only at hSw); go_simp; try with_reducible rfl)
              simp only [Act.put, List.getElem_toArray, List.getElem_cons_zero, List.getElem_cons_succ, List.setIfInBounds_toArray, List.set_cons_zero, List.set_cons_succ]
              refine wpAnyH_take (i := 10) (oi := _) (v := ?v36) rfl (by kernel_rfl) (by kernel_rfl) (by kernel_rfl) (fun _ _ _ h => h) (Or.inl ⟨by rfl, ?hy36⟩) (by assumption) ?rest36
              case hy36 => (intro w hSw; (try dsimp only at hSw); go_simp; try with_reducible rfl)
              simp only [Act.put, List.getElem_toArray, List.getElem_cons_zero, List.getElem_cons_succ, List.setIfInBounds_toArray, List.set_cons_zero, List.set_cons_succ]
              refine wpAnyH_take (i := 11) (oi := _) (v := ?v37) rfl (by kernel_rfl) (by kernel_rfl) (by kernel_rfl) (fun _ _ _ h => h) (Or.inl ⟨by rfl, ?hy37⟩) (by assumption) ?rest37
              case hy37 => (intro w hSw; (try dsimp only at hSw); go_simp; try with_reducible rfl)
              simp only [Act.put, List.getElem_toArray, List.getElem_cons_zero, List.getElem_cons_succ, List.setIfInBounds_toArray, List.set_cons_zero, List.set_cons_succ]
              refine wpAnyH_take (i := 12) (oi := _) (v := undef) rfl (by kernel_rfl) (by kernel_rfl) (by kernel_rfl) (fun _ _ _ h => h) (Or.inr ⟨by rfl, rfl⟩) (by assumption) ?_
              simp only [Act.put, List.getElem_toArray, List.getElem_cons_zero, List.getElem_cons_succ, List.setIfInBounds_toArray, List.set_cons_zero, List.set_cons_succ]
              refine wpAnyH_take (i := 13) (oi := _) (v := undef) rfl (by kernel_rfl) (by kernel_rfl) (by kernel_rfl) (fun _ _ _ h => h) (Or.inr ⟨by rfl, rfl⟩) (by assumption) ?_
              simp only [Act.put, List.getElem_toArray, List.getElem_cons_zero, List.getElem_cons_succ, List.setIfInBounds_toArray, List.set_cons_zero, List.set_cons_succ]
              refine wpAnyH_take (i := 14) (oi := _) (v := undef) rfl (by kernel_rfl) (by kernel_rfl) (by kernel_rfl) (fun _ _ _ h => h) (Or.inr ⟨by rfl, rfl⟩) (by assumption) ?_
              simp only [Act.put, List.getElem_toArray, List.getElem_cons_zero, List.getElem_cons_succ, List.setIfInBounds_toArray, List.set_cons_zero, List.set_cons_succ]
              refine wpAnyH_take (i := 15) (oi := _) (v := undef) rfl (by kernel_rfl) (by kernel_rfl) (by kernel_rfl) (fun _ _ _ h => h) (Or.inr ⟨by rfl, rfl⟩) (by assumption) ?_
              simp only [Act.put, List.getElem_toArray, List.getElem_cons_zero, List.getElem_cons_succ, List.setIfInBounds_toArray, List.set_cons_zero, List.set_cons_succ]
              refine wpAnyH_take (i := 16) (oi := _) (v := undef) rfl (by kernel_rfl) (by kernel_rfl) (by kernel_rfl) (fun _ _ _ h => h) (Or.inr ⟨by rfl, rfl⟩) (by assumption) ?_
              simp only [Act.put, List.getElem_toArray, List.getElem_cons_zero, List.getElem_cons_succ, List.setIfInBounds_toArray, List.set_cons_zero, List.set_cons_succ]
              refine wpAnyH_take (i := 17) (oi := _) (v := ?v43) rfl (by kernel_rfl) (by kernel_rfl) (by kernel_rfl) (fun _ _ _ h => h) (Or.inl ⟨by rfl, ?hy43⟩) (by assumption) ?rest43
              case hy43 => (intro w hSw; (try dsimp only at hSw); go_simp; try with_reducible rfl)
              simp only [Act.put, List.getElem_toArray, List.getElem_cons_zero, List.getElem_cons_succ, List.setIfInBounds_toArray, List.set_cons_zero, List.set_cons_succ]
              refine wpAnyH_take (i := 18) (oi := _) (v := ?v44) rfl (by kernel_rfl) (by kernel_rfl) (by kernel_rfl) (fun _ _ _ h => h) (Or.inl ⟨by rfl, ?hy44⟩) (by assumption) ?rest44
              case hy44 => (intro w hSw; (try dsimp only at hSw); go_simp; try with_reducible rfl)
              simp only [Act.put, List.getElem_toArray, List.getElem_cons_zero, List.getElem_cons_succ, List.setIfInBounds_toArray, List.set_cons_zero, List.set_cons_succ]
              refine wpAnyH_take (i := 19) (oi := _) (v := ?v45) rfl (by kernel_rfl) (by kernel_rfl) (by kernel_rfl) (fun _ _ _ h => h) (Or.inl ⟨by rfl, ?hy45⟩) (by assumption) ?rest45
              case hy45 => (intro w hSw; (try dsimp only at hSw); go_simp; try with_reducible rfl)
              simp only [Act.put, List.getElem_toArray, List.getElem_cons_zero, List.getElem_cons_succ, List.setIfInBounds_toArray, List.set_cons_zero, List.set_cons_succ]
              refine wpAnyH_take (i := 20) (oi := _) (v := ?v46) rfl (by kernel_rfl) (by kernel_rfl) (by kernel_rfl) (fun _ _ _ h => h) (Or.inl ⟨by rfl, ?hy46⟩) (by assumption) ?rest46
              case hy46 => (intro w hSw; (try dsimp only at hSw); go_simp; try with_reducible rfl)
              simp only [Act.put, List.getElem_toArray, List.getElem_cons_zero, List.getElem_cons_succ, List.setIfInBounds_toArray, List.set_cons_zero, List.set_cons_succ]
              refine wpAnyH_take (i := 21) (oi := _) (v := ?v47) rfl (by kernel_rfl) (by kernel_rfl) (by kernel_rfl) (fun _ _ _ h => h) (Or.inl ⟨by rfl, ?hy47⟩) (by assumption) ?rest47
              case hy47 => (intro w hSw; (try dsimp only at hSw); go_simp; try with_reducible rfl)
              simp only [Act.put, List.getElem_toArray, List.getElem_cons_zero, List.getElem_cons_succ, List.setIfInBounds_toArray, List.set_cons_zero, List.set_cons_succ]
              refine wpAnyH_ready (rs := [22]) (by kernel_rfl) (by simp) ?_
              refine AllReadyH.cons (o := _) rfl (fun K hK => ?_) AllReadyH.nil
              go_simp
              with_reducible refine (unhide HU2).mono ?_
              rintro e w2 ⟨rfl, hb2⟩
              have HCe := hide ((unhide HCd).step hb2)
              have hS2 := unhide HS5 _ (unhide HCe) ((hb2.block _ (Array.getElem?_eq_some_iff.1 (unhide HXd)).1).trans (unhide HXd))
              clear hb2
              go_wp2_with fail
              refine hK.out _ _ (by first | assumption | (dsimp only; assumption)) (fun hHeld2 => ?_)
              clear hK K
              try simp only [Act.put, List.getElem_toArray, List.getElem_cons_zero, List.getElem_cons_succ, List.setIfInBounds_toArray, List.set_cons_zero, List.set_cons_succ]
              refine wpAnyH_take (i := 23) (oi := _) (v := ?v49) rfl (by kernel_rfl) (by kernel_rfl) (by kernel_rfl) (fun _ _ _ h => h) (Or.inl ⟨by rfl, ?hy49⟩) (by assumption) ?rest49
              case hy49 => (intro w hSw; (try dsimp only at hSw); go_simp; try with_reducible rfl)
              simp only [Act.put, List.getElem_toArray, List.getElem_cons_zero, List.getElem_cons_succ, List.setIfInBounds_toArray, List.set_cons_zero, List.set_cons_succ]
              refine wpAnyH_take (i := 24) (oi := _) (v := ?v50) rfl (by kernel_rfl) (by kernel_rfl) (by kernel_rfl) (fun _ _ _ h => h) (Or.inl ⟨by rfl, ?hy50⟩) (by assumption) ?rest50
              case hy50 => (intro w hSw; (try dsimp only at hSw); go_simp; try with_reducible rfl)
              simp only [Act.put, List.getElem_toArray, List.getElem_cons_zero, List.getElem_cons_succ, List.setIfInBounds_toArray, List.set_cons_zero, List.set_cons_succ]
              refine wpAnyH_done (by kernel_rfl) ?_ _
              have HBe := hide (unhide HCe).below
              clear hS1 hS2 HCd HXd HS5 HU2
              go_wp2
              go_roundw
              case rel => exact ⟨i + 1, by omega, by omega, by go_num, HT1, HCe⟩
              case measure => simp [intOf]; omega
            · by_cases b5 : ct = 1
              case neg =>
                have hP := unhide HFb (by rw [unhide HTw]; simp [b4, b5])
                subst hP
                clear HTw HFb hnext HS5 HXd HCd HU2 hob
                go_wp2
                have q2 : (lk != 2 + (cd : Int)) = false := by simpa using b3
                have q3 : decide (1 < i) = true := by simp; omega
                have q5 : decide ((1 : Int) < (i : Int)) = true := by simp; omega
                have q4 : ((ct : Int) != 1) = true := by simp; omega
                clear b3
                go_quiet (fail)
                go_wp2
                go_ret
                exact ⟨rfl, below_drewN (unhide hBa _) _⟩
              subst b5
              subst b3
              by_cases b6 : 0 ≤ U
              case neg =>
                have hP := unhide HFb (by rw [unhide HTw]; simp [b6])
                subst hP
                have hS1 := unhide HS5 _ (unhide HCd) (unhide HXd)
                clear HTw HFb hnext
                go_wp2_with fail
                rw [← hob, ← hXX]
                clear hob hXX
                have q3 : decide (1 < i) = true := by simp; omega
                have q5 : decide ((1 : Int) < (i : Int)) = true := by simp; omega
                have q6 : decide (U < 0) = true := by simp; omega
                go_region_held3 (fun w' => w'.cell? ⟨T0, 0, none⟩ = some (.slice (some ⟨b, off, none⟩) k cap) ∧ w'.cell? ⟨T0, 1, none⟩ = some (.int .i64 now) ∧ w'.cell? ⟨XX, 4, none⟩ = some (.int .i64 (2 + (cd : Int))) ∧ w'.cell? ⟨g1, i, none⟩ = some (.int .i64 ((1 : Nat) : Int)) ∧ w'.cell? ⟨g2, i, none⟩ = some (.int .i64 cd)) (with_reducible assumption)
                  (first | ((with_reducible refine (unhide HU2).mono ?_); rintro e w2 ⟨rfl, hb2⟩; have HCe := hide ((unhide HCd).step hb2); have hS2 := unhide HS5 _ (unhide HCe) ((hb2.block _ (Array.getElem?_eq_some_iff.1 (unhide HXd)).1).trans (unhide HXd)); clear hb2) | fail)
                have HBe := hide (unhide HCe).below
                clear hS1 hS2 HCd HXd HS5 HU2
                go_wp2
                go_ret
                exact ⟨rfl, unhide HBe⟩
              have HT1 := hide (unhide hnext (by rw [unhide HTw]; simp [b6]))
              have hS1 := unhide HS5 _ (unhide HCd) (unhide HXd)
              clear HTw HFb hnext
              go_wp2_with fail
              rw [← hob, ← hXX]
              clear hob hXX
              have q3 : decide (1 < i) = true := by simp; omega
              have q5 : decide ((1 : Int) < (i : Int)) = true := by simp; omega
              have q6 : decide (U < 0) = false := by simp; omega
              go_region_held3 (fun w' => w'.cell? ⟨T0, 0, none⟩ = some (.slice (some ⟨b, off, none⟩) k cap) ∧ w'.cell? ⟨T0, 1, none⟩ = some (.int .i64 now) ∧ w'.cell? ⟨XX, 4, none⟩ = some (.int .i64 (2 + (cd : Int))) ∧ w'.cell? ⟨g1, i, none⟩ = some (.int .i64 ((1 : Nat) : Int)) ∧ w'.cell? ⟨g2, i, none⟩ = some (.int .i64 cd)) (with_reducible assumption)
                (first | ((with_reducible refine (unhide HU2).mono ?_); rintro e w2 ⟨rfl, hb2⟩; have HCe := hide ((unhide HCd).step hb2); have hS2 := unhide HS5 _ (unhide HCe) ((hb2.block _ (Array.getElem?_eq_some_iff.1 (unhide HXd)).1).trans (unhide HXd)); clear hb2) | fail)
              have HBe := hide (unhide HCe).below
              clear hS1 hS2 HCd HXd HS5 HU2
              go_wp2
              go_roundw
              case rel => exact ⟨i + 1, by omega, by omega, by go_num, HT1, HCe⟩
              case measure => simp [intOf]; omega
          · have hil' : ¬ (i : Int) < (k : Int) := by omega
            obtain rfl : P = true := by rw [unhide HP3]; exact allTo_true.2 fun q hq => unhide hall (q + 1) (by omega) (by omega)
            have hBk := hide (unhide HCk').below
            clear HP3 hil
            go_wp2
            go_ret
            exact ⟨rfl, unhide hBk⟩
end Go.Proofs.YthmoinagfooncaaGreatDoor.Tr
