/- The chapter's paths walked. -/
import Derived.Test.YthmoinagfooncaaDoorPtLinks
import Derived.Deep.DeepCutAuto
import Derived.Deep.CutBlock
namespace Go.Proofs.YthmoinagfooncaaDoor.Pt
open Go.RowKit Go.Proofs.YthmoinagfooncaaDoor.Cu Go.Proofs.YthmoinagfooncaaDoor.Tr Go.Proofs.YthmoinagfooncaaDoor.Pm

theorem own_shape {w : World} {base : Nat} {e : TypeId} {s : Nat} {v : Value} {n : Nat} {xs : List Value} (h : w.ownsRow base e s v n xs) : ∃ a cap, v = .slice a n cap := by
  rcases h.2 with ⟨rfl, rfl⟩ | ⟨g, cap, cur, rfl, _⟩
  · exact ⟨none, 0, rfl⟩
  · exact ⟨_, _, rfl⟩
theorem smr_cell {w W : World} {g c : Nat} {cur : Array Value} {E A : Nat} (h : SmR w W g c cur E A) : W.cell? ⟨g, 18, none⟩ = some (.slice (some ⟨E, 0, none⟩) 1 1) := by
  rw [cell_of_row _ _ _ _ _ _ h.hg]
  have e : (cur.toList.take (4 * 10))[18]? = cur.toList[18]? := List.getElem?_take_of_lt (by omega)
  rw [h.tk] at e
  have e2 : cur[18]? = cur.toList[18]? := by simp
  rw [e2, ← e]; rfl
theorem smr_own {w W : World} {g c : Nat} {cur : Array Value} {E A : Nat} (h : SmR w W g c cur E A) : W.ownsRow w.heap.size 52 2 (.slice (some ⟨E, 0, none⟩) 1 1) 1 [.string ⟨#[97]⟩, .int .i64 2] :=
  ⟨rfl, .inr ⟨E, 1, _, rfl, h.lt.2.1, h.hE, Nat.le_refl _, by unfold maxLen; omega, rfl, rfl⟩⟩
theorem s3_own {w W : World} {g c : Nat} {cur : Array Value} {T A : Nat} {v : Value} (h : S3 w W g c cur T A v) : W.ownsRow w.heap.size tyNode 10 (.slice (some ⟨g, 0, none⟩) 4 c) 4 ((smA v).toList ++ [.int .u8 2, .int .i64 493, .int .i64 0, .int .i64 0, .int .i64 2, .int .i64 0, noS, noT, .slice (some ⟨A, 0, none⟩) 1 1, .int .i64 1, .int .u8 1, .int .i64 420, .int .i64 0, .int .i64 0, .int .i64 1, .int .i64 0, .slice (some ⟨A + 1, 0, none⟩) 5 5, noT, noS, .int .i64 0]) :=
  ⟨rfl, .inr ⟨g, c, cur, rfl, h.lt.1, h.hg, h.le, h.mx, h.sz, h.tk⟩⟩
theorem set_own {w W : World} {g c : Nat} {cur : Array Value} {T A : Nat} {v v' : Value} {n : Nat} {xs : List Value} (h : S3 w W g c cur T A v) (hl : W.ownsRow w.heap.size 52 2 v' n xs) : (W.setCell ⟨g, 18, none⟩ v').ownsRow w.heap.size 52 2 v' n xs := by
  refine ⟨hl.1, ?_⟩
  rcases hl.2 with h0 | ⟨ge, ce, cure, e0, e1, e2, e3⟩
  · exact .inl h0
  · exact .inr ⟨ge, ce, cure, e0, e1, (heap_setCell_other W ⟨g, 18, none⟩ ge _ (ty_ne e2 h.hg (by decide))).trans e2, e3⟩
theorem place_cells {W : World} {N : Nat} {c0 c1 c2 c3 : Value} (h : W.heap[N]? = some (.cells #[c0, c1, c2, c3] tyPlace)) : W.cell? ⟨N, 0, none⟩ = some c0 ∧ W.cell? ⟨N, 1, none⟩ = some c1 ∧ W.cell? ⟨N, 2, none⟩ = some c2 ∧ W.cell? ⟨N, 3, none⟩ = some c3 := by
  refine ⟨?_, ?_, ?_, ?_⟩ <;> (rw [cell_of_row _ _ _ _ _ _ h]; rfl)
theorem env_cells {W : World} {N : Nat} {c0 c1 c2 c3 : Value} (h : W.heap[N]? = some (.cells #[c0, c1, c2, c3] 33)) : W.cell? ⟨N, 0, none⟩ = some c0 ∧ W.cell? ⟨N, 1, none⟩ = some c1 ∧ W.cell? ⟨N, 2, none⟩ = some c2 ∧ W.cell? ⟨N, 3, none⟩ = some c3 := by
  refine ⟨?_, ?_, ?_, ?_⟩ <;> (rw [cell_of_row _ _ _ _ _ _ h]; rfl)
theorem grow_keep {w W W5 : World} {g c T A : Nat} {cur : Array Value} {v : Value} {o : Obj} (hgr : (W.alloc o).grownBy W5 (some g)) (h : S3 w W g c cur T A v) : W5.cell? ⟨T, 0, none⟩ = some (.slice (some ⟨g, 0, none⟩) 4 c) ∧ W5.frozen? ⟨T, 0, none⟩ = false := by
  have hTg := ty_ne h.hT h.hg (by decide)
  have lt : T < W.heap.size := (Array.getElem?_eq_some_iff.1 h.hT).1
  have b1 : Below W.heap.size W (W.alloc o) := (Below.refl _ _).alloc (Nat.le_refl _) _
  have hT5 := (hgr.block T (by rw [World.size_alloc]; omega) (by simpa using hTg)).trans ((b1.block T lt).trans h.hT)
  exact ⟨by rw [cell_of_row _ _ _ _ _ _ hT5]; rfl, by simp [World.frozen?, hT5]⟩
theorem below_new (w : World) (o : Obj) : Below w.heap.size w (w.alloc o) := (Below.refl _ _).alloc (Nat.le_refl _) _
/-- a block stays -/
theorem keep1 {W W' : World} {b : Nat} {o : Obj} (h : W.heap[b]? = some o) (hb : Below W.heap.size W W') : W'.heap[b]? = some o := (hb.block _ (Array.getElem?_eq_some_iff.1 h).1).trans h
theorem lt1 {W : World} {b : Nat} {o : Obj} (h : W.heap[b]? = some o) : b < W.heap.size := (Array.getElem?_eq_some_iff.1 h).1
set_option maxRecDepth 100000 in
set_option maxHeartbeats 4000000 in
theorem lives_any (w : World) : Calls Tryd.prog 7 #[] w fun e w' => e = .returned (.bool true) ∧ Below w.heap.size w w' := by
  obtain ⟨i0, hi0, hz0, hz1, hz2⟩ := info_parts Tryd.infoEntry
  obtain ⟨i1, hi1, hy0, hy1, hy2⟩ := info_parts Tryd.infoNode
  go_enter Tryd.func7, Tryd.ntmps7
  go_wp2_with fail
  refine (smallR_any _).mono ?_
  rintro e w1 ⟨g, c, rfl, cur, E, A, hS⟩
  have HS := hide hS
  have hgl : g < w1.heap.size := lt1 hS.hg
  have k18 := smr_cell hS
  have HO := hide (smr_own hS)
  have hc4 := hS.le
  have hwl : w.heap.size ≤ w1.heap.size := hS.below.size
  clear hS
  go_upto_region 4 with fail
  go_cut [1] (fun v wx => v = .pointer (some ⟨w1.heap.size, 0, none⟩) ∧ Hid (∃ va vc cur, S3 w wx g c cur w1.heap.size A (.slice va 3 vc) ∧ wx.ownsRow w.heap.size 52 2 (.slice va 3 vc) 3 [.string ⟨#[97]⟩, .int .i64 2, .string ⟨#[108]⟩, .int .i64 4, .string ⟨#[109]⟩, .int .i64 5]))
  case first =>
    go_region_law (refine step_append_own rfl (.tmp 26) (.tmp 29) 36 rfl w.heap.size 52 i0 _ 2 24 Tryd.underlying36 hi0 hz0 hz1 hz2 rfl (by decide) (.slice (some ⟨E, 0, none⟩) 1 1) 1 [.string ⟨#[97]⟩, .int .i64 2] (by simp [Act.eval]) (by exact (((unhide HO).alloc _).alloc _)) ⟨w1.heap.size + 1, 0, none⟩ 2 2 ent4 (by simp [Act.eval]) rfl (by have q := lit_new (w1.alloc (.cells #[.slice (some ⟨g, 0, none⟩) 4 c, .int .i64 0] 28)) ent4 52; rw [World.size_alloc] at q; exact q) one4 (by unfold maxLen; omega) (by omega) (by simp; omega) ?_; intro v1 w2 hown2 hg2; obtain ⟨va, vc, rfl⟩ := own_shape hown2; have H3 := hide (s3_of (unhide HS) (by exact hg2)); have HO2 := hide hown2; obtain ⟨t0, t1, t2, t3, t4⟩ := (unhide H3).cells; clear hown2 hg2)
    all_goals
      have HE : Hid (∃ va' vc' cur, S3 w (w2.setCell ⟨g, 18, none⟩ (.slice va 3 vc)) g c cur w1.heap.size A (.slice va' 3 vc') ∧ (w2.setCell ⟨g, 18, none⟩ (.slice va 3 vc)).ownsRow w.heap.size 52 2 (.slice va' 3 vc') 3 [.string ⟨#[97]⟩, .int .i64 2, .string ⟨#[108]⟩, .int .i64 4, .string ⟨#[109]⟩, .int .i64 5]) := ⟨va, vc, _, (unhide H3).set _, set_own (unhide H3) (unhide HO2)⟩
      clear H3 HO2 HS HO t0 t1 t2 t3 t4 k18
      go_wp2_with fail
      go_meet
      exact ⟨rfl, HE⟩
  case rest =>
    obtain ⟨rfl, HE⟩ := hcut
    obtain ⟨va, vc, cur, hS3, hO3⟩ := unhide HE
    obtain ⟨t0, t1, t2, t3, t4⟩ := hS3.cells
    have H3 := hide hS3
    have HO3 := hide hO3
    have HN := hide (s3_own hS3)
    have hTl : w1.heap.size < wc.heap.size := lt1 hS3.hT
    clear HE HS HO k18 hgl hS3 hO3
    generalize w1.heap.size = T at *
    have hwc : w.heap.size ≤ wc.heap.size := (unhide H3).below.size
    go_upto_region 6 with (at_builtin; refine wpList_append_own _ rfl _ _ 26 rfl w.heap.size 38 i1 _ 10 120 Tryd.underlying26 hi1 hy0 hy1 hy2 rfl (by decide) _ _ _ rfl ((unhide HN).alloc _) ⟨wc.heap.size, 0, none⟩ 2 2 nw20 rfl rfl (lit_new wc nw20 38) one20 (by unfold maxLen; omega) (by omega) (by simp; omega) ?_; intro v5 w5 hown5 hg5 _; obtain ⟨a5, c5, hv5, hS5⟩ := s5_of (unhide H3) (unhide HO3) hg5 hown5; subst hv5; have H5 := hide hS5; have k5 := grow_keep hg5 (unhide H3); have u0 := k5.1; have u1 := k5.2; clear hown5 hg5 hS5 k5)
    obtain ⟨w6, hw6⟩ : ∃ w6, w6 = w5.setCell ⟨T, 0, none⟩ (.slice a5 6 c5) := ⟨_, rfl⟩
    rw [← hw6] at H5 ⊢
    clear hw6 t0 t1 t2 t3 t4 u0 u1 H3 HO3 HN hTl hwc hwl hc4
    have F1 : Hid (∀ W, Ng W a5 6 c5 smallL → Calls Tryd.prog 17 #[.agg #[.slice a5 6 c5, .int .i64 0], .agg #[.int .i64 0, .int .i64 0, .int .i64 0, .int .i64 1], .string ⟨#[97, 47, 47, 46, 47, 98]⟩, .bool false] W fun r w' => r = .returned (.tuple #[.agg #[.int .i64 2, .string ⟨#[98]⟩, .int .i64 3, .bool false], .int .i64 0]) ∧ Below W.heap.size W w') := fun W h => by have q := findP_any a5 6 c5 smallL 0 e1 ⟨#[97, 47, 47, 46, 47, 98]⟩ false W h smL (by decide); rw [fnd1] at q; exact q
    have F2 : Hid (∀ W, Ng W a5 6 c5 smallL → Calls Tryd.prog 17 #[.agg #[.slice a5 6 c5, .int .i64 0], .agg #[.int .i64 0, .int .i64 0, .int .i64 0, .int .i64 1], .string ⟨#[108]⟩, .bool true] W fun r w' => r = .returned (.tuple #[.agg #[.int .i64 2, .string ⟨#[98]⟩, .int .i64 3, .bool false], .int .i64 0]) ∧ Below W.heap.size W w') := fun W h => by have q := findP_any a5 6 c5 smallL 0 e1 ⟨#[108]⟩ true W h smL (by decide); rw [fnd2] at q; exact q
    have F3 : Hid (∀ W, Ng W a5 6 c5 smallL → Calls Tryd.prog 17 #[.agg #[.slice a5 6 c5, .int .i64 0], .agg #[.int .i64 0, .int .i64 0, .int .i64 0, .int .i64 1], .string ⟨#[108]⟩, .bool false] W fun r w' => r = .returned (.tuple #[.agg #[.int .i64 1, .string ⟨#[108]⟩, .int .i64 4, .bool false], .int .i64 0]) ∧ Below W.heap.size W w') := fun W h => by have q := findP_any a5 6 c5 smallL 0 e1 ⟨#[108]⟩ false W h smL (by decide); rw [fnd3] at q; exact q
    have F4 : Hid (∀ W, Ng W a5 6 c5 smallL → Calls Tryd.prog 17 #[.agg #[.slice a5 6 c5, .int .i64 0], .agg #[.int .i64 0, .int .i64 0, .int .i64 0, .int .i64 1], .string ⟨#[109, 47, 120]⟩, .bool false] W fun r w' => r = .returned (.tuple #[.agg zPlace, .int .i64 12]) ∧ Below W.heap.size W w') := fun W h => by have q := findP_any a5 6 c5 smallL 0 e1 ⟨#[109, 47, 120]⟩ false W h smL (by decide); rw [fnd4] at q; exact q
    have F5 : Hid (∀ W, Ng W a5 6 c5 smallL → Calls Tryd.prog 17 #[.agg #[.slice a5 6 c5, .int .i64 0], .agg #[.int .i64 0, .int .i64 0, .int .i64 0, .int .i64 1], .string ⟨#[97, 47, 98, 47]⟩, .bool false] W fun r w' => r = .returned (.tuple #[.agg zPlace, .int .i64 9]) ∧ Below W.heap.size W w') := fun W h => by have q := findP_any a5 6 c5 smallL 0 e1 ⟨#[97, 47, 98, 47]⟩ false W h smL (by decide); rw [fnd5] at q; exact q
    have F6 : Hid (∀ W, Ng W a5 6 c5 smallL → Calls Tryd.prog 17 #[.agg #[.slice a5 6 c5, .int .i64 0], .agg #[.int .i64 0, .int .i64 0, .int .i64 0, .int .i64 1], .string ⟨#[97, 47, 46, 46]⟩, .bool false] W fun r w' => r = .returned (.tuple #[.agg #[.int .i64 1, .string ⟨#[]⟩, .int .i64 1, .bool false], .int .i64 0]) ∧ Below W.heap.size W w') := fun W h => by have q := findP_any a5 6 c5 smallL 0 e1 ⟨#[97, 47, 46, 46]⟩ false W h smL (by decide); rw [fnd6] at q; exact q
    have B1 : Hid (∀ W, Calls Tryd.prog 8 #[.string ⟨#[47, 97, 47, 98, 47, 47]⟩] W fun r w' => r = .returned (.string ⟨#[98]⟩) ∧ w' = W) := fun W => by have q := base_any ⟨#[47, 97, 47, 98, 47, 47]⟩ W (by decide); rw [bas1] at q; exact q
    have B2 : Hid (∀ W, Calls Tryd.prog 10 #[.string ⟨#[47, 97, 47, 98, 47, 47]⟩] W fun r w' => r = .returned (.string ⟨#[47, 97]⟩) ∧ w' = W) := fun W => by have q := dir_any ⟨#[47, 97, 47, 98, 47, 47]⟩ W (by decide); rw [dir1] at q; exact q
    have B3 : Hid (∀ W, Calls Tryd.prog 10 #[.string ⟨#[97]⟩] W fun r w' => r = .returned (.string ⟨#[46]⟩) ∧ w' = W) := fun W => by have q := dir_any ⟨#[97]⟩ W (by decide); rw [dir2] at q; exact q
    have B4 : Hid (∀ W, Calls Tryd.prog 12 #[.string ⟨#[47]⟩, .string ⟨#[97]⟩] W fun r w' => r = .returned (.string ⟨#[47, 97]⟩) ∧ w' = W) := fun W => by have q := join_any ⟨#[47]⟩ ⟨#[97]⟩ W (by decide) (by decide); rw [joi1] at q; exact q
    obtain ⟨t0, t1⟩ := (unhide H5).cells
    have hlT := lt1 (unhide H5).tree
    have Sa0 := hide ((unhide H5).step (below_new w6 (.cells #[.int .i64 0, .int .i64 0, .int .i64 0, .int .i64 1] 33)))
    have Ea0 := hide (heap_alloc_new w6 (.cells #[.int .i64 0, .int .i64 0, .int .i64 0, .int .i64 1] 33))
    clear H5
    go_wp2_with fail
    obtain ⟨N, hN⟩ : ∃ N, N = w6.heap.size := ⟨_, rfl⟩
    rw [← hN] at Ea0
    refine (unhide F1 _ (unhide Sa0).ng).mono ?_
    rintro r x1 ⟨rfl, b1⟩
    rw [← hN]
    have S1 := hide ((unhide Sa0).step b1)
    have E1 := hide (keep1 (unhide Ea0) b1)
    clear F1 b1 Sa0 Ea0 t0 t1 hlT hN
    obtain ⟨t0, t1⟩ := (unhide S1).cells
    have hlT := lt1 (unhide S1).tree
    obtain ⟨n0, n1, n2, n3⟩ := env_cells (unhide E1)
    have hlN := lt1 (unhide E1)
    have Sa1 := hide ((unhide S1).step (below_new x1 (.cells #[.int .i64 2, .string ⟨#[98]⟩, .int .i64 3, .bool false] tyPlace)))
    have Ea1 := hide (keep1 (unhide E1) (below_new x1 (.cells #[.int .i64 2, .string ⟨#[98]⟩, .int .i64 3, .bool false] tyPlace)))
    have Ga1_1 := hide (heap_alloc_new x1 (.cells #[.int .i64 2, .string ⟨#[98]⟩, .int .i64 3, .bool false] tyPlace))
    clear S1 E1
    go_wp2_with fail
    obtain ⟨P1, hP1⟩ : ∃ P, P = x1.heap.size := ⟨_, rfl⟩
    rw [← hP1] at Ga1_1
    refine (unhide F2 _ (unhide Sa1).ng).mono ?_
    rintro r x2 ⟨rfl, b2⟩
    rw [← hP1]
    have S2 := hide ((unhide Sa1).step b2)
    have E2 := hide (keep1 (unhide Ea1) b2)
    have G1_2 := hide (keep1 (unhide Ga1_1) b2)
    clear F2 b2 Sa1 Ea1 t0 t1 hlT hP1 n0 n1 n2 n3 hlN Ga1_1
    obtain ⟨t0, t1⟩ := (unhide S2).cells
    have hlT := lt1 (unhide S2).tree
    obtain ⟨n0, n1, n2, n3⟩ := env_cells (unhide E2)
    have hlN := lt1 (unhide E2)
    have Sa2 := hide ((unhide S2).step (below_new x2 (.cells #[.int .i64 2, .string ⟨#[98]⟩, .int .i64 3, .bool false] tyPlace)))
    have Ea2 := hide (keep1 (unhide E2) (below_new x2 (.cells #[.int .i64 2, .string ⟨#[98]⟩, .int .i64 3, .bool false] tyPlace)))
    have Ga1_2 := hide (keep1 (unhide G1_2) (below_new x2 (.cells #[.int .i64 2, .string ⟨#[98]⟩, .int .i64 3, .bool false] tyPlace)))
    have Ga2_2 := hide (heap_alloc_new x2 (.cells #[.int .i64 2, .string ⟨#[98]⟩, .int .i64 3, .bool false] tyPlace))
    clear S2 E2 G1_2
    go_wp2_with fail
    obtain ⟨P2, hP2⟩ : ∃ P, P = x2.heap.size := ⟨_, rfl⟩
    rw [← hP2] at Ga2_2
    refine (unhide F3 _ (unhide Sa2).ng).mono ?_
    rintro r x3 ⟨rfl, b3⟩
    rw [← hP2]
    have S3 := hide ((unhide Sa2).step b3)
    have E3 := hide (keep1 (unhide Ea2) b3)
    have G1_3 := hide (keep1 (unhide Ga1_2) b3)
    have G2_3 := hide (keep1 (unhide Ga2_2) b3)
    clear F3 b3 Sa2 Ea2 t0 t1 hlT hP2 n0 n1 n2 n3 hlN Ga1_2 Ga2_2
    obtain ⟨t0, t1⟩ := (unhide S3).cells
    have hlT := lt1 (unhide S3).tree
    obtain ⟨n0, n1, n2, n3⟩ := env_cells (unhide E3)
    have hlN := lt1 (unhide E3)
    have Sa3 := hide ((unhide S3).step (below_new x3 (.cells #[.int .i64 1, .string ⟨#[108]⟩, .int .i64 4, .bool false] tyPlace)))
    have Ea3 := hide (keep1 (unhide E3) (below_new x3 (.cells #[.int .i64 1, .string ⟨#[108]⟩, .int .i64 4, .bool false] tyPlace)))
    have Ga1_3 := hide (keep1 (unhide G1_3) (below_new x3 (.cells #[.int .i64 1, .string ⟨#[108]⟩, .int .i64 4, .bool false] tyPlace)))
    have Ga2_3 := hide (keep1 (unhide G2_3) (below_new x3 (.cells #[.int .i64 1, .string ⟨#[108]⟩, .int .i64 4, .bool false] tyPlace)))
    have Ga3_3 := hide (heap_alloc_new x3 (.cells #[.int .i64 1, .string ⟨#[108]⟩, .int .i64 4, .bool false] tyPlace))
    clear S3 E3 G1_3 G2_3
    go_wp2_with fail
    obtain ⟨P3, hP3⟩ : ∃ P, P = x3.heap.size := ⟨_, rfl⟩
    rw [← hP3] at Ga3_3
    refine (unhide F4 _ (unhide Sa3).ng).mono ?_
    rintro r x4 ⟨rfl, b4⟩
    rw [← hP3]
    have S4 := hide ((unhide Sa3).step b4)
    have E4 := hide (keep1 (unhide Ea3) b4)
    have G1_4 := hide (keep1 (unhide Ga1_3) b4)
    have G2_4 := hide (keep1 (unhide Ga2_3) b4)
    have G3_4 := hide (keep1 (unhide Ga3_3) b4)
    clear F4 b4 Sa3 Ea3 t0 t1 hlT hP3 n0 n1 n2 n3 hlN Ga1_3 Ga2_3 Ga3_3
    obtain ⟨t0, t1⟩ := (unhide S4).cells
    have hlT := lt1 (unhide S4).tree
    obtain ⟨n0, n1, n2, n3⟩ := env_cells (unhide E4)
    have hlN := lt1 (unhide E4)
    have Sa4 := hide ((unhide S4).step (below_new x4 (.cells zPlace tyPlace)))
    have Ea4 := hide (keep1 (unhide E4) (below_new x4 (.cells zPlace tyPlace)))
    have Ga1_4 := hide (keep1 (unhide G1_4) (below_new x4 (.cells zPlace tyPlace)))
    have Ga2_4 := hide (keep1 (unhide G2_4) (below_new x4 (.cells zPlace tyPlace)))
    have Ga3_4 := hide (keep1 (unhide G3_4) (below_new x4 (.cells zPlace tyPlace)))
    have Ga4_4 := hide (heap_alloc_new x4 (.cells zPlace tyPlace))
    clear S4 E4 G1_4 G2_4 G3_4
    go_wp2_with fail
    obtain ⟨P4, hP4⟩ : ∃ P, P = x4.heap.size := ⟨_, rfl⟩
    rw [← hP4] at Ga4_4
    refine (unhide F5 _ (unhide Sa4).ng).mono ?_
    rintro r x5 ⟨rfl, b5⟩
    rw [← hP4]
    have S5 := hide ((unhide Sa4).step b5)
    have E5 := hide (keep1 (unhide Ea4) b5)
    have G1_5 := hide (keep1 (unhide Ga1_4) b5)
    have G2_5 := hide (keep1 (unhide Ga2_4) b5)
    have G3_5 := hide (keep1 (unhide Ga3_4) b5)
    have G4_5 := hide (keep1 (unhide Ga4_4) b5)
    clear F5 b5 Sa4 Ea4 t0 t1 hlT hP4 n0 n1 n2 n3 hlN Ga1_4 Ga2_4 Ga3_4 Ga4_4
    obtain ⟨t0, t1⟩ := (unhide S5).cells
    have hlT := lt1 (unhide S5).tree
    obtain ⟨n0, n1, n2, n3⟩ := env_cells (unhide E5)
    have hlN := lt1 (unhide E5)
    have Sa5 := hide ((unhide S5).step (below_new x5 (.cells zPlace tyPlace)))
    have Ea5 := hide (keep1 (unhide E5) (below_new x5 (.cells zPlace tyPlace)))
    have Ga1_5 := hide (keep1 (unhide G1_5) (below_new x5 (.cells zPlace tyPlace)))
    have Ga2_5 := hide (keep1 (unhide G2_5) (below_new x5 (.cells zPlace tyPlace)))
    have Ga3_5 := hide (keep1 (unhide G3_5) (below_new x5 (.cells zPlace tyPlace)))
    have Ga4_5 := hide (keep1 (unhide G4_5) (below_new x5 (.cells zPlace tyPlace)))
    have Ga5_5 := hide (heap_alloc_new x5 (.cells zPlace tyPlace))
    clear S5 E5 G1_5 G2_5 G3_5 G4_5
    go_wp2_with fail
    obtain ⟨P5, hP5⟩ : ∃ P, P = x5.heap.size := ⟨_, rfl⟩
    rw [← hP5] at Ga5_5
    refine (unhide F6 _ (unhide Sa5).ng).mono ?_
    rintro r x6 ⟨rfl, b6⟩
    rw [← hP5]
    have S6 := hide ((unhide Sa5).step b6)
    have E6 := hide (keep1 (unhide Ea5) b6)
    have G1_6 := hide (keep1 (unhide Ga1_5) b6)
    have G2_6 := hide (keep1 (unhide Ga2_5) b6)
    have G3_6 := hide (keep1 (unhide Ga3_5) b6)
    have G4_6 := hide (keep1 (unhide Ga4_5) b6)
    have G5_6 := hide (keep1 (unhide Ga5_5) b6)
    clear F6 b6 Sa5 Ea5 t0 t1 hlT hP5 n0 n1 n2 n3 hlN Ga1_5 Ga2_5 Ga3_5 Ga4_5 Ga5_5
    obtain ⟨t0, t1⟩ := (unhide S6).cells
    have hlT := lt1 (unhide S6).tree
    obtain ⟨n0, n1, n2, n3⟩ := env_cells (unhide E6)
    have hlN := lt1 (unhide E6)
    have Sa6 := hide ((unhide S6).step (below_new x6 (.cells #[.int .i64 1, .string ⟨#[]⟩, .int .i64 1, .bool false] tyPlace)))
    have Ea6 := hide (keep1 (unhide E6) (below_new x6 (.cells #[.int .i64 1, .string ⟨#[]⟩, .int .i64 1, .bool false] tyPlace)))
    have Ga1_6 := hide (keep1 (unhide G1_6) (below_new x6 (.cells #[.int .i64 1, .string ⟨#[]⟩, .int .i64 1, .bool false] tyPlace)))
    have Ga2_6 := hide (keep1 (unhide G2_6) (below_new x6 (.cells #[.int .i64 1, .string ⟨#[]⟩, .int .i64 1, .bool false] tyPlace)))
    have Ga3_6 := hide (keep1 (unhide G3_6) (below_new x6 (.cells #[.int .i64 1, .string ⟨#[]⟩, .int .i64 1, .bool false] tyPlace)))
    have Ga4_6 := hide (keep1 (unhide G4_6) (below_new x6 (.cells #[.int .i64 1, .string ⟨#[]⟩, .int .i64 1, .bool false] tyPlace)))
    have Ga5_6 := hide (keep1 (unhide G5_6) (below_new x6 (.cells #[.int .i64 1, .string ⟨#[]⟩, .int .i64 1, .bool false] tyPlace)))
    have Ga6_6 := hide (heap_alloc_new x6 (.cells #[.int .i64 1, .string ⟨#[]⟩, .int .i64 1, .bool false] tyPlace))
    obtain ⟨p10, p11, p12, p13⟩ := place_cells (unhide G1_6)
    have l1 := lt1 (unhide G1_6)
    obtain ⟨p20, p21, p22, p23⟩ := place_cells (unhide G2_6)
    have l2 := lt1 (unhide G2_6)
    obtain ⟨p30, p31, p32, p33⟩ := place_cells (unhide G3_6)
    have l3 := lt1 (unhide G3_6)
    have HF := hide (unhide Sa6).below
    clear Sa6 Ea6 S6 E6 Ga1_6 Ga2_6 Ga3_6 Ga4_6 Ga5_6 Ga6_6 G1_6 G2_6 G3_6 G4_6 G5_6
    go_wp2_with (first | (go_at_call 8; refine (unhide B1 _).mono ?_; rintro r x7 ⟨rfl, hw⟩; rw [hw]; clear hw x7) | (go_at_call 12; refine (unhide B4 _).mono ?_; rintro r x7 ⟨rfl, hw⟩; rw [hw]; clear hw x7) | (go_at_call 10; first | ((with_reducible refine (unhide B2 _).mono ?_); rintro r x7 ⟨rfl, hw⟩; rw [hw]; clear hw x7) | ((with_reducible refine (unhide B3 _).mono ?_); rintro r x7 ⟨rfl, hw⟩; rw [hw]; clear hw x7)))
    go_ret
    exact ⟨rfl, unhide HF⟩
end Go.Proofs.YthmoinagfooncaaDoor.Pt
