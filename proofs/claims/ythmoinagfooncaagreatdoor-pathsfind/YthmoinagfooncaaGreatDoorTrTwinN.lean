/- What TwinNode answers. -/
import Derived.Test.YthmoinagfooncaaGreatDoorTrTwin
namespace Go.Proofs.YthmoinagfooncaaGreatDoor.Tr
open Go.RowKit Go.Proofs.YthmoinagfooncaaGreatDoor.Cu

abbrev zNode : Array Value := #[.int .u8 0, .int .i64 0, .int .i64 0, .int .i64 0, .int .i64 0, .int .i64 0, .slice none 0 0, .string ⟨#[]⟩, .slice none 0 0, .int .i64 0]
/-- what TwinNode works in -/
structure Tn (w W : World) (N R : Nat) (o : Obj) : Prop where
  below : Below w.heap.size w W
  box : W.heap[N]? = some o
  room : W.heap[R]? = some (.cells zNode 48)
  hN : w.heap.size ≤ N
  hR : N < R
  sz : R < W.heap.size
theorem Tn.step {w W W' : World} {N R : Nat} {o : Obj} (h : Tn w W N R o) (hb : Below W.heap.size W W') : Tn w W' N R o :=
  ⟨h.below.trans (hb.mono h.below.size), (hb.block _ (Nat.lt_trans h.hR h.sz)).trans h.box, (hb.block _ h.sz).trans h.room, h.hN, h.hR, Nat.lt_of_lt_of_le h.sz hb.size⟩
theorem Tn.r {w W : World} {N R : Nat} {o : Obj} (h : Tn w W N R o) : W.cell? ⟨R, 0, none⟩ = some (.int .u8 0) ∧ W.cell? ⟨R, 1, none⟩ = some (.int .i64 0) ∧ W.cell? ⟨R, 2, none⟩ = some (.int .i64 0) ∧ W.cell? ⟨R, 3, none⟩ = some (.int .i64 0) ∧ W.cell? ⟨R, 4, none⟩ = some (.int .i64 0) ∧ W.cell? ⟨R, 5, none⟩ = some (.int .i64 0) ∧ W.cell? ⟨R, 6, none⟩ = some (.slice none 0 0) ∧ W.cell? ⟨R, 7, none⟩ = some (.string ⟨#[]⟩) ∧ W.cell? ⟨R, 8, none⟩ = some (.slice none 0 0) ∧ W.cell? ⟨R, 9, none⟩ = some (.int .i64 0) ∧ W.frozen? ⟨R, 0, none⟩ = false ∧ W.frozen? ⟨R, 1, none⟩ = false ∧ W.frozen? ⟨R, 2, none⟩ = false ∧ W.frozen? ⟨R, 3, none⟩ = false ∧ W.frozen? ⟨R, 4, none⟩ = false ∧ W.frozen? ⟨R, 5, none⟩ = false ∧ W.frozen? ⟨R, 6, none⟩ = false ∧ W.frozen? ⟨R, 7, none⟩ = false ∧ W.frozen? ⟨R, 8, none⟩ = false ∧ W.frozen? ⟨R, 9, none⟩ = false := by
  have c : ∀ j, W.cell? ⟨R, j, none⟩ = zNode[j]? := fun j => cell_of_row _ _ _ _ _ _ h.room
  have f : ∀ j, W.frozen? ⟨R, j, none⟩ = false := fun j => by simp [World.frozen?, h.room]
  exact ⟨c 0, c 1, c 2, c 3, c 4, c 5, c 6, c 7, c 8, c 9, f 0, f 1, f 2, f 3, f 4, f 5, f 6, f 7, f 8, f 9⟩
theorem set10_other (w' : World) (g P j : Nat) (hne : P ≠ g) (a0 a1 a2 a3 a4 a5 a6 a7 a8 a9 : Value) : ((((((((((w'.setCell ⟨g, 0, none⟩ a0).setCell ⟨g, 1, none⟩ a1).setCell ⟨g, 2, none⟩ a2).setCell ⟨g, 3, none⟩ a3).setCell ⟨g, 4, none⟩ a4).setCell ⟨g, 5, none⟩ a5).setCell ⟨g, 6, none⟩ a6).setCell ⟨g, 7, none⟩ a7).setCell ⟨g, 8, none⟩ a8).setCell ⟨g, 9, none⟩ a9).cell? ⟨P, j, none⟩ = w'.cell? ⟨P, j, none⟩ := by
  have e : ∀ (W : World) (o : Nat) (v : Value), (W.setCell ⟨g, o, none⟩ v).cell? ⟨P, j, none⟩ = W.cell? ⟨P, j, none⟩ := fun W o v => by
    have h := heap_setCell_other W ⟨g, o, none⟩ P v hne
    simp [World.cell?, h]
  rw [e, e, e, e, e, e, e, e, e, e]
theorem set10_below {B : Nat} {w w' : World} (h : Below B w w') (g : Nat) (hg : B ≤ g) (a0 a1 a2 a3 a4 a5 a6 a7 a8 a9 : Value) : Below B w ((((((((((w'.setCell ⟨g, 0, none⟩ a0).setCell ⟨g, 1, none⟩ a1).setCell ⟨g, 2, none⟩ a2).setCell ⟨g, 3, none⟩ a3).setCell ⟨g, 4, none⟩ a4).setCell ⟨g, 5, none⟩ a5).setCell ⟨g, 6, none⟩ a6).setCell ⟨g, 7, none⟩ a7).setCell ⟨g, 8, none⟩ a8).setCell ⟨g, 9, none⟩ a9) :=
  (((((((((h.setCell (p := ⟨g, 0, none⟩) hg _).setCell (p := ⟨g, 1, none⟩) hg _).setCell (p := ⟨g, 2, none⟩) hg _).setCell (p := ⟨g, 3, none⟩) hg _).setCell (p := ⟨g, 4, none⟩) hg _).setCell (p := ⟨g, 5, none⟩) hg _).setCell (p := ⟨g, 6, none⟩) hg _).setCell (p := ⟨g, 7, none⟩) hg _).setCell (p := ⟨g, 8, none⟩) hg _).setCell (p := ⟨g, 9, none⟩) hg _
set_option maxRecDepth 100000 in
set_option maxHeartbeats 1000000 in
theorem twinNode_any (n : Nd) (da : Option Addr) (dl dc : Nat) (la : Option Addr) (ll lc : Nat) (w : World) (hd : n.data.length = dl) (hl : n.list.length = ll) (hb : By w da dl dc n.data) (hg : Eg w la ll lc n.list) (hdl : dl ≤ 1048576) (hll : ll ≤ 1048576) :
    Calls Tryz.prog 29 #[.agg (na n (.slice da dl dc) (.slice la ll lc))] w fun e w' => (∃ g1 g2, e = .returned (.agg (na n (.slice (some ⟨g1, 0, none⟩) dl (dl + 1)) (.slice (some ⟨g2, 0, none⟩) ll (ll + 1)))) ∧ TwB w' g1 n.data ∧ TwE w' g2 n.list ∧ w.heap.size ≤ g1 ∧ g1 < w'.heap.size ∧ w.heap.size ≤ g2 ∧ g2 < w'.heap.size) ∧ Below w.heap.size w w' := by
  have HB : Hid (∀ W, Below w.heap.size w W → Calls Tryz.prog 49 #[.slice da dl dc] W fun e w' => e = .returned (.slice (some ⟨W.heap.size, 0, none⟩) dl (dl + 1)) ∧ TwB w' W.heap.size n.data ∧ Below W.heap.size W w' ∧ W.heap.size < w'.heap.size) := fun W hW => twinB_any da dl dc n.data W (hb.below hW) hdl
  have HE : Hid (∀ W, Below w.heap.size w W → Calls Tryz.prog 50 #[.slice la ll lc] W fun e w' => e = .returned (.slice (some ⟨W.heap.size, 0, none⟩) ll (ll + 1)) ∧ TwE w' W.heap.size n.list ∧ Below W.heap.size W w' ∧ W.heap.size < w'.heap.size) := fun W hW => twinE_any la ll lc n.list W (hg.below hW) hll
  obtain ⟨N, hNe⟩ : ∃ N, N = w.heap.size := ⟨_, rfl⟩
  obtain ⟨R, hRe⟩ : ∃ R, R = w.heap.size + 1 := ⟨_, rfl⟩
  obtain ⟨kd, md, us, gr, lk, ti, dt, tg, ls, pa⟩ := n
  unfold na
  simp only at HB HE ⊢
  obtain ⟨W, hWe⟩ : ∃ W, W = (w.alloc (.cells #[.int .u8 kd.toNat, .int .i64 md, .int .i64 us, .int .i64 gr, .int .i64 lk, .int .i64 ti, .slice da dl dc, .string tg, .slice la ll lc, .int .i64 pa] 48)).alloc (.cells zNode 48) := ⟨_, rfl⟩
  have hT : Tn w W N R (.cells #[.int .u8 kd.toNat, .int .i64 md, .int .i64 us, .int .i64 gr, .int .i64 lk, .int .i64 ti, .slice da dl dc, .string tg, .slice la ll lc, .int .i64 pa] 48) := by
    have b1 : Below w.heap.size w (w.alloc (.cells #[.int .u8 kd.toNat, .int .i64 md, .int .i64 us, .int .i64 gr, .int .i64 lk, .int .i64 ti, .slice da dl dc, .string tg, .slice la ll lc, .int .i64 pa] 48)) := (Below.refl _ _).alloc (Nat.le_refl _) _
    have b2 : Below (w.alloc (.cells #[.int .u8 kd.toNat, .int .i64 md, .int .i64 us, .int .i64 gr, .int .i64 lk, .int .i64 ti, .slice da dl dc, .string tg, .slice la ll lc, .int .i64 pa] 48)).heap.size (w.alloc (.cells #[.int .u8 kd.toNat, .int .i64 md, .int .i64 us, .int .i64 gr, .int .i64 lk, .int .i64 ti, .slice da dl dc, .string tg, .slice la ll lc, .int .i64 pa] 48)) W := by rw [hWe]; exact (Below.refl _ _).alloc (Nat.le_refl _) _
    have k1 := heap_alloc_new w (.cells #[.int .u8 kd.toNat, .int .i64 md, .int .i64 us, .int .i64 gr, .int .i64 lk, .int .i64 ti, .slice da dl dc, .string tg, .slice la ll lc, .int .i64 pa] 48)
    have k2 := heap_alloc_new (w.alloc (.cells #[.int .u8 kd.toNat, .int .i64 md, .int .i64 us, .int .i64 gr, .int .i64 lk, .int .i64 ti, .slice da dl dc, .string tg, .slice la ll lc, .int .i64 pa] 48)) (.cells zNode 48)
    rw [World.size_alloc, ← hWe] at k2
    refine ⟨b1.trans (b2.mono (by simp)), by rw [hNe]; exact (b2.block _ (by simp)).trans k1, by rw [hRe]; exact k2, by omega, by omega, by rw [hRe, hWe]; simp⟩
  clear hb hg hd hl
  go_enter Tryz.func29, Tryz.ntmps29
  go_wp2_with fail
  rw [← hWe, ← hRe, ← hNe]
  have hTd : Tn w W.drew N R (.cells #[.int .u8 kd.toNat, .int .i64 md, .int .i64 us, .int .i64 gr, .int .i64 lk, .int .i64 ti, .slice da dl dc, .string tg, .slice la ll lc, .int .i64 pa] 48) := ⟨⟨hT.below.os, hT.below.tape, hT.below.output, hT.below.size, hT.below.block⟩, hT.box, hT.room, hT.hN, hT.hR, hT.sz⟩
  have HS10 : Hid (∀ V, Tn w V N R (.cells #[.int .u8 kd.toNat, .int .i64 md, .int .i64 us, .int .i64 gr, .int .i64 lk, .int .i64 ti, .slice da dl dc, .string tg, .slice la ll lc, .int .i64 pa] 48) → (V.cell? ⟨N, 0, none⟩ = some (.int .u8 kd.toNat) ∧ V.cell? ⟨N, 1, none⟩ = some (.int .i64 md) ∧ V.cell? ⟨N, 2, none⟩ = some (.int .i64 us) ∧ V.cell? ⟨N, 3, none⟩ = some (.int .i64 gr) ∧ V.cell? ⟨N, 4, none⟩ = some (.int .i64 lk) ∧ V.cell? ⟨N, 5, none⟩ = some (.int .i64 ti) ∧ V.cell? ⟨N, 6, none⟩ = some (.slice da dl dc) ∧ V.cell? ⟨N, 7, none⟩ = some (.string tg) ∧ V.cell? ⟨N, 8, none⟩ = some (.slice la ll lc) ∧ V.cell? ⟨N, 9, none⟩ = some (.int .i64 pa))) := fun V h => ⟨by rw [cell_of_row _ _ _ _ _ _ h.box]; rfl, by rw [cell_of_row _ _ _ _ _ _ h.box]; rfl, by rw [cell_of_row _ _ _ _ _ _ h.box]; rfl, by rw [cell_of_row _ _ _ _ _ _ h.box]; rfl, by rw [cell_of_row _ _ _ _ _ _ h.box]; rfl, by rw [cell_of_row _ _ _ _ _ _ h.box]; rfl, by rw [cell_of_row _ _ _ _ _ _ h.box]; rfl, by rw [cell_of_row _ _ _ _ _ _ h.box]; rfl, by rw [cell_of_row _ _ _ _ _ _ h.box]; rfl, by rw [cell_of_row _ _ _ _ _ _ h.box]; rfl⟩
  have hne' : N ≠ R := Nat.ne_of_lt hT.hR
  have HK : Hid (∀ (V : World) (a0 a1 a2 a3 a4 a5 a6 a7 a8 a9 : Value), (V.cell? ⟨N, 0, none⟩ = some (.int .u8 kd.toNat) ∧ V.cell? ⟨N, 1, none⟩ = some (.int .i64 md) ∧ V.cell? ⟨N, 2, none⟩ = some (.int .i64 us) ∧ V.cell? ⟨N, 3, none⟩ = some (.int .i64 gr) ∧ V.cell? ⟨N, 4, none⟩ = some (.int .i64 lk) ∧ V.cell? ⟨N, 5, none⟩ = some (.int .i64 ti) ∧ V.cell? ⟨N, 6, none⟩ = some (.slice da dl dc) ∧ V.cell? ⟨N, 7, none⟩ = some (.string tg) ∧ V.cell? ⟨N, 8, none⟩ = some (.slice la ll lc) ∧ V.cell? ⟨N, 9, none⟩ = some (.int .i64 pa)) → (((((((((((V.setCell ⟨R, 0, none⟩ a0).setCell ⟨R, 1, none⟩ a1).setCell ⟨R, 2, none⟩ a2).setCell ⟨R, 3, none⟩ a3).setCell ⟨R, 4, none⟩ a4).setCell ⟨R, 5, none⟩ a5).setCell ⟨R, 6, none⟩ a6).setCell ⟨R, 7, none⟩ a7).setCell ⟨R, 8, none⟩ a8).setCell ⟨R, 9, none⟩ a9).cell? ⟨N, 0, none⟩ = some (.int .u8 kd.toNat) ∧ ((((((((((V.setCell ⟨R, 0, none⟩ a0).setCell ⟨R, 1, none⟩ a1).setCell ⟨R, 2, none⟩ a2).setCell ⟨R, 3, none⟩ a3).setCell ⟨R, 4, none⟩ a4).setCell ⟨R, 5, none⟩ a5).setCell ⟨R, 6, none⟩ a6).setCell ⟨R, 7, none⟩ a7).setCell ⟨R, 8, none⟩ a8).setCell ⟨R, 9, none⟩ a9).cell? ⟨N, 1, none⟩ = some (.int .i64 md) ∧ ((((((((((V.setCell ⟨R, 0, none⟩ a0).setCell ⟨R, 1, none⟩ a1).setCell ⟨R, 2, none⟩ a2).setCell ⟨R, 3, none⟩ a3).setCell ⟨R, 4, none⟩ a4).setCell ⟨R, 5, none⟩ a5).setCell ⟨R, 6, none⟩ a6).setCell ⟨R, 7, none⟩ a7).setCell ⟨R, 8, none⟩ a8).setCell ⟨R, 9, none⟩ a9).cell? ⟨N, 2, none⟩ = some (.int .i64 us) ∧ ((((((((((V.setCell ⟨R, 0, none⟩ a0).setCell ⟨R, 1, none⟩ a1).setCell ⟨R, 2, none⟩ a2).setCell ⟨R, 3, none⟩ a3).setCell ⟨R, 4, none⟩ a4).setCell ⟨R, 5, none⟩ a5).setCell ⟨R, 6, none⟩ a6).setCell ⟨R, 7, none⟩ a7).setCell ⟨R, 8, none⟩ a8).setCell ⟨R, 9, none⟩ a9).cell? ⟨N, 3, none⟩ = some (.int .i64 gr) ∧ ((((((((((V.setCell ⟨R, 0, none⟩ a0).setCell ⟨R, 1, none⟩ a1).setCell ⟨R, 2, none⟩ a2).setCell ⟨R, 3, none⟩ a3).setCell ⟨R, 4, none⟩ a4).setCell ⟨R, 5, none⟩ a5).setCell ⟨R, 6, none⟩ a6).setCell ⟨R, 7, none⟩ a7).setCell ⟨R, 8, none⟩ a8).setCell ⟨R, 9, none⟩ a9).cell? ⟨N, 4, none⟩ = some (.int .i64 lk) ∧ ((((((((((V.setCell ⟨R, 0, none⟩ a0).setCell ⟨R, 1, none⟩ a1).setCell ⟨R, 2, none⟩ a2).setCell ⟨R, 3, none⟩ a3).setCell ⟨R, 4, none⟩ a4).setCell ⟨R, 5, none⟩ a5).setCell ⟨R, 6, none⟩ a6).setCell ⟨R, 7, none⟩ a7).setCell ⟨R, 8, none⟩ a8).setCell ⟨R, 9, none⟩ a9).cell? ⟨N, 5, none⟩ = some (.int .i64 ti) ∧ ((((((((((V.setCell ⟨R, 0, none⟩ a0).setCell ⟨R, 1, none⟩ a1).setCell ⟨R, 2, none⟩ a2).setCell ⟨R, 3, none⟩ a3).setCell ⟨R, 4, none⟩ a4).setCell ⟨R, 5, none⟩ a5).setCell ⟨R, 6, none⟩ a6).setCell ⟨R, 7, none⟩ a7).setCell ⟨R, 8, none⟩ a8).setCell ⟨R, 9, none⟩ a9).cell? ⟨N, 6, none⟩ = some (.slice da dl dc) ∧ ((((((((((V.setCell ⟨R, 0, none⟩ a0).setCell ⟨R, 1, none⟩ a1).setCell ⟨R, 2, none⟩ a2).setCell ⟨R, 3, none⟩ a3).setCell ⟨R, 4, none⟩ a4).setCell ⟨R, 5, none⟩ a5).setCell ⟨R, 6, none⟩ a6).setCell ⟨R, 7, none⟩ a7).setCell ⟨R, 8, none⟩ a8).setCell ⟨R, 9, none⟩ a9).cell? ⟨N, 7, none⟩ = some (.string tg) ∧ ((((((((((V.setCell ⟨R, 0, none⟩ a0).setCell ⟨R, 1, none⟩ a1).setCell ⟨R, 2, none⟩ a2).setCell ⟨R, 3, none⟩ a3).setCell ⟨R, 4, none⟩ a4).setCell ⟨R, 5, none⟩ a5).setCell ⟨R, 6, none⟩ a6).setCell ⟨R, 7, none⟩ a7).setCell ⟨R, 8, none⟩ a8).setCell ⟨R, 9, none⟩ a9).cell? ⟨N, 8, none⟩ = some (.slice la ll lc) ∧ ((((((((((V.setCell ⟨R, 0, none⟩ a0).setCell ⟨R, 1, none⟩ a1).setCell ⟨R, 2, none⟩ a2).setCell ⟨R, 3, none⟩ a3).setCell ⟨R, 4, none⟩ a4).setCell ⟨R, 5, none⟩ a5).setCell ⟨R, 6, none⟩ a6).setCell ⟨R, 7, none⟩ a7).setCell ⟨R, 8, none⟩ a8).setCell ⟨R, 9, none⟩ a9).cell? ⟨N, 9, none⟩ = some (.int .i64 pa))) := by
    intro V a0 a1 a2 a3 a4 a5 a6 a7 a8 a9 h
    simp only [set10_other _ _ _ _ hne']
    exact h
  have hS1 := unhide HS10 _ hTd
  have HB1 := hide (unhide HB _ hTd.below)
  have HE1 := hide (unhide HE _ hTd.below)
  have HT1 := hide hTd
  have HNE := hide hNe
  have HRE := hide hRe
  clear hWe hT hTd hNe hRe
  go_region_held3 (fun w' => w'.cell? ⟨N, 0, none⟩ = some (.int .u8 kd.toNat) ∧ w'.cell? ⟨N, 1, none⟩ = some (.int .i64 md) ∧ w'.cell? ⟨N, 2, none⟩ = some (.int .i64 us) ∧ w'.cell? ⟨N, 3, none⟩ = some (.int .i64 gr) ∧ w'.cell? ⟨N, 4, none⟩ = some (.int .i64 lk) ∧ w'.cell? ⟨N, 5, none⟩ = some (.int .i64 ti) ∧ w'.cell? ⟨N, 6, none⟩ = some (.slice da dl dc) ∧ w'.cell? ⟨N, 7, none⟩ = some (.string tg) ∧ w'.cell? ⟨N, 8, none⟩ = some (.slice la ll lc) ∧ w'.cell? ⟨N, 9, none⟩ = some (.int .i64 pa)) (first | with_reducible assumption | with_reducible exact unhide HK _ _ _ _ _ _ _ _ _ _ _ hS4 | with_reducible exact unhide HK _ _ _ _ _ _ _ _ _ _ _ hS6)
    (first
      | ((with_reducible refine (unhide HB1).mono ?_); rintro e w3 ⟨rfl, t3, b3, s3⟩; have HT3 := hide ((unhide HT1).step b3); have hS3 := unhide HS10 _ (unhide HT3); have HE3 := hide (unhide HE _ (unhide HT3).below); have T3 := hide t3; have L3 := hide s3; have q3 := hide b3.size; clear b3 t3 s3 HB1 HE1)
      | ((with_reducible refine (unhide HE3).mono ?_); rintro e w4 ⟨rfl, t4, b4, s4⟩; have HT4 := hide ((unhide HT3).step b4); have hS4 := unhide HS10 _ (unhide HT4); obtain ⟨r0, r1, r2, r3, r4, r5, r6, r7, r8, r9, z0, z1, z2, z3, z4, z5, z6, z7, z8, z9⟩ := (unhide HT4).r; have T4 := hide t4; have T34 := hide ((unhide T3).below (unhide L3) b4); have L4 := hide s4; have q4 := hide b4.size; clear b4 t4 s4 HE3)
      | ((with_reducible refine (unhide HE1).mono ?_); rintro e w5 ⟨rfl, t5, b5, s5⟩; have HT5 := hide ((unhide HT1).step b5); have hS5 := unhide HS10 _ (unhide HT5); have HB5 := hide (unhide HB _ (unhide HT5).below); have T5 := hide t5; have L5 := hide s5; have q5 := hide b5.size; clear b5 t5 s5 HB1 HE1)
      | ((with_reducible refine (unhide HB5).mono ?_); rintro e w6 ⟨rfl, t6, b6, s6⟩; have HT6 := hide ((unhide HT5).step b6); have hS6 := unhide HS10 _ (unhide HT6); obtain ⟨r0, r1, r2, r3, r4, r5, r6, r7, r8, r9, z0, z1, z2, z3, z4, z5, z6, z7, z8, z9⟩ := (unhide HT6).r; have T6 := hide t6; have T56 := hide ((unhide T5).below (unhide L5) b6); have L6 := hide s6; have q6 := hide b6.size; clear b6 t6 s6 HB5)
      | fail)
  have bf := set10_below (unhide HT4).below R (by have := (unhide HT4).hN; have := (unhide HT4).hR; omega) (.int .u8 kd.toNat) (.int .i64 md) (.int .i64 us) (.int .i64 gr) (.int .i64 lk) (.int .i64 ti) (.slice (some ⟨W.drew.heap.size, 0, none⟩) dl (dl + 1)) (.string tg) (.slice (some ⟨w3.heap.size, 0, none⟩) ll (ll + 1)) (.int .i64 pa)
  have HBF := hide bf
  clear bf
  have hRW : R < W.drew.heap.size := (unhide HT1).sz
  have hR3 : R < w3.heap.size := (unhide HT3).sz
  clear HK HS10 hS1 hS3 hS4 HB HE
  go_wp2
  refine bodyPost_ret (v := .agg #[.int .u8 kd.toNat, .int .i64 md, .int .i64 us, .int .i64 gr, .int .i64 lk, .int .i64 ti, .slice (some ⟨W.drew.heap.size, 0, none⟩) dl (dl + 1), .string tg, .slice (some ⟨w3.heap.size, 0, none⟩) ll (ll + 1), .int .i64 pa]) (by simp [results, Tryz.results29, go_sem, r0, r1, r2, r3, r4, r5, r6, r7, r8, r9]) rfl ⟨⟨W.drew.heap.size, w3.heap.size, rfl, ?_, ?_, (unhide HT1).below.size, ?_, (unhide HT3).below.size, ?_⟩, unhide HBF⟩
  · exact ⟨fun i hi => (set10_other _ _ _ _ (by omega) _ _ _ _ _ _ _ _ _ _).trans ((unhide T34).1 i hi), (set10_other _ _ _ _ (by omega) _ _ _ _ _ _ _ _ _ _).trans (unhide T34).2⟩
  · exact ⟨fun i hi => ((unhide T4).1 i hi).of fun o => set10_other _ _ _ _ (by omega) _ _ _ _ _ _ _ _ _ _, (unhide T4).2.of fun o => set10_other _ _ _ _ (by omega) _ _ _ _ _ _ _ _ _ _⟩
  · have := unhide L3; have := unhide q4; simp only [World.size_setCell]; omega
  · have := unhide L4; simp only [World.size_setCell]; omega
end Go.Proofs.YthmoinagfooncaaGreatDoor.Tr
