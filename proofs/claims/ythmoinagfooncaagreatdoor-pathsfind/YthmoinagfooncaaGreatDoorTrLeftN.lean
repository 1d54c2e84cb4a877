/- What LeftNode, LeftNodes and LeftTree answer. -/
import Derived.Test.YthmoinagfooncaaGreatDoorTrLeft
namespace Go.Proofs.YthmoinagfooncaaGreatDoor.Tr
open Go.RowKit Go.Proofs.YthmoinagfooncaaGreatDoor.Cu

theorem two_new (w : World) (o1 o2 : Obj) : Below w.heap.size w ((w.alloc o1).alloc o2) ∧ ((w.alloc o1).alloc o2).heap[w.heap.size]? = some o1 ∧ ((w.alloc o1).alloc o2).heap[w.heap.size + 1]? = some o2 ∧ w.heap.size + 1 < ((w.alloc o1).alloc o2).heap.size := by
  have b1 : Below w.heap.size w (w.alloc o1) := (Below.refl _ _).alloc (Nat.le_refl _) _
  have b2 : Below (w.alloc o1).heap.size (w.alloc o1) ((w.alloc o1).alloc o2) := (Below.refl _ _).alloc (Nat.le_refl _) _
  have k2 := heap_alloc_new (w.alloc o1) o2
  rw [World.size_alloc] at k2
  exact ⟨b1.trans (b2.mono (by simp)), (b2.block _ (by simp)).trans (heap_alloc_new w o1), k2, by simp⟩
set_option maxRecDepth 100000 in
set_option maxHeartbeats 400000 in
theorem leftNode_any (n : Nd) (g1 g2 : Nat) (da : Option Addr) (dl dc : Nat) (la : Option Addr) (ll lc : Nat) (w : World) (hd : n.data.length = dl) (hl : n.list.length = ll) (hb : By w da dl dc n.data) (hg : Eg w la ll lc n.list) (hdl : dl ≤ 1048576) (hll : ll ≤ 1048576)
    (t1 : TwB w g1 n.data) (t2 : TwE w g2 n.list) (q1 : g1 < w.heap.size) (q2 : g2 < w.heap.size) :
    Calls Tryz.prog 43 #[.agg (na n (.slice (some ⟨g1, 0, none⟩) dl (dl + 1)) (.slice (some ⟨g2, 0, none⟩) ll (ll + 1))), .agg (na n (.slice da dl dc) (.slice la ll lc))] w fun e w' => e = .returned (.bool true) ∧ Below w.heap.size w w' := by
  have HB : Hid (∀ W, Below w.heap.size w W → Calls Tryz.prog 61 #[.slice (some ⟨g1, 0, none⟩) dl (dl + 1), .slice da dl dc] W fun e w' => e = .returned (.bool true) ∧ Below W.heap.size W w') := fun W hW => leftB_any da g1 dl dc dc n.data W (hb.below hW) (t1.below q1 hW) hdl
  have HE : Hid (∀ W, Below w.heap.size w W → Calls Tryz.prog 62 #[.slice (some ⟨g2, 0, none⟩) ll (ll + 1), .slice la ll lc] W fun e w' => e = .returned (.bool true) ∧ Below W.heap.size W w') := fun W hW => leftE_any g2 la ll lc lc n.list W (hg.below hW) hll (t2.below q2 hW) (Nat.lt_of_lt_of_le q2 hW.size)
  obtain ⟨kd, md, us, gr, lk, ti, dt, tg, ls, pa⟩ := n
  unfold na
  simp only at HB HE ⊢
  clear hb hg hd hl t1 t2
  go_enter Tryz.func43, Tryz.ntmps43
  go_wp2_with fail
  obtain ⟨W, hWe⟩ : ∃ W, W = (w.alloc (.cells #[.int .u8 kd.toNat, .int .i64 md, .int .i64 us, .int .i64 gr, .int .i64 lk, .int .i64 ti, .slice (some ⟨g1, 0, none⟩) dl (dl + 1), .string tg, .slice (some ⟨g2, 0, none⟩) ll (ll + 1), .int .i64 pa] 48)).alloc (.cells #[.int .u8 kd.toNat, .int .i64 md, .int .i64 us, .int .i64 gr, .int .i64 lk, .int .i64 ti, .slice da dl dc, .string tg, .slice la ll lc, .int .i64 pa] 48) := ⟨_, rfl⟩
  obtain ⟨b1, n1, n2, z1⟩ : Below w.heap.size w W ∧ W.heap[w.heap.size]? = some (.cells #[.int .u8 kd.toNat, .int .i64 md, .int .i64 us, .int .i64 gr, .int .i64 lk, .int .i64 ti, .slice (some ⟨g1, 0, none⟩) dl (dl + 1), .string tg, .slice (some ⟨g2, 0, none⟩) ll (ll + 1), .int .i64 pa] 48) ∧ W.heap[w.heap.size + 1]? = some (.cells #[.int .u8 kd.toNat, .int .i64 md, .int .i64 us, .int .i64 gr, .int .i64 lk, .int .i64 ti, .slice da dl dc, .string tg, .slice la ll lc, .int .i64 pa] 48) ∧ w.heap.size + 1 < W.heap.size := by
    rw [hWe]; exact two_new w _ _
  rw [← hWe]
  clear hWe
  refine (unhide HB W b1).mono ?_
  rintro e w3 ⟨rfl, b3⟩
  have m1 := (b3.block w.heap.size (by omega)).trans n1
  have m2 := (b3.block (w.heap.size + 1) (by omega)).trans n2
  have s3 := b3.size
  have b13 := b1.trans (b3.mono b1.size)
  have c07 : w3.cell? ⟨w.heap.size, 7, none⟩ = some (.string tg) := by rw [cell_of_row _ _ _ _ _ _ m1]; rfl
  have c08 : w3.cell? ⟨w.heap.size, 8, none⟩ = some (.slice (some ⟨g2, 0, none⟩) ll (ll + 1)) := by rw [cell_of_row _ _ _ _ _ _ m1]; rfl
  have c09 : w3.cell? ⟨w.heap.size, 9, none⟩ = some (.int .i64 pa) := by rw [cell_of_row _ _ _ _ _ _ m1]; rfl
  have c17 : w3.cell? ⟨w.heap.size + 1, 7, none⟩ = some (.string tg) := by rw [cell_of_row _ _ _ _ _ _ m2]; rfl
  have c18 : w3.cell? ⟨w.heap.size + 1, 8, none⟩ = some (.slice la ll lc) := by rw [cell_of_row _ _ _ _ _ _ m2]; rfl
  have c19 : w3.cell? ⟨w.heap.size + 1, 9, none⟩ = some (.int .i64 pa) := by rw [cell_of_row _ _ _ _ _ _ m2]; rfl
  have HE3 := hide (unhide HE w3 b13)
  have B13 := hide b13
  have M1 := hide m1
  have M2 := hide m2
  clear n1 n2 m1 m2 b3 b1 b13 HB HE
  go_wp2_with fail
  refine (unhide HE3).mono ?_
  rintro e w4 ⟨rfl, b4⟩
  have k1 := (b4.block w.heap.size (by omega)).trans (unhide M1)
  have k2 := (b4.block (w.heap.size + 1) (by omega)).trans (unhide M2)
  clear c07 c08 c09 c17 c18 c19
  have d07 : w4.cell? ⟨w.heap.size, 7, none⟩ = some (.string tg) := by rw [cell_of_row _ _ _ _ _ _ k1]; rfl
  have d08 : w4.cell? ⟨w.heap.size, 8, none⟩ = some (.slice (some ⟨g2, 0, none⟩) ll (ll + 1)) := by rw [cell_of_row _ _ _ _ _ _ k1]; rfl
  have d09 : w4.cell? ⟨w.heap.size, 9, none⟩ = some (.int .i64 pa) := by rw [cell_of_row _ _ _ _ _ _ k1]; rfl
  have d17 : w4.cell? ⟨w.heap.size + 1, 7, none⟩ = some (.string tg) := by rw [cell_of_row _ _ _ _ _ _ k2]; rfl
  have d18 : w4.cell? ⟨w.heap.size + 1, 8, none⟩ = some (.slice la ll lc) := by rw [cell_of_row _ _ _ _ _ _ k2]; rfl
  have d19 : w4.cell? ⟨w.heap.size + 1, 9, none⟩ = some (.int .i64 pa) := by rw [cell_of_row _ _ _ _ _ _ k2]; rfl
  have B14 := hide ((unhide B13).trans (b4.mono (unhide B13).size))
  clear k1 k2 b4 M1 M2 B13 HE3
  go_wp2
  go_ret
  exact ⟨rfl, unhide B14⟩
end Go.Proofs.YthmoinagfooncaaGreatDoor.Tr
