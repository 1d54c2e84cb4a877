/- What SameBytes, SameEntries, SameNode, SameNodes and SameTree answer of nodes that hold no lists. -/
import Derived.Test.YtcpellddjlmegaaGreatDoorTrNew
import Derived.Deep.RegionHeld3
namespace Go.Proofs.YtcpellddjlmegaaGreatDoor.Tr
open Go.RowKit Go.Proofs.YtcpellddjlmegaaGreatDoor.Cu

theorem two_new (w : World) (o1 o2 : Obj) : Below w.heap.size w ((w.alloc o1).alloc o2) ∧ ((w.alloc o1).alloc o2).heap[w.heap.size]? = some o1 ∧ ((w.alloc o1).alloc o2).heap[w.heap.size + 1]? = some o2 ∧ w.heap.size + 1 < ((w.alloc o1).alloc o2).heap.size := by
  have b1 : Below w.heap.size w (w.alloc o1) := (Below.refl _ _).alloc (Nat.le_refl _) _
  have b2 : Below (w.alloc o1).heap.size (w.alloc o1) ((w.alloc o1).alloc o2) := (Below.refl _ _).alloc (Nat.le_refl _) _
  have k2 := heap_alloc_new (w.alloc o1) o2
  rw [World.size_alloc] at k2
  exact ⟨b1.trans (b2.mono (by simp)), (b2.block _ (by simp)).trans (heap_alloc_new w o1), k2, by simp⟩
set_option maxHeartbeats 400000 in
set_option maxRecDepth 100000 in
theorem sameB_nil (w : World) : Calls Tryz.prog 101 #[.slice none 0 0, .slice none 0 0] w fun e w' => e = .returned (.bool true) ∧ Below w.heap.size w w' := by
  go_enter Tryz.func101, Tryz.ntmps101
  go_wp2
  refine wp_loop_rounds 1 ?_
  rw [rounds_succ]
  go_wp2
  go_ret
  exact ⟨rfl, by repeat (first | exact Below.refl _ _ | apply Below.setCell | apply Below.alloc | simp)⟩
set_option maxHeartbeats 400000 in
set_option maxRecDepth 100000 in
theorem sameE_nil (w : World) : Calls Tryz.prog 102 #[.slice none 0 0, .slice none 0 0] w fun e w' => e = .returned (.bool true) ∧ Below w.heap.size w w' := by
  go_enter Tryz.func102, Tryz.ntmps102
  go_wp2
  refine wp_loop_rounds 1 ?_
  rw [rounds_succ]
  go_wp2
  go_ret
  exact ⟨rfl, by repeat (first | exact Below.refl _ _ | apply Below.setCell | apply Below.alloc | simp)⟩
set_option maxRecDepth 100000 in
set_option maxHeartbeats 400000 in
theorem sameNode_any (n : Nd) (w : World) :
    Calls Tryz.prog 62 #[.agg (na n (.slice none 0 0) (.slice none 0 0)), .agg (na n (.slice none 0 0) (.slice none 0 0))] w fun e w' => e = .returned (.bool true) ∧ Below w.heap.size w w' := by
  have HB : Hid (∀ W, Below w.heap.size w W → Calls Tryz.prog 101 #[.slice none 0 0, .slice none 0 0] W fun e w' => e = .returned (.bool true) ∧ Below W.heap.size W w') := fun W hW => sameB_nil W
  have HE : Hid (∀ W, Below w.heap.size w W → Calls Tryz.prog 102 #[.slice none 0 0, .slice none 0 0] W fun e w' => e = .returned (.bool true) ∧ Below W.heap.size W w') := fun W hW => sameE_nil W
  obtain ⟨kd, md, us, gr, lk, ti, dt, tg, ls, pa⟩ := n
  unfold na
  simp only at HB HE ⊢
  go_enter Tryz.func62, Tryz.ntmps62
  go_wp2_with fail
  obtain ⟨W, hWe⟩ : ∃ W, W = (w.alloc (.cells #[.int .u8 kd.toNat, .int .i64 md, .int .i64 us, .int .i64 gr, .int .i64 lk, .int .i64 ti, .slice none 0 0, .string tg, .slice none 0 0, .int .i64 pa] 51)).alloc (.cells #[.int .u8 kd.toNat, .int .i64 md, .int .i64 us, .int .i64 gr, .int .i64 lk, .int .i64 ti, .slice none 0 0, .string tg, .slice none 0 0, .int .i64 pa] 51) := ⟨_, rfl⟩
  obtain ⟨b1, n1, n2, z1⟩ : Below w.heap.size w W ∧ W.heap[w.heap.size]? = some (.cells #[.int .u8 kd.toNat, .int .i64 md, .int .i64 us, .int .i64 gr, .int .i64 lk, .int .i64 ti, .slice none 0 0, .string tg, .slice none 0 0, .int .i64 pa] 51) ∧ W.heap[w.heap.size + 1]? = some (.cells #[.int .u8 kd.toNat, .int .i64 md, .int .i64 us, .int .i64 gr, .int .i64 lk, .int .i64 ti, .slice none 0 0, .string tg, .slice none 0 0, .int .i64 pa] 51) ∧ w.heap.size + 1 < W.heap.size := by
    rw [hWe]; exact two_new w _ _
  rw [← hWe]
  clear hWe
  refine (unhide HB W b1).mono ?_
  rintro e w3 ⟨rfl, b3⟩
  have m1 := (b3.block w.heap.size (by omega)).trans n1
  have m2 := (b3.block (w.heap.size + 1) (by omega)).trans n2
  have s3 := b3.size
  have b13 := b1.trans (b3.mono b1.size)
  have c07 : w3.cell? ⟨w.heap.size, 7, none⟩ = some (.string tg) := by rw [cell_of_row _ _ _ _ _ _ m1]; rfl
  have c08 : w3.cell? ⟨w.heap.size, 8, none⟩ = some (.slice none 0 0) := by rw [cell_of_row _ _ _ _ _ _ m1]; rfl
  have c09 : w3.cell? ⟨w.heap.size, 9, none⟩ = some (.int .i64 pa) := by rw [cell_of_row _ _ _ _ _ _ m1]; rfl
  have c17 : w3.cell? ⟨w.heap.size + 1, 7, none⟩ = some (.string tg) := by rw [cell_of_row _ _ _ _ _ _ m2]; rfl
  have c18 : w3.cell? ⟨w.heap.size + 1, 8, none⟩ = some (.slice none 0 0) := by rw [cell_of_row _ _ _ _ _ _ m2]; rfl
  have c19 : w3.cell? ⟨w.heap.size + 1, 9, none⟩ = some (.int .i64 pa) := by rw [cell_of_row _ _ _ _ _ _ m2]; rfl
  have HE3 := hide (unhide HE w3 b13)
  have B13 := hide b13
  have M1 := hide m1
  have M2 := hide m2
  clear n1 n2 m1 m2 b3 b1 b13 HB HE
  go_wp2_with fail
  refine (unhide HE3).mono ?_
  rintro e w4 ⟨rfl, b4⟩
  have k1 := (b4.block w.heap.size (by omega)).trans (unhide M1)
  have k2 := (b4.block (w.heap.size + 1) (by omega)).trans (unhide M2)
  clear c07 c08 c09 c17 c18 c19
  have d07 : w4.cell? ⟨w.heap.size, 7, none⟩ = some (.string tg) := by rw [cell_of_row _ _ _ _ _ _ k1]; rfl
  have d08 : w4.cell? ⟨w.heap.size, 8, none⟩ = some (.slice none 0 0) := by rw [cell_of_row _ _ _ _ _ _ k1]; rfl
  have d09 : w4.cell? ⟨w.heap.size, 9, none⟩ = some (.int .i64 pa) := by rw [cell_of_row _ _ _ _ _ _ k1]; rfl
  have d17 : w4.cell? ⟨w.heap.size + 1, 7, none⟩ = some (.string tg) := by rw [cell_of_row _ _ _ _ _ _ k2]; rfl
  have d18 : w4.cell? ⟨w.heap.size + 1, 8, none⟩ = some (.slice none 0 0) := by rw [cell_of_row _ _ _ _ _ _ k2]; rfl
  have d19 : w4.cell? ⟨w.heap.size + 1, 9, none⟩ = some (.int .i64 pa) := by rw [cell_of_row _ _ _ _ _ _ k2]; rfl
  have B14 := hide ((unhide B13).trans (b4.mono (unhide B13).size))
  clear k1 k2 b4 M1 M2 B13 HE3
  go_wp2
  go_ret
  exact ⟨rfl, unhide B14⟩
set_option maxRecDepth 100000 in
set_option maxHeartbeats 1000000 in
theorem sameNodes_any (G b len : Nat) (f : Nat → Nd) (w : World) (h1 : ∀ i, i < len → N10 w G (i * 10) (f i) (.slice none 0 0) (.slice none 0 0)) (h2 : ∀ i, i < len → N10 w b (i * 10) (f i) (.slice none 0 0) (.slice none 0 0)) (hG : G < w.heap.size) (hb : b < w.heap.size) (hlen : len ≤ 1048576) :
    Calls Tryz.prog 16 #[.slice (some ⟨G, 0, none⟩) len len, .slice (some ⟨b, 0, none⟩) len len] w fun e w' => e = .returned (.bool true) ∧ Below w.heap.size w w' := by
  have HM := hide h1
  have HC := hide h2
  clear h1 h2
  go_enter Tryz.func16, Tryz.ntmps16
  go_wp2
  go_loopw [5] (fun i wr => ∃ k : Nat, k ≤ len ∧ i = .int .i64 k ∧ Below w.heap.size w wr) (fun i _ => len - (intOf i).toNat)
  case atStart => exact ⟨0, Nat.zero_le _, rfl, Below.refl _ _⟩
  case round =>
    obtain ⟨k, hk, rfl, hnx⟩ := hrel
    have hsz := hnx.size
    by_cases hlt : k < len
    · have hlt' : (k : Int) < (len : Int) := by omega
      have hnd : Below w.heap.size w wr.drew := ⟨hnx.os, hnx.tape, hnx.output, hnx.size, hnx.block⟩
      have h10 := unhide HC k hlt
      have i10 := unhide HM k hlt
      obtain ⟨m, hm⟩ : ∃ m, m = f k := ⟨_, rfl⟩
      rw [← hm] at h10 i10
      have HT := hide (sameNode_any m wr.drew)
      obtain ⟨kd, md, us, gr, lk, ti, dt, tg, ls, pa⟩ := m
      have HS : Hid (∀ V, Below w.heap.size w V → (V.cell? ⟨G, k * 10, none⟩ = some (.int .u8 kd.toNat) ∧ V.cell? ⟨G, k * 10 + 1, none⟩ = some (.int .i64 md) ∧ V.cell? ⟨G, k * 10 + 2, none⟩ = some (.int .i64 us) ∧ V.cell? ⟨G, k * 10 + 3, none⟩ = some (.int .i64 gr) ∧ V.cell? ⟨G, k * 10 + 4, none⟩ = some (.int .i64 lk) ∧ V.cell? ⟨G, k * 10 + 5, none⟩ = some (.int .i64 ti) ∧ V.cell? ⟨G, k * 10 + 6, none⟩ = some (.slice none 0 0) ∧ V.cell? ⟨G, k * 10 + 7, none⟩ = some (.string tg) ∧ V.cell? ⟨G, k * 10 + 8, none⟩ = some (.slice none 0 0) ∧ V.cell? ⟨G, k * 10 + 9, none⟩ = some (.int .i64 pa) ∧ V.cell? ⟨b, k * 10, none⟩ = some (.int .u8 kd.toNat) ∧ V.cell? ⟨b, k * 10 + 1, none⟩ = some (.int .i64 md) ∧ V.cell? ⟨b, k * 10 + 2, none⟩ = some (.int .i64 us) ∧ V.cell? ⟨b, k * 10 + 3, none⟩ = some (.int .i64 gr) ∧ V.cell? ⟨b, k * 10 + 4, none⟩ = some (.int .i64 lk) ∧ V.cell? ⟨b, k * 10 + 5, none⟩ = some (.int .i64 ti) ∧ V.cell? ⟨b, k * 10 + 6, none⟩ = some (.slice none 0 0) ∧ V.cell? ⟨b, k * 10 + 7, none⟩ = some (.string tg) ∧ V.cell? ⟨b, k * 10 + 8, none⟩ = some (.slice none 0 0) ∧ V.cell? ⟨b, k * 10 + 9, none⟩ = some (.int .i64 pa))) := fun V hV => by
        have a := i10.of fun o => hV.cell (p := ⟨G, o, none⟩) hG
        have c := h10.of fun o => hV.cell (p := ⟨b, o, none⟩) hb
        exact ⟨a.c0, a.c1, a.c2, a.c3, a.c4, a.c5, a.c6, a.c7, a.c8, a.c9, c.c0, c.c1, c.c2, c.c3, c.c4, c.c5, c.c6, c.c7, c.c8, c.c9⟩
      have HND := hide hnd
      have hS1 := unhide HS _ hnd
      clear h10 i10 hm hnd
      unfold na at HT
      simp only at HT
      go_wp2_with fail
      go_region_held3 (fun w' => w'.cell? ⟨G, k * 10, none⟩ = some (.int .u8 kd.toNat) ∧ w'.cell? ⟨G, k * 10 + 1, none⟩ = some (.int .i64 md) ∧ w'.cell? ⟨G, k * 10 + 2, none⟩ = some (.int .i64 us) ∧ w'.cell? ⟨G, k * 10 + 3, none⟩ = some (.int .i64 gr) ∧ w'.cell? ⟨G, k * 10 + 4, none⟩ = some (.int .i64 lk) ∧ w'.cell? ⟨G, k * 10 + 5, none⟩ = some (.int .i64 ti) ∧ w'.cell? ⟨G, k * 10 + 6, none⟩ = some (.slice none 0 0) ∧ w'.cell? ⟨G, k * 10 + 7, none⟩ = some (.string tg) ∧ w'.cell? ⟨G, k * 10 + 8, none⟩ = some (.slice none 0 0) ∧ w'.cell? ⟨G, k * 10 + 9, none⟩ = some (.int .i64 pa) ∧ w'.cell? ⟨b, k * 10, none⟩ = some (.int .u8 kd.toNat) ∧ w'.cell? ⟨b, k * 10 + 1, none⟩ = some (.int .i64 md) ∧ w'.cell? ⟨b, k * 10 + 2, none⟩ = some (.int .i64 us) ∧ w'.cell? ⟨b, k * 10 + 3, none⟩ = some (.int .i64 gr) ∧ w'.cell? ⟨b, k * 10 + 4, none⟩ = some (.int .i64 lk) ∧ w'.cell? ⟨b, k * 10 + 5, none⟩ = some (.int .i64 ti) ∧ w'.cell? ⟨b, k * 10 + 6, none⟩ = some (.slice none 0 0) ∧ w'.cell? ⟨b, k * 10 + 7, none⟩ = some (.string tg) ∧ w'.cell? ⟨b, k * 10 + 8, none⟩ = some (.slice none 0 0) ∧ w'.cell? ⟨b, k * 10 + 9, none⟩ = some (.int .i64 pa)) (with_reducible assumption)
        (first | ((with_reducible refine (unhide HT).mono ?_); rintro e w2 ⟨rfl, b2⟩; have hB2 := hide ((unhide HND).trans (b2.mono (unhide HND).size)); have hS2 := unhide HS _ (unhide hB2); clear b2) | fail)
      clear HT hS1 hS2 HS HND hnx
      go_wp2
      go_roundw
      case rel => exact ⟨k + 1, by omega, by go_num, unhide hB2⟩
      case measure => simp [intOf]; omega
    · have e : k = len := by omega
      subst e
      go_wp2
      go_ret
      exact ⟨rfl, by repeat (first | exact hnx | apply Below.setCell | apply Below.alloc | simpa using hsz)⟩
set_option maxRecDepth 100000 in
set_option maxHeartbeats 400000 in
theorem sameTree_any (G b len : Nat) (now : Int) (f : Nat → Nd) (w : World) (h1 : ∀ i, i < len → N10 w G (i * 10) (f i) (.slice none 0 0) (.slice none 0 0)) (h2 : ∀ i, i < len → N10 w b (i * 10) (f i) (.slice none 0 0) (.slice none 0 0)) (hG : G < w.heap.size) (hb : b < w.heap.size) (hlen : len ≤ 1048576) :
    Calls Tryz.prog 7 #[.agg #[.slice (some ⟨G, 0, none⟩) len len, .int .i64 now], .agg #[.slice (some ⟨b, 0, none⟩) len len, .int .i64 now]] w fun e w' => e = .returned (.bool true) ∧ Below w.heap.size w w' := by
  have HB : Hid (∀ W, Below w.heap.size w W → Calls Tryz.prog 16 #[.slice (some ⟨G, 0, none⟩) len len, .slice (some ⟨b, 0, none⟩) len len] W fun e w' => e = .returned (.bool true) ∧ Below W.heap.size W w') := fun W hW => sameNodes_any G b len f W (fun i hi => (h1 i hi).of fun o => hW.cell (p := ⟨G, o, none⟩) hG) (fun i hi => (h2 i hi).of fun o => hW.cell (p := ⟨b, o, none⟩) hb) (Nat.lt_of_lt_of_le hG hW.size) (Nat.lt_of_lt_of_le hb hW.size) hlen
  clear h1 h2
  go_enter Tryz.func7, Tryz.ntmps7
  go_wp2_with fail
  obtain ⟨W, hWe⟩ : ∃ W, W = (w.alloc (.cells #[.slice (some ⟨G, 0, none⟩) len len, .int .i64 now] 38)).alloc (.cells #[.slice (some ⟨b, 0, none⟩) len len, .int .i64 now] 38) := ⟨_, rfl⟩
  obtain ⟨b1, n1, n2, z1⟩ : Below w.heap.size w W ∧ W.heap[w.heap.size]? = some (.cells #[.slice (some ⟨G, 0, none⟩) len len, .int .i64 now] 38) ∧ W.heap[w.heap.size + 1]? = some (.cells #[.slice (some ⟨b, 0, none⟩) len len, .int .i64 now] 38) ∧ w.heap.size + 1 < W.heap.size := by
    rw [hWe]; exact two_new w _ _
  rw [← hWe]
  clear hWe
  refine (unhide HB W b1).mono ?_
  rintro e w3 ⟨rfl, b3⟩
  have m1 := (b3.block w.heap.size (by omega)).trans n1
  have m2 := (b3.block (w.heap.size + 1) (by omega)).trans n2
  have c1 : w3.cell? ⟨w.heap.size, 1, none⟩ = some (.int .i64 now) := by rw [cell_of_row _ _ _ _ _ _ m1]; rfl
  have c2 : w3.cell? ⟨w.heap.size + 1, 1, none⟩ = some (.int .i64 now) := by rw [cell_of_row _ _ _ _ _ _ m2]; rfl
  have B13 := hide (b1.trans (b3.mono b1.size))
  clear n1 n2 m1 m2 b3 b1 HB
  go_wp2
  go_ret
  exact ⟨rfl, unhide B13⟩
end Go.Proofs.YtcpellddjlmegaaGreatDoor.Tr
