/- What SameEntries, SameNode, SameNodes and SameTree say of what is the same. -/
import Derived.Test.YtbofidpoajdcmabCdSame
import Derived.Test.YtbofidpoajdcmabCdPutT
import Derived.Deep.RegionHeld3
namespace Go.Proofs.Ytbofidpoajdcmab.Cd
open Go.RowKit Cu Tr

set_option maxHeartbeats 400000 in
set_option maxRecDepth 100000 in
theorem sameE_yes (a b : Option Addr) (n c1 c2 : Nat) (l : List En) (w : World) (hA : Eg w a n c1 l) (hB : Eg w b n c2 l) (hn : n ≤ 4611686018427387904) :
    Calls Try.prog 50 #[.slice a n c1, .slice b n c2] w fun e w' => e = .returned (.bool true) ∧ Below w.heap.size w w' := by
  have HA := hide hA
  have HB := hide hB
  clear hA hB
  go_enter Try.func50, Try.ntmps50
  go_wp2_with fail
  go_loopw [5] (fun v wr => ∃ i q : Nat, i ≤ n ∧ v = .int .i64 i ∧ wr = w.drewN q) (fun v _ => n - (intOf v).toNat)
  case atStart => exact ⟨0, 0, Nat.zero_le _, rfl, rfl⟩
  case round =>
    obtain ⟨i, q, hi, rfl, rfl⟩ := hrel
    by_cases hlt : i < n
    · have hlt' : (i : Int) < (n : Int) := by omega
      obtain ⟨b3, o3, rfl, _, hcs⟩ : ∃ b off, a = some ⟨b, off, none⟩ ∧ b < w.heap.size ∧ ∀ i, i < n → E2 w b (off + i * 2) (en l i) := by
        rcases (unhide HA).cells with h | h
        · omega
        · exact h
      obtain ⟨b4, o4, rfl, _, hcs2⟩ : ∃ b' off, b = some ⟨b', off, none⟩ ∧ b' < w.heap.size ∧ ∀ i, i < n → E2 w b' (off + i * 2) (en l i) := by
        rcases (unhide HB).cells with h | h
        · omega
        · exact h
      have hc0 := (hcs i hlt).c0
      have hc1 := (hcs i hlt).c1
      have hd0 := (hcs2 i hlt).c0
      have hd1 := (hcs2 i hlt).c1
      generalize en l i = x at *
      obtain ⟨nm, no⟩ := x
      simp only at hc0 hc1 hd0 hd1
      clear hcs hcs2
      go_wp2_with fail
      go_quiet (fail)
      go_wp2_with fail
      go_roundw
      case rel => exact ⟨i + 1, q + nq, by omega, by go_num, rfl⟩
      case measure => simp [intOf]; omega
    · obtain rfl : i = n := by omega
      go_wp2_with fail
      go_ret
      exact ⟨rfl, below_drew _ _⟩
theorem two_new9 (w : World) (o1 o2 : Obj) : Below w.heap.size w ((w.alloc o1).alloc o2) ∧ ((w.alloc o1).alloc o2).heap[w.heap.size]? = some o1 ∧ ((w.alloc o1).alloc o2).heap[w.heap.size + 1]? = some o2 ∧ w.heap.size + 1 < ((w.alloc o1).alloc o2).heap.size := by
  have b1 : Below w.heap.size w (w.alloc o1) := below_new _ _
  have b2 : Below (w.alloc o1).heap.size (w.alloc o1) ((w.alloc o1).alloc o2) := below_new _ _
  have k2 := heap_alloc_new (w.alloc o1) o2
  rw [World.size_alloc] at k2
  exact ⟨b1.trans (b2.mono (by simp)), (b2.block _ (by simp)).trans (heap_alloc_new w o1), k2, by simp⟩
set_option maxRecDepth 100000 in
set_option maxHeartbeats 1000000 in
theorem sameN_yes (n : Nd) (da db la lb : Option Addr) (dc dc2 lc lc2 : Nat) (w : World) (hD1 : By w da n.data.length dc n.data) (hD2 : By w db n.data.length dc2 n.data) (hL1 : Eg w la n.list.length lc n.list) (hL2 : Eg w lb n.list.length lc2 n.list)
    (h1 : n.data.length ≤ 4611686018427387904) (h2 : n.list.length ≤ 4611686018427387904) :
    Calls Try.prog 35 #[.agg (nA n (.slice da n.data.length dc) (.slice la n.list.length lc)), .agg (nA n (.slice db n.data.length dc2) (.slice lb n.list.length lc2))] w fun e w' => e = .returned (.bool true) ∧ Below w.heap.size w w' := by
  have HB : Hid (∀ W, Below w.heap.size w W → Calls Try.prog 49 #[.slice da n.data.length dc, .slice db n.data.length dc2] W fun e w' => e = .returned (.bool true) ∧ Below W.heap.size W w') := fun W hW => sameB_yes da db _ dc dc2 _ W (hD1.below hW) (hD2.below hW) h1
  have HE : Hid (∀ W, Below w.heap.size w W → Calls Try.prog 50 #[.slice la n.list.length lc, .slice lb n.list.length lc2] W fun e w' => e = .returned (.bool true) ∧ Below W.heap.size W w') := fun W hW => sameE_yes la lb _ lc lc2 _ W (hL1.below hW) (hL2.below hW) h2
  obtain ⟨kd, md, us, gr, lk, ti, dt, tg, ls, pa⟩ := n
  unfold nA
  simp only at HB HE h1 h2 ⊢
  clear hD1 hD2 hL1 hL2
  generalize dt.length = D at *
  generalize ls.length = L at *
  go_enter Try.func35, Try.ntmps35
  go_wp2_with fail
  obtain ⟨W, hWe⟩ : ∃ W, W = (w.alloc (.cells #[.int .u8 kd.toNat, .int .i64 md, .int .i64 us, .int .i64 gr, .int .i64 lk, .int .i64 ti, .slice da D dc, .string tg, .slice la L lc, .int .i64 pa] 70)).alloc (.cells #[.int .u8 kd.toNat, .int .i64 md, .int .i64 us, .int .i64 gr, .int .i64 lk, .int .i64 ti, .slice db D dc2, .string tg, .slice lb L lc2, .int .i64 pa] 70) := ⟨_, rfl⟩
  obtain ⟨b1, n1, n2, z1⟩ : Below w.heap.size w W ∧ W.heap[w.heap.size]? = some (.cells #[.int .u8 kd.toNat, .int .i64 md, .int .i64 us, .int .i64 gr, .int .i64 lk, .int .i64 ti, .slice da D dc, .string tg, .slice la L lc, .int .i64 pa] 70) ∧ W.heap[w.heap.size + 1]? = some (.cells #[.int .u8 kd.toNat, .int .i64 md, .int .i64 us, .int .i64 gr, .int .i64 lk, .int .i64 ti, .slice db D dc2, .string tg, .slice lb L lc2, .int .i64 pa] 70) ∧ w.heap.size + 1 < W.heap.size := by
    rw [hWe]; exact two_new9 w _ _
  rw [← hWe]
  clear hWe
  refine (unhide HB W b1).mono ?_
  rintro e w3 ⟨rfl, b3⟩
  have m1 := (b3.block w.heap.size (by omega)).trans n1
  have m2 := (b3.block (w.heap.size + 1) (by omega)).trans n2
  have s3 := b3.size
  have b13 := b1.trans (b3.mono b1.size)
  have c07 : w3.cell? ⟨w.heap.size, 7, none⟩ = some (.string tg) := by rw [cell_of_row _ _ _ _ _ _ m1]; rfl
  have c08 : w3.cell? ⟨w.heap.size, 8, none⟩ = some (.slice la L lc) := by rw [cell_of_row _ _ _ _ _ _ m1]; rfl
  have c17 : w3.cell? ⟨w.heap.size + 1, 7, none⟩ = some (.string tg) := by rw [cell_of_row _ _ _ _ _ _ m2]; rfl
  have c18 : w3.cell? ⟨w.heap.size + 1, 8, none⟩ = some (.slice lb L lc2) := by rw [cell_of_row _ _ _ _ _ _ m2]; rfl
  have HE3 := hide (unhide HE w3 b13)
  have B13 := hide b13
  have M1 := hide m1
  have M2 := hide m2
  clear n1 n2 m1 m2 b3 b1 b13 HB HE
  go_wp2_with fail
  refine (unhide HE3).mono ?_
  rintro e w4 ⟨rfl, b4⟩
  have k1 := (b4.block w.heap.size (by omega)).trans (unhide M1)
  have k2 := (b4.block (w.heap.size + 1) (by omega)).trans (unhide M2)
  clear c07 c08 c17 c18
  have d09 : w4.cell? ⟨w.heap.size, 9, none⟩ = some (.int .i64 pa) := by rw [cell_of_row _ _ _ _ _ _ k1]; rfl
  have d19 : w4.cell? ⟨w.heap.size + 1, 9, none⟩ = some (.int .i64 pa) := by rw [cell_of_row _ _ _ _ _ _ k2]; rfl
  have B14 := hide ((unhide B13).trans (b4.mono (unhide B13).size))
  clear k1 k2 b4 M1 M2 B13 HE3
  go_wp2
  go_ret
  exact ⟨rfl, unhide B14⟩
set_option maxRecDepth 100000 in
set_option maxHeartbeats 2000000 in
theorem sameNs_yes (a b : Option Addr) (len c1 c2 : Nat) (ns : List Nd) (w : World) (hA : Ng w a len c1 ns) (hB : Ng w b len c2 ns) (hlen : len ≤ 1048576) (hs : ∀ k, k < len → (nd ns k).data.length ≤ 4611686018427387904 ∧ (nd ns k).list.length ≤ 4611686018427387904) :
    Calls Try.prog 20 #[.slice a len c1, .slice b len c2] w fun e w' => e = .returned (.bool true) ∧ Below w.heap.size w w' := by
  have HA := hide hA
  have HB := hide hB
  have HS := hide hs
  clear hA hB hs
  go_enter Try.func20, Try.ntmps20
  go_wp2
  go_loopw [5] (fun i wr => ∃ k : Nat, k ≤ len ∧ i = .int .i64 k ∧ Hid (Below w.heap.size w wr)) (fun i _ => len - (intOf i).toNat)
  case atStart => exact ⟨0, Nat.zero_le _, rfl, Below.refl _ _⟩
  case round =>
    obtain ⟨k, hk, rfl, hnx⟩ := hrel
    by_cases hlt : k < len
    · have hlt' : (k : Int) < (len : Int) := by omega
      obtain ⟨G, g, rfl, hG, hcs⟩ : ∃ b off, a = some ⟨b, off, none⟩ ∧ b < w.heap.size ∧ ∀ i, i < len → Nx w b (off + i * 10) (nd ns i) := by
        rcases (unhide HA).cells with h | h
        · omega
        · exact h
      obtain ⟨F, f, rfl, hF, hcs2⟩ : ∃ b' off, b = some ⟨b', off, none⟩ ∧ b' < w.heap.size ∧ ∀ i, i < len → Nx w b' (off + i * 10) (nd ns i) := by
        rcases (unhide HB).cells with h | h
        · omega
        · exact h
      obtain ⟨hs1, hs2⟩ := unhide HS k hlt
      obtain ⟨da, dc, la, lc, h10, hD1, hL1⟩ := hcs k hlt
      obtain ⟨db, dc2, lb, lc2, i10, hD2, hL2⟩ := hcs2 k hlt
      generalize nd ns k = m at *
      have hnd : Below w.heap.size w wr.drew := below_drew9 (unhide hnx)
      have HT := hide (sameN_yes m da db la lb dc dc2 lc lc2 wr.drew (hD1.below hnd) (hD2.below hnd) (hL1.below hnd) (hL2.below hnd) hs1 hs2)
      obtain ⟨kd, md, us, gr, lk, ti, dt, tg, ls, pa⟩ := m
      simp only at h10 i10 HT
      generalize dt.length = D at *
      generalize ls.length = L at *
      have HC : Hid (∀ V, Below w.heap.size w V → (V.cell? ⟨G, g + k * 10, none⟩ = some (.int .u8 kd.toNat) ∧ V.cell? ⟨G, g + k * 10 + 1, none⟩ = some (.int .i64 md) ∧ V.cell? ⟨G, g + k * 10 + 2, none⟩ = some (.int .i64 us) ∧ V.cell? ⟨G, g + k * 10 + 3, none⟩ = some (.int .i64 gr) ∧ V.cell? ⟨G, g + k * 10 + 4, none⟩ = some (.int .i64 lk) ∧ V.cell? ⟨G, g + k * 10 + 5, none⟩ = some (.int .i64 ti) ∧ V.cell? ⟨G, g + k * 10 + 6, none⟩ = some (.slice da D dc) ∧ V.cell? ⟨G, g + k * 10 + 7, none⟩ = some (.string tg) ∧ V.cell? ⟨G, g + k * 10 + 8, none⟩ = some (.slice la L lc) ∧ V.cell? ⟨G, g + k * 10 + 9, none⟩ = some (.int .i64 pa) ∧ V.cell? ⟨F, f + k * 10, none⟩ = some (.int .u8 kd.toNat) ∧ V.cell? ⟨F, f + k * 10 + 1, none⟩ = some (.int .i64 md) ∧ V.cell? ⟨F, f + k * 10 + 2, none⟩ = some (.int .i64 us) ∧ V.cell? ⟨F, f + k * 10 + 3, none⟩ = some (.int .i64 gr) ∧ V.cell? ⟨F, f + k * 10 + 4, none⟩ = some (.int .i64 lk) ∧ V.cell? ⟨F, f + k * 10 + 5, none⟩ = some (.int .i64 ti) ∧ V.cell? ⟨F, f + k * 10 + 6, none⟩ = some (.slice db D dc2) ∧ V.cell? ⟨F, f + k * 10 + 7, none⟩ = some (.string tg) ∧ V.cell? ⟨F, f + k * 10 + 8, none⟩ = some (.slice lb L lc2) ∧ V.cell? ⟨F, f + k * 10 + 9, none⟩ = some (.int .i64 pa))) := fun V hV => by
        have a := h10.of fun o => hV.cell (p := ⟨G, o, none⟩) hG
        have c := i10.of fun o => hV.cell (p := ⟨F, o, none⟩) hF
        exact ⟨a.c0, a.c1, a.c2, a.c3, a.c4, a.c5, a.c6, a.c7, a.c8, a.c9, c.c0, c.c1, c.c2, c.c3, c.c4, c.c5, c.c6, c.c7, c.c8, c.c9⟩
      have HND := hide hnd
      have hS1 := unhide HC _ hnd
      have hGr : G < wr.heap.size := Nat.lt_of_lt_of_le hG (unhide hnx).size
      have hFr : F < wr.heap.size := Nat.lt_of_lt_of_le hF (unhide hnx).size
      clear h10 i10 hnd hD1 hD2 hL1 hL2 hcs hcs2 hs1 hs2
      unfold nA at HT
      simp only at HT
      go_wp2_with fail
      go_region_held3 (fun w' => w'.cell? ⟨G, g + k * 10, none⟩ = some (.int .u8 kd.toNat) ∧ w'.cell? ⟨G, g + k * 10 + 1, none⟩ = some (.int .i64 md) ∧ w'.cell? ⟨G, g + k * 10 + 2, none⟩ = some (.int .i64 us) ∧ w'.cell? ⟨G, g + k * 10 + 3, none⟩ = some (.int .i64 gr) ∧ w'.cell? ⟨G, g + k * 10 + 4, none⟩ = some (.int .i64 lk) ∧ w'.cell? ⟨G, g + k * 10 + 5, none⟩ = some (.int .i64 ti) ∧ w'.cell? ⟨G, g + k * 10 + 6, none⟩ = some (.slice da D dc) ∧ w'.cell? ⟨G, g + k * 10 + 7, none⟩ = some (.string tg) ∧ w'.cell? ⟨G, g + k * 10 + 8, none⟩ = some (.slice la L lc) ∧ w'.cell? ⟨G, g + k * 10 + 9, none⟩ = some (.int .i64 pa) ∧ w'.cell? ⟨F, f + k * 10, none⟩ = some (.int .u8 kd.toNat) ∧ w'.cell? ⟨F, f + k * 10 + 1, none⟩ = some (.int .i64 md) ∧ w'.cell? ⟨F, f + k * 10 + 2, none⟩ = some (.int .i64 us) ∧ w'.cell? ⟨F, f + k * 10 + 3, none⟩ = some (.int .i64 gr) ∧ w'.cell? ⟨F, f + k * 10 + 4, none⟩ = some (.int .i64 lk) ∧ w'.cell? ⟨F, f + k * 10 + 5, none⟩ = some (.int .i64 ti) ∧ w'.cell? ⟨F, f + k * 10 + 6, none⟩ = some (.slice db D dc2) ∧ w'.cell? ⟨F, f + k * 10 + 7, none⟩ = some (.string tg) ∧ w'.cell? ⟨F, f + k * 10 + 8, none⟩ = some (.slice lb L lc2) ∧ w'.cell? ⟨F, f + k * 10 + 9, none⟩ = some (.int .i64 pa)) (with_reducible assumption)
        (first | ((with_reducible refine (unhide HT).mono ?_); rintro e w2 ⟨rfl, b2⟩; have hB2 := hide ((unhide HND).trans (b2.mono (unhide HND).size)); have hS2 := unhide HC _ (unhide hB2); clear b2) | fail)
      clear HT hS1 hS2 HC HND hnx
      go_wp2
      go_roundw
      case rel => exact ⟨k + 1, by omega, by go_num, hB2⟩
      case measure => simp [intOf]; omega
    · have e : k = len := by omega
      subst e
      go_wp2
      go_ret
      exact ⟨rfl, unhide hnx⟩
set_option maxRecDepth 100000 in
set_option maxHeartbeats 400000 in
theorem sameT_yes (a b : Option Addr) (len c1 c2 : Nat) (now : Int) (ns : List Nd) (w : World) (hA : Ng w a len c1 ns) (hB : Ng w b len c2 ns) (hlen : len ≤ 1048576) (hs : ∀ k, k < len → (nd ns k).data.length ≤ 4611686018427387904 ∧ (nd ns k).list.length ≤ 4611686018427387904) :
    Calls Try.prog 9 #[.agg #[.slice a len c1, .int .i64 now], .agg #[.slice b len c2, .int .i64 now]] w fun e w' => e = .returned (.bool true) ∧ Below w.heap.size w w' := by
  have HB : Hid (∀ W, Below w.heap.size w W → Calls Try.prog 20 #[.slice a len c1, .slice b len c2] W fun e w' => e = .returned (.bool true) ∧ Below W.heap.size W w') := fun W hW => sameNs_yes a b len c1 c2 ns W (hA.below hW) (hB.below hW) hlen hs
  clear hA hB hs
  go_enter Try.func9, Try.ntmps9
  go_wp2_with fail
  obtain ⟨W, hWe⟩ : ∃ W, W = (w.alloc (.cells #[.slice a len c1, .int .i64 now] 24)).alloc (.cells #[.slice b len c2, .int .i64 now] 24) := ⟨_, rfl⟩
  obtain ⟨b1, n1, n2, z1⟩ : Below w.heap.size w W ∧ W.heap[w.heap.size]? = some (.cells #[.slice a len c1, .int .i64 now] 24) ∧ W.heap[w.heap.size + 1]? = some (.cells #[.slice b len c2, .int .i64 now] 24) ∧ w.heap.size + 1 < W.heap.size := by
    rw [hWe]; exact two_new9 w _ _
  rw [← hWe]
  clear hWe
  refine (unhide HB W b1).mono ?_
  rintro e w3 ⟨rfl, b3⟩
  have m1 := (b3.block w.heap.size (by omega)).trans n1
  have m2 := (b3.block (w.heap.size + 1) (by omega)).trans n2
  have c1' : w3.cell? ⟨w.heap.size, 1, none⟩ = some (.int .i64 now) := by rw [cell_of_row _ _ _ _ _ _ m1]; rfl
  have c2' : w3.cell? ⟨w.heap.size + 1, 1, none⟩ = some (.int .i64 now) := by rw [cell_of_row _ _ _ _ _ _ m2]; rfl
  have B13 := hide (b1.trans (b3.mono b1.size))
  clear n1 n2 m1 m2 b3 b1 HB
  go_wp2
  go_ret
  exact ⟨rfl, unhide B13⟩
end Go.Proofs.Ytbofidpoajdcmab.Cd
