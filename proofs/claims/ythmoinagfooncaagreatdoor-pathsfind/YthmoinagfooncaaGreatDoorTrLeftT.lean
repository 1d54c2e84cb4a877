/- What LeftNodes and LeftTree answer. -/
import Derived.Test.YthmoinagfooncaaGreatDoorTrLeftN
import Derived.Deep.RegionHeld3
namespace Go.Proofs.YthmoinagfooncaaGreatDoor.Tr
open Go.RowKit Go.Proofs.YthmoinagfooncaaGreatDoor.Cu

theorem Tw.below {w w' : World} {G : Nat} {acc : List Nv} (h : Tw w G acc) (hb : Below w.heap.size w w') : Tw w' G acc :=
  ⟨fun i hi => (h.rows i hi).of fun _ => hb.cell h.lt, h.mark.of fun _ => hb.cell h.lt, fun x hx => (h.tx x hx).keep hb.size fun k _ hk => hb.block k hk, Nat.lt_of_lt_of_le h.lt hb.size, fun o => by
    have := h.fz o
    simp only [World.frozen?, hb.block _ h.lt] at this ⊢
    exact this⟩
set_option maxRecDepth 100000 in
set_option maxHeartbeats 1000000 in
theorem leftNodes_some (G b off len cap : Nat) (acc : List Nv) (ns : List Nd) (w : World) (h : ∀ i, i < len → Nx w b (off + i * 10) (nd ns i)) (hb : b < w.heap.size) (hl : ns.length = len) (hm : acc.map (·.1) = ns) (ht : Tw w G acc) (hlen : len ≤ 1048576) (hsm : ∀ i, (nd ns i).data.length ≤ 1048576 ∧ (nd ns i).list.length ≤ 1048576) (hp : 0 < len) :
    Calls Tryz.prog 22 #[.slice (some ⟨G, 0, none⟩) len (len + 1), .slice (some ⟨b, off, none⟩) len cap] w fun e w' => e = .returned (.bool true) ∧ Below w.heap.size w w' := by
  have hal : acc.length = len := by rw [← hl, ← hm]; simp
  have hG := ht.lt
  have HM : Hid (∀ k, k < len → ∃ g1 g2, N10 w G (k * 10) (nd ns k) (.slice (some ⟨g1, 0, none⟩) (nd ns k).data.length ((nd ns k).data.length + 1)) (.slice (some ⟨g2, 0, none⟩) (nd ns k).list.length ((nd ns k).list.length + 1)) ∧ TwB w g1 (nd ns k).data ∧ TwE w g2 (nd ns k).list ∧ g1 < w.heap.size ∧ g2 < w.heap.size) := by
    intro k hk
    have hk' : k < acc.length := by omega
    have hx : acc.getD k zNv ∈ acc := by simp [List.getD, List.getElem?_eq_getElem hk']
    obtain ⟨g1, g2, e1, e2, a1, a2, _, a3, _, a4⟩ := ht.tx _ hx
    have h10 := ht.rows k hk'
    rw [e1, e2] at h10
    rw [← hm, nd_map acc k hk']
    exact ⟨g1, g2, h10, a1, a2, a3, a4⟩
  have hmk := ht.mark
  rw [hal] at hmk
  have HMK := hide hmk
  have HC := hide h
  have HSM := hide hsm
  clear h hm ht hl hsm hmk hal
  go_enter Tryz.func22, Tryz.ntmps22
  go_wp2
  go_loopw [5] (fun i wr => ∃ k : Nat, k ≤ len ∧ i = .int .i64 k ∧ Below w.heap.size w wr) (fun i _ => len - (intOf i).toNat)
  case atStart => exact ⟨0, Nat.zero_le _, rfl, Below.refl _ _⟩
  case round =>
    obtain ⟨k, hk, rfl, hnx⟩ := hrel
    have hsz := hnx.size
    by_cases hlt : k < len
    · have hlt' : (k : Int) < (len : Int) := by omega
      have hnd : Below w.heap.size w wr.drew := ⟨hnx.os, hnx.tape, hnx.output, hnx.size, hnx.block⟩
      have hNX := hide (unhide HC k hlt)
      obtain ⟨da, dc, la, lc, h10, hby, heg⟩ := unhide HC k hlt
      obtain ⟨g1, g2, i10, t1, t2, q1, q2⟩ := unhide HM k hlt
      have hsm := unhide HSM k
      obtain ⟨m, hm⟩ : ∃ m, m = nd ns k := ⟨_, rfl⟩
      rw [← hm] at h10 hby heg hsm i10 t1 t2
      obtain ⟨dl, hdl⟩ : ∃ dl, m.data.length = dl := ⟨_, rfl⟩
      obtain ⟨ll, hll⟩ : ∃ ll, m.list.length = ll := ⟨_, rfl⟩
      rw [hdl, hll] at h10 hsm i10
      rw [hdl] at hby
      rw [hll] at heg
      have HT := hide (leftNode_any m g1 g2 da dl dc la ll lc wr.drew hdl hll (hby.below hnd) (heg.below hnd) hsm.1 hsm.2 (t1.below q1 hnd) (t2.below q2 hnd) (Nat.lt_of_lt_of_le q1 hnd.size) (Nat.lt_of_lt_of_le q2 hnd.size))
      obtain ⟨kd, md, us, gr, lk, ti, dt, tg, ls, pa⟩ := m
      have HS : Hid (∀ V, Below w.heap.size w V → (V.cell? ⟨G, k * 10, none⟩ = some (.int .u8 kd.toNat) ∧ V.cell? ⟨G, k * 10 + 1, none⟩ = some (.int .i64 md) ∧ V.cell? ⟨G, k * 10 + 2, none⟩ = some (.int .i64 us) ∧ V.cell? ⟨G, k * 10 + 3, none⟩ = some (.int .i64 gr) ∧ V.cell? ⟨G, k * 10 + 4, none⟩ = some (.int .i64 lk) ∧ V.cell? ⟨G, k * 10 + 5, none⟩ = some (.int .i64 ti) ∧ V.cell? ⟨G, k * 10 + 6, none⟩ = some (.slice (some ⟨g1, 0, none⟩) dl (dl + 1)) ∧ V.cell? ⟨G, k * 10 + 7, none⟩ = some (.string tg) ∧ V.cell? ⟨G, k * 10 + 8, none⟩ = some (.slice (some ⟨g2, 0, none⟩) ll (ll + 1)) ∧ V.cell? ⟨G, k * 10 + 9, none⟩ = some (.int .i64 pa) ∧ V.cell? ⟨b, off + k * 10, none⟩ = some (.int .u8 kd.toNat) ∧ V.cell? ⟨b, off + k * 10 + 1, none⟩ = some (.int .i64 md) ∧ V.cell? ⟨b, off + k * 10 + 2, none⟩ = some (.int .i64 us) ∧ V.cell? ⟨b, off + k * 10 + 3, none⟩ = some (.int .i64 gr) ∧ V.cell? ⟨b, off + k * 10 + 4, none⟩ = some (.int .i64 lk) ∧ V.cell? ⟨b, off + k * 10 + 5, none⟩ = some (.int .i64 ti) ∧ V.cell? ⟨b, off + k * 10 + 6, none⟩ = some (.slice da dl dc) ∧ V.cell? ⟨b, off + k * 10 + 7, none⟩ = some (.string tg) ∧ V.cell? ⟨b, off + k * 10 + 8, none⟩ = some (.slice la ll lc) ∧ V.cell? ⟨b, off + k * 10 + 9, none⟩ = some (.int .i64 pa))) := fun V hV => by
        have a := i10.of fun o => hV.cell (p := ⟨G, o, none⟩) hG
        have c := h10.of fun o => hV.cell (p := ⟨b, o, none⟩) hb
        exact ⟨a.c0, a.c1, a.c2, a.c3, a.c4, a.c5, a.c6, a.c7, a.c8, a.c9, c.c0, c.c1, c.c2, c.c3, c.c4, c.c5, c.c6, c.c7, c.c8, c.c9⟩
      have HND := hide hnd
      have hS1 := unhide HS _ hnd
      clear h10 i10 hby heg hm hdl hll t1 t2 q1 q2 hsm hNX hnd
      unfold na at HT
      simp only at HT
      go_wp2_with fail
      go_region_held3 (fun w' => w'.cell? ⟨G, k * 10, none⟩ = some (.int .u8 kd.toNat) ∧ w'.cell? ⟨G, k * 10 + 1, none⟩ = some (.int .i64 md) ∧ w'.cell? ⟨G, k * 10 + 2, none⟩ = some (.int .i64 us) ∧ w'.cell? ⟨G, k * 10 + 3, none⟩ = some (.int .i64 gr) ∧ w'.cell? ⟨G, k * 10 + 4, none⟩ = some (.int .i64 lk) ∧ w'.cell? ⟨G, k * 10 + 5, none⟩ = some (.int .i64 ti) ∧ w'.cell? ⟨G, k * 10 + 6, none⟩ = some (.slice (some ⟨g1, 0, none⟩) dl (dl + 1)) ∧ w'.cell? ⟨G, k * 10 + 7, none⟩ = some (.string tg) ∧ w'.cell? ⟨G, k * 10 + 8, none⟩ = some (.slice (some ⟨g2, 0, none⟩) ll (ll + 1)) ∧ w'.cell? ⟨G, k * 10 + 9, none⟩ = some (.int .i64 pa) ∧ w'.cell? ⟨b, off + k * 10, none⟩ = some (.int .u8 kd.toNat) ∧ w'.cell? ⟨b, off + k * 10 + 1, none⟩ = some (.int .i64 md) ∧ w'.cell? ⟨b, off + k * 10 + 2, none⟩ = some (.int .i64 us) ∧ w'.cell? ⟨b, off + k * 10 + 3, none⟩ = some (.int .i64 gr) ∧ w'.cell? ⟨b, off + k * 10 + 4, none⟩ = some (.int .i64 lk) ∧ w'.cell? ⟨b, off + k * 10 + 5, none⟩ = some (.int .i64 ti) ∧ w'.cell? ⟨b, off + k * 10 + 6, none⟩ = some (.slice da dl dc) ∧ w'.cell? ⟨b, off + k * 10 + 7, none⟩ = some (.string tg) ∧ w'.cell? ⟨b, off + k * 10 + 8, none⟩ = some (.slice la ll lc) ∧ w'.cell? ⟨b, off + k * 10 + 9, none⟩ = some (.int .i64 pa)) (with_reducible assumption)
        (first | ((with_reducible refine (unhide HT).mono ?_); rintro e w2 ⟨rfl, b2⟩; have hB2 := hide ((unhide HND).trans (b2.mono (unhide HND).size)); have hS2 := unhide HS _ (unhide hB2); clear b2) | fail)
      clear HT hS1 hS2 HS HND hnx
      go_wp2
      go_roundw
      case rel => exact ⟨k + 1, by omega, by go_num, unhide hB2⟩
      case measure => simp [intOf]; omega
    · have e : k = len := by omega
      subst e
      have hd := (unhide HMK).of fun o => hnx.cell (p := ⟨G, o, none⟩) hG
      have d0 := hd.c0
      have d1 := hd.c1
      have d2 := hd.c2
      have d3 := hd.c3
      have d4 := hd.c4
      have d5 := hd.c5
      have d6 := hd.c6
      have d7 := hd.c7
      have d8 := hd.c8
      have d9 := hd.c9
      clear hd
      go_wp2
      go_ret
      exact ⟨rfl, by repeat (first | exact hnx | apply Below.setCell | apply Below.alloc | simpa using hsz)⟩
set_option maxHeartbeats 400000 in
set_option maxRecDepth 100000 in
theorem leftNodes_none (G cap : Nat) (a : Option Addr) (w : World) (ht : Tw w G []) :
    Calls Tryz.prog 22 #[.slice (some ⟨G, 0, none⟩) 0 1, .slice a 0 cap] w fun e w' => e = .returned (.bool true) ∧ Below w.heap.size w w' := by
  have hd := ht.mark
  have d0 := hd.c0
  have d1 := hd.c1
  have d2 := hd.c2
  have d3 := hd.c3
  have d4 := hd.c4
  have d5 := hd.c5
  have d6 := hd.c6
  have d7 := hd.c7
  have d8 := hd.c8
  have d9 := hd.c9
  simp only [List.length_nil, Nat.zero_mul, Nat.zero_add] at d0 d1 d2 d3 d4 d5 d6 d7 d8 d9
  clear hd ht
  go_enter Tryz.func22, Tryz.ntmps22
  go_wp2
  refine wp_loop_rounds 1 ?_
  rw [rounds_succ]
  go_wp2
  go_ret
  exact ⟨rfl, by repeat (first | exact Below.refl _ _ | apply Below.setCell | apply Below.alloc | simp)⟩
theorem leftNodes_any (G : Nat) (a : Option Addr) (len cap c' : Nat) (acc : List Nv) (ns : List Nd) (w : World) (h : Ng w a len c' ns) (hm : acc.map (·.1) = ns) (ht : Tw w G acc) (hlen : len ≤ 1048576) (hsm : ∀ i, (nd ns i).data.length ≤ 1048576 ∧ (nd ns i).list.length ≤ 1048576) :
    Calls Tryz.prog 22 #[.slice (some ⟨G, 0, none⟩) len (len + 1), .slice a len cap] w fun e w' => e = .returned (.bool true) ∧ Below w.heap.size w w' := by
  by_cases h0 : len = 0
  · subst h0
    obtain rfl : ns = [] := List.eq_nil_of_length_eq_zero h.len
    obtain rfl : acc = [] := by simpa using hm
    exact leftNodes_none G cap a w ht
  · rcases h.cells with h1 | ⟨b, off, rfl, hb, hc⟩
    · exact absurd h1 h0
    · exact leftNodes_some G b off len cap acc ns w hc hb h.len hm ht hlen hsm (by omega)
set_option maxRecDepth 100000 in
set_option maxHeartbeats 400000 in
theorem leftTree_any (G : Nat) (a : Option Addr) (len cap c' : Nat) (now : Int) (acc : List Nv) (ns : List Nd) (w : World) (h : Ng w a len c' ns) (hm : acc.map (·.1) = ns) (ht : Tw w G acc) (hlen : len ≤ 1048576) (hsm : ∀ i, (nd ns i).data.length ≤ 1048576 ∧ (nd ns i).list.length ≤ 1048576) :
    Calls Tryz.prog 9 #[.agg #[.slice (some ⟨G, 0, none⟩) len (len + 1), .int .i64 now], .agg #[.slice a len cap, .int .i64 now]] w fun e w' => e = .returned (.bool true) ∧ Below w.heap.size w w' := by
  have HB : Hid (∀ W, Below w.heap.size w W → Calls Tryz.prog 22 #[.slice (some ⟨G, 0, none⟩) len (len + 1), .slice a len cap] W fun e w' => e = .returned (.bool true) ∧ Below W.heap.size W w') := fun W hW => leftNodes_any G a len cap c' acc ns W (h.below hW) hm (ht.below hW) hlen hsm
  clear h hm ht hsm
  go_enter Tryz.func9, Tryz.ntmps9
  go_wp2_with fail
  obtain ⟨W, hWe⟩ : ∃ W, W = (w.alloc (.cells #[.slice (some ⟨G, 0, none⟩) len (len + 1), .int .i64 now] 24)).alloc (.cells #[.slice a len cap, .int .i64 now] 24) := ⟨_, rfl⟩
  obtain ⟨b1, n1, n2, z1⟩ : Below w.heap.size w W ∧ W.heap[w.heap.size]? = some (.cells #[.slice (some ⟨G, 0, none⟩) len (len + 1), .int .i64 now] 24) ∧ W.heap[w.heap.size + 1]? = some (.cells #[.slice a len cap, .int .i64 now] 24) ∧ w.heap.size + 1 < W.heap.size := by
    rw [hWe]; exact two_new w _ _
  rw [← hWe]
  clear hWe
  refine (unhide HB W b1).mono ?_
  rintro e w3 ⟨rfl, b3⟩
  have m1 := (b3.block w.heap.size (by omega)).trans n1
  have m2 := (b3.block (w.heap.size + 1) (by omega)).trans n2
  have c1 : w3.cell? ⟨w.heap.size, 1, none⟩ = some (.int .i64 now) := by rw [cell_of_row _ _ _ _ _ _ m1]; rfl
  have c2 : w3.cell? ⟨w.heap.size + 1, 1, none⟩ = some (.int .i64 now) := by rw [cell_of_row _ _ _ _ _ _ m2]; rfl
  have B13 := hide (b1.trans (b3.mono b1.size))
  clear n1 n2 m1 m2 b3 b1 HB
  go_wp2
  go_ret
  exact ⟨rfl, unhide B13⟩
end Go.Proofs.YthmoinagfooncaaGreatDoor.Tr
