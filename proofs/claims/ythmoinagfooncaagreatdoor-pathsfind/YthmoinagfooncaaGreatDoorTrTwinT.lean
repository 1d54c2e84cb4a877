/- What TwinNodes and TwinTree answer. -/
import Derived.Test.YthmoinagfooncaaGreatDoorTrTwinN
import Derived.Test.YthmoinagfooncaaGreatDoorTrNew
namespace Go.Proofs.YthmoinagfooncaaGreatDoor.Tr
open Go.RowKit Go.Proofs.YthmoinagfooncaaGreatDoor.Cu

abbrev mkN : Nd := ⟨0, 77, 0, 0, 0, 0, [], ⟨#[]⟩, [], 0⟩
/-- what a copied node holds, apart from the row G -/
def Tx (w : World) (G : Nat) (x : Nv) : Prop := ∃ g1 g2, x.2.1 = .slice (some ⟨g1, 0, none⟩) x.1.data.length (x.1.data.length + 1) ∧ x.2.2 = .slice (some ⟨g2, 0, none⟩) x.1.list.length (x.1.list.length + 1) ∧ TwB w g1 x.1.data ∧ TwE w g2 x.1.list ∧ G < g1 ∧ g1 < w.heap.size ∧ G < g2 ∧ g2 < w.heap.size
theorem Tx.keep {w w' : World} {G : Nat} {x : Nv} (h : Tx w G x) (hs : w.heap.size ≤ w'.heap.size) (hb : ∀ k, G < k → k < w.heap.size → w'.heap[k]? = w.heap[k]?) : Tx w' G x := by
  obtain ⟨g1, g2, h1, h2, h3, h4, h5, h6, h7, h8⟩ := h
  have c1 : ∀ o, w'.cell? ⟨g1, o, none⟩ = w.cell? ⟨g1, o, none⟩ := fun o => World.cell?_of_block (a := ⟨g1, o, none⟩) (hb g1 h5 h6)
  have c2 : ∀ o, w'.cell? ⟨g2, o, none⟩ = w.cell? ⟨g2, o, none⟩ := fun o => World.cell?_of_block (a := ⟨g2, o, none⟩) (hb g2 h7 h8)
  exact ⟨g1, g2, h1, h2, ⟨fun i hi => (c1 _).trans (h3.1 i hi), (c1 _).trans h3.2⟩, ⟨fun i hi => (h4.1 i hi).of c2, h4.2.of c2⟩, h5, by omega, h7, by omega⟩
theorem Tx.ox {w : World} {G : Nat} {x : Nv} (h : Tx w G x) : Ox w x := by
  obtain ⟨g1, g2, h1, h2, h3, h4, h5, h6, h7, h8⟩ := h
  exact ⟨_, _, _, _, h1, h2, h3.bytes h6, h4.ents h8⟩
/-- a copy of nodes in the row G -/
structure Tw (w : World) (G : Nat) (acc : List Nv) : Prop where
  rows : ∀ i, i < acc.length → N10 w G (i * 10) (acc.getD i zNv).1 (acc.getD i zNv).2.1 (acc.getD i zNv).2.2
  mark : N10 w G (acc.length * 10) mkN (.slice none 0 0) (.slice none 0 0)
  tx : ∀ x ∈ acc, Tx w G x
  lt : G < w.heap.size
  fz : ∀ o, w.frozen? ⟨G, o, none⟩ = false
theorem Tw.ng {w : World} {G : Nat} {acc : List Nv} (h : Tw w G acc) : Ng w (some ⟨G, 0, none⟩) acc.length (acc.length + 1) (acc.map (·.1)) := by
  refine ⟨by simp, by omega, by simp, .inr ⟨G, 0, rfl, h.lt, fun i hi => ?_⟩⟩
  rw [nd_map acc i hi, Nat.zero_add]
  have h10 := h.rows i hi
  have hm : acc.getD i zNv ∈ acc := by simp [List.getD, List.getElem?_eq_getElem hi]
  obtain ⟨da, dc, la, lc, h1, h2, h3, h4⟩ := (h.tx _ hm).ox
  rw [h1, h2] at h10
  exact ⟨da, dc, la, lc, h10, h3, h4⟩
theorem node_new (w : World) (n : Nd) (d l : Value) (t : TypeId) : ∀ j u, (nc n d l)[j]? = some u → (w.alloc (.cells (nc n d l).toArray t)).cell? ((⟨w.heap.size, 0, none⟩ : Addr).add j) = some u := by
  intro j u hj
  rw [add_none, cell_of_row _ _ _ _ _ _ (heap_alloc_new w _), Nat.zero_add]
  simpa using hj
theorem node_one (n : Nd) (a b : Option Addr) (x y x' y' : Nat) : ∀ u ∈ nc n (.slice a x x') (.slice b y y'), u.oneCell' = true := by
  intro u hu
  simp only [nc, List.mem_cons, List.not_mem_nil, or_false] at hu
  rcases hu with rfl | rfl | rfl | rfl | rfl | rfl | rfl | rfl | rfl | rfl <;> rfl
set_option maxHeartbeats 2000000 in
set_option maxRecDepth 100000 in
theorem twinNodes_any (b off len cap : Nat) (ns : List Nd) (w : World) (h : ∀ i, i < len → Nx w b (off + i * 10) (nd ns i)) (hb : b < w.heap.size) (hl : ns.length = len) (hlen : len ≤ 1048576) (hsm : ∀ i, (nd ns i).data.length ≤ 1048576 ∧ (nd ns i).list.length ≤ 1048576) :
    Calls Tryz.prog 15 #[.slice (some ⟨b, off, none⟩) len cap] w fun e w' => (∃ acc : List Nv, e = .returned (.slice (some ⟨w.heap.size, 0, none⟩) len (len + 1)) ∧ acc.map (·.1) = ns ∧ Tw w' w.heap.size acc) ∧ Below w.heap.size w w' := by
  obtain ⟨i0, hi, hz0, hz1, hz2⟩ := info_parts Tryz.infoNode
  have HC := hide h
  have HL := hide hl
  have HSM := hide hsm
  clear h hl hsm
  go_enter Tryz.func15, Tryz.ntmps15
  go_wp2_with (at_make; refine wpList_make_own _ rfl _ _ 22 rfl w.heap.size 48 i0 _ 10 Tryz.underlying22 hi hz0 hz1 _ _ _ (len + 1) rfl rfl (by omega) (by rw [hz2]; omega) (by unfold maxLen; omega) (Nat.le_refl _) ?_; intro w1 hown1 hgrow1)
  have hb1 : Below w.heap.size w w1 := (Below.refl _ _).grown hgrow1 (Nat.le_refl _) (by simp)
  have hs1 : w.heap.size < w1.heap.size := (hown1.lt _ rfl).2
  clear hgrow1
  go_loopw [3, 4] (fun v i wr => ∃ (k : Nat) (acc : List Nv), k ≤ len ∧ i = .int .i64 k ∧ v = .slice (some ⟨w.heap.size, 0, none⟩) k (len + 1) ∧ acc.length = k ∧ Hid (acc.map (·.1) = ns.take k) ∧
      Hid (wr.ownsRow w.heap.size 48 10 (.slice (some ⟨w.heap.size, 0, none⟩) k (len + 1)) k (cellsOf acc)) ∧ Hid (∀ x ∈ acc, Tx wr w.heap.size x) ∧ Hid (Below w.heap.size w wr)) (fun _ i _ => len - (intOf i).toNat)
  case atStart => exact ⟨0, [], Nat.zero_le _, rfl, rfl, rfl, rfl, hown1, fun x hx => by simp at hx, hb1⟩
  case round =>
    clear hown1 hb1 hs1
    obtain ⟨k, acc, hk, rfl, rfl, hal, hmap, hown, htx, hnx⟩ := hrel
    have hsz := (unhide hnx).size
    have hlt0 := ((unhide hown).lt _ rfl).2
    by_cases hlt : k < len
    · obtain ⟨da, dc, la, lc, h10, hby, heg⟩ := (unhide HC k hlt).below hb (unhide hnx)
      have hsm := unhide HSM k
      have hmk : Hid (ns.take (k + 1) = ns.take k ++ [nd ns k]) := take_nd ns k (by rw [unhide HL]; exact hlt)
      obtain ⟨m, hm⟩ : ∃ m, m = nd ns k := ⟨_, rfl⟩
      rw [← hm] at h10 hby heg hsm hmk
      obtain ⟨dl, hdl⟩ : ∃ dl, m.data.length = dl := ⟨_, rfl⟩
      obtain ⟨ll, hll⟩ : ∃ ll, m.list.length = ll := ⟨_, rfl⟩
      rw [hdl, hll] at h10 hsm
      rw [hdl] at hby
      rw [hll] at heg
      have HT := hide (twinNode_any m da dl dc la ll lc wr hdl hll hby heg hsm.1 hsm.2)
      have HDL := hide hdl
      have HLL := hide hll
      have c0 := h10.c0
      have c1 := h10.c1
      have c2 := h10.c2
      have c3 := h10.c3
      have c4 := h10.c4
      have c5 := h10.c5
      have c6 := h10.c6
      have c7 := h10.c7
      have c8 := h10.c8
      have c9 := h10.c9
      clear h10 hby heg hm hdl hll
      obtain ⟨kd, md, us, gr, lk, ti, dt, tg, ls, pa⟩ := m
      unfold na at HT
      simp only at c0 c1 c2 c3 c4 c5 c6 c7 c8 c9 HT HDL HLL
      go_wp2_with fail
      refine (unhide HT).mono ?_
      rintro e w2 ⟨⟨g1, g2, rfl, t1, t2, q1, q2, q3, q4⟩, b2⟩
      have hown2 : Hid (w2.ownsRow w.heap.size 48 10 (.slice (some ⟨w.heap.size, 0, none⟩) k (len + 1)) k (cellsOf acc)) :=
        (unhide hown).kept (row := none) ⟨b2.os, b2.tape, b2.output, b2.size, fun k hk _ => b2.block k hk⟩ (by simp [Value.ownBlock])
      have hB2 : Hid (Below w.heap.size w w2) := (unhide hnx).trans (b2.mono hsz)
      have htx2 : Hid (∀ x ∈ acc ++ [((⟨kd, md, us, gr, lk, ti, dt, tg, ls, pa⟩ : Nd), Value.slice (some ⟨g1, 0, none⟩) dl (dl + 1), Value.slice (some ⟨g2, 0, none⟩) ll (ll + 1))], Tx w2 w.heap.size x) := by
        intro x hx
        rcases List.mem_append.1 hx with hx | hx
        · exact (unhide htx x hx).keep b2.size fun k _ hk => b2.block k hk
        · obtain rfl : x = _ := by simpa using hx
          have e1 := unhide HDL
          have e2 := unhide HLL
          subst e1 e2
          exact ⟨g1, g2, rfl, rfl, t1, t2, by omega, q2, by omega, q4⟩
      have hsz2 := (unhide hB2).size
      have hlt2 := ((unhide hown2).lt _ rfl).2
      clear b2 t1 t2 q1 q2 q3 q4 HT c0 c1 c2 c3 c4 c5 c6 c7 c8 c9 hown hnx htx
      go_wp2_with (at_builtin; refine wpList_append_fits _ rfl _ _ 22 rfl w.heap.size 48 i0 10 Tryz.underlying22 hi hz1 w.heap.size k (len + 1) _ rfl ((unhide hown2).alloc _) ⟨w2.heap.size, 0, none⟩ 1 1 (nc ⟨kd, md, us, gr, lk, ti, dt, tg, ls, pa⟩ (.slice (some ⟨g1, 0, none⟩) dl (dl + 1)) (.slice (some ⟨g2, 0, none⟩) ll (ll + 1))) rfl rfl (by exact node_new _ ⟨kd, md, us, gr, lk, ti, dt, tg, ls, pa⟩ _ _ _) (node_one _ _ _ _ _ _ _) (by omega) ?_)
      intro w3 hown3 hgrow3
      have hb3 : Hid (Below w.heap.size w w3) := ((unhide hB2).alloc hsz2 _).grown hgrow3 (by simp; omega) (by simp)
      have ho3 : Hid (w3.ownsRow w.heap.size 48 10 (.slice (some ⟨w.heap.size, 0, none⟩) (k + 1) (len + 1)) (k + 1) (cellsOf (acc ++ [((⟨kd, md, us, gr, lk, ti, dt, tg, ls, pa⟩ : Nd), Value.slice (some ⟨g1, 0, none⟩) dl (dl + 1), Value.slice (some ⟨g2, 0, none⟩) ll (ll + 1))]))) := by rw [cellsOf_snoc]; exact hown3
      have ht3 : Hid (∀ x ∈ acc ++ [((⟨kd, md, us, gr, lk, ti, dt, tg, ls, pa⟩ : Nd), Value.slice (some ⟨g1, 0, none⟩) dl (dl + 1), Value.slice (some ⟨g2, 0, none⟩) ll (ll + 1))], Tx w3 w.heap.size x) := fun x hx =>
        (unhide htx2 x hx).keep (Nat.le_trans (by simp) hgrow3.size) fun q h1 h2 => (hgrow3.block q (by simp; omega) (by simp; omega)).trans (Below.heap_alloc _ _ q h2)
      have hm3 : Hid ((acc ++ [((⟨kd, md, us, gr, lk, ti, dt, tg, ls, pa⟩ : Nd), Value.slice (some ⟨g1, 0, none⟩) dl (dl + 1), Value.slice (some ⟨g2, 0, none⟩) ll (ll + 1))]).map (·.1) = ns.take (k + 1)) := by
        rw [List.map_append, unhide hmap, unhide hmk]; exact rfl
      clear hgrow3 hown2 hown3 hB2 htx2
      go_wp2
      go_roundw
      case rel => exact ⟨k + 1, _, by omega, by go_num, rfl, by simp [hal], hm3, ho3, ht3, hb3⟩
      case measure => simp [intOf]; omega
    · have e : k = len := by omega
      subst e
      have ht : ns.take k = ns := List.take_of_length_le (by rw [unhide HL]; omega)
      rw [ht] at hmap
      go_wp2_with (at_builtin; refine wpList_append_fits _ rfl _ _ 22 rfl w.heap.size 48 i0 10 Tryz.underlying22 hi hz1 w.heap.size k (k + 1) _ rfl ((unhide hown).alloc _) ⟨wr.heap.size, 0, none⟩ 1 1 (nc mkN (.slice none 0 0) (.slice none 0 0)) rfl rfl (by exact node_new _ mkN _ _ _) (node_one _ _ _ _ _ _ _) (by omega) ?_)
      intro w2 hown2 hgrow2
      have hb2 : Below w.heap.size w w2 := ((unhide hnx).alloc hsz _).grown hgrow2 (by simp; omega) (by simp)
      have htw : Tw w2 w.heap.size acc := by
        have hl2 := cellsOf_length acc
        refine ⟨fun i hi => ?_, ?_, fun x hx => (unhide htx x hx).keep (Nat.le_trans (by simp) hgrow2.size) fun q h1 h2 => (hgrow2.block q (by simp; omega) (by simp; omega)).trans (Below.heap_alloc _ _ q h2), (hown2.lt _ rfl).2, fun o => ?_⟩
        · exact own_node hown2 i hi (fun j hj => by rw [List.getElem?_append_left (by omega)])
        · refine N10.at fun j u hj => ?_
          have h1 := hown2.cells (g := w.heap.size) rfl (acc.length * 10 + j) u (by rw [List.getElem?_append_right (by omega), hl2, Nat.add_sub_cancel_left]; exact hj)
          rw [add_none, Nat.zero_add] at h1
          exact h1
        · obtain ⟨g, c, cur, hv, _, hg, _⟩ := own_some hown2 (by omega)
          injection hv with h1 _ _
          injection h1 with h1
          injection h1 with h1 _ _
          rw [← h1] at hg
          simp [World.frozen?, hg]
      clear hgrow2 hown2
      have HT := hide htw
      have HB2 := hide hb2
      clear htw hb2
      go_wp2
      go_ret
      exact ⟨⟨acc, rfl, unhide hmap, unhide HT⟩, unhide HB2⟩
end Go.Proofs.YthmoinagfooncaaGreatDoor.Tr
