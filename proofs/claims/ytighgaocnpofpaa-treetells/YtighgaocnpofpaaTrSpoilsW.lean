/- TreeSpoils walked. -/
import Derived.Test.YtighgaocnpofpaaTrSpoilP
import Derived.Test.YtighgaocnpofpaaTrPathsW
import Derived.Test.YtighgaocnpofpaaTrLives
import Derived.Test.YtighgaocnpofpaaTrGreat
namespace Go.Proofs.Ytighgaocnpofpaa.Tr
open Go.RowKit Go.Proofs.Ytighgaocnpofpaa.Cu

abbrev zTree : Array Value := #[.slice none 0 0, .int .i64 0]
structure Tt (w W : World) (N R : Nat) (o : Obj) : Prop where
  below : Below w.heap.size w W
  box : W.heap[N]? = some o
  room : W.heap[R]? = some (.cells zTree 24)
  hN : w.heap.size ≤ N
  hR : N < R
  sz : R < W.heap.size
theorem Tt.step {w W W' : World} {N R : Nat} {o : Obj} (h : Tt w W N R o) (hb : Below W.heap.size W W') : Tt w W' N R o :=
  ⟨h.below.trans (hb.mono h.below.size), (hb.block _ (Nat.lt_trans h.hR h.sz)).trans h.box, (hb.block _ h.sz).trans h.room, h.hN, h.hR, Nat.lt_of_lt_of_le h.sz hb.size⟩
theorem Tt.r {w W : World} {N R : Nat} {o : Obj} (h : Tt w W N R o) : W.cell? ⟨R, 0, none⟩ = some (.slice none 0 0) ∧ W.cell? ⟨R, 1, none⟩ = some (.int .i64 0) ∧ W.frozen? ⟨R, 0, none⟩ = false ∧ W.frozen? ⟨R, 1, none⟩ = false :=
  ⟨by rw [cell_of_row _ _ _ _ _ _ h.room]; rfl, by rw [cell_of_row _ _ _ _ _ _ h.room]; rfl, by simp [World.frozen?, h.room], by simp [World.frozen?, h.room]⟩
theorem set2_other (w' : World) (g P j : Nat) (hne : P ≠ g) (a0 a1 : Value) : ((w'.setCell ⟨g, 0, none⟩ a0).setCell ⟨g, 1, none⟩ a1).heap[P]? = w'.heap[P]? ∧ ((w'.setCell ⟨g, 0, none⟩ a0).setCell ⟨g, 1, none⟩ a1).cell? ⟨P, j, none⟩ = w'.cell? ⟨P, j, none⟩ := by
  have e : ∀ (W : World) (o : Nat) (v : Value), (W.setCell ⟨g, o, none⟩ v).heap[P]? = W.heap[P]? := fun W o v => heap_setCell_other W ⟨g, o, none⟩ P v hne
  have e2 := (e (w'.setCell ⟨g, 0, none⟩ a0) 1 a1).trans (e w' 0 a0)
  exact ⟨e2, World.cell?_of_block (a := ⟨P, j, none⟩) e2⟩
/-- a copy stays where its blocks stay -/
theorem Tw.keep {w w' : World} {G : Nat} {acc : List Nv} (h : Tw w G acc) (hs : w.heap.size ≤ w'.heap.size) (hb : ∀ k, G ≤ k → k < w.heap.size → w'.heap[k]? = w.heap[k]?) : Tw w' G acc := by
  have c : ∀ o, w'.cell? ⟨G, o, none⟩ = w.cell? ⟨G, o, none⟩ := fun o => World.cell?_of_block (a := ⟨G, o, none⟩) (hb G (Nat.le_refl _) h.lt)
  exact ⟨fun i hi => (h.rows i hi).of c, h.mark.of c, fun x hx => (h.tx x hx).keep hs fun k h1 h2 => hb k (by omega) h2, by have := h.lt; omega, fun o => (World.frozen?_of_block (a := ⟨G, o, none⟩) (hb G (Nat.le_refl _) h.lt)).trans (h.fz o)⟩
set_option maxRecDepth 100000 in
set_option maxHeartbeats 1000000 in
theorem twinTree_any (b off n cap : Nat) (ns : List Nd) (now : Int) (w : World) (h : ∀ i, i < n → Nx w b (off + i * 10) (nd ns i)) (hb : b < w.heap.size) (hl : ns.length = n) (hlen : n ≤ 1048576) (hsm : ∀ i, (nd ns i).data.length ≤ 1048576 ∧ (nd ns i).list.length ≤ 1048576) :
    Calls Try.prog 8 #[.agg #[.slice (some ⟨b, off, none⟩) n cap, .int .i64 now]] w fun e w' => (∃ (G : Nat) (acc : List Nv), e = .returned (.agg #[.slice (some ⟨G, 0, none⟩) n (n + 1), .int .i64 now]) ∧ acc.map (·.1) = ns ∧ Tw w' G acc ∧ w.heap.size ≤ G) ∧ Below w.heap.size w w' := by
  have HT : Hid (∀ W, Below w.heap.size w W → Calls Try.prog 28 #[.slice (some ⟨b, off, none⟩) n cap] W fun e w' => (∃ acc : List Nv, e = .returned (.slice (some ⟨W.heap.size, 0, none⟩) n (n + 1)) ∧ acc.map (·.1) = ns ∧ Tw w' W.heap.size acc) ∧ Below W.heap.size W w') := fun W hW => twinNodes_any b off n cap ns W (fun i hi => (h i hi).below hb hW) (Nat.lt_of_lt_of_le hb hW.size) hl hlen hsm
  obtain ⟨N, hNe⟩ : ∃ N, N = w.heap.size := ⟨_, rfl⟩
  obtain ⟨R, hRe⟩ : ∃ R, R = w.heap.size + 1 := ⟨_, rfl⟩
  obtain ⟨o, ho⟩ : ∃ o : Obj, o = .cells #[.slice (some ⟨b, off, none⟩) n cap, .int .i64 now] 24 := ⟨_, rfl⟩
  obtain ⟨W, hWe⟩ : ∃ W, W = (w.alloc o).alloc (.cells zTree 24) := ⟨_, rfl⟩
  have hT : Tt w W N R o := by
    have b1 : Below w.heap.size w (w.alloc o) := (Below.refl _ _).alloc (Nat.le_refl _) _
    have b2 : Below (w.alloc o).heap.size (w.alloc o) W := by rw [hWe]; exact (Below.refl _ _).alloc (Nat.le_refl _) _
    have k1 := heap_alloc_new w o
    have k2 := heap_alloc_new (w.alloc o) (.cells zTree 24)
    rw [World.size_alloc, ← hWe] at k2
    refine ⟨b1.trans (b2.mono (by simp)), by rw [hNe]; exact (b2.block _ (by simp)).trans k1, by rw [hRe]; exact k2, by omega, by omega, by rw [hRe, hWe]; simp⟩
  clear h hsm
  go_enter Try.func8, Try.ntmps8
  go_wp2_with fail
  rw [← ho, ← hWe, ← hRe, ← hNe]
  have hTd : Tt w W.drew N R o := ⟨⟨hT.below.os, hT.below.tape, hT.below.output, hT.below.size, hT.below.block⟩, hT.box, hT.room, hT.hN, hT.hR, hT.sz⟩
  have HS2 : Hid (∀ V, Tt w V N R o → V.cell? ⟨N, 0, none⟩ = some (.slice (some ⟨b, off, none⟩) n cap) ∧ V.cell? ⟨N, 1, none⟩ = some (.int .i64 now)) := fun V h => by
    have := h.box
    rw [ho] at this
    exact ⟨by rw [cell_of_row _ _ _ _ _ _ this]; rfl, by rw [cell_of_row _ _ _ _ _ _ this]; rfl⟩
  have hne' : N ≠ R := Nat.ne_of_lt hT.hR
  have HK : Hid (∀ (V : World) (a0 a1 : Value), (V.cell? ⟨N, 0, none⟩ = some (.slice (some ⟨b, off, none⟩) n cap) ∧ V.cell? ⟨N, 1, none⟩ = some (.int .i64 now)) → (((V.setCell ⟨R, 0, none⟩ a0).setCell ⟨R, 1, none⟩ a1).cell? ⟨N, 0, none⟩ = some (.slice (some ⟨b, off, none⟩) n cap) ∧ ((V.setCell ⟨R, 0, none⟩ a0).setCell ⟨R, 1, none⟩ a1).cell? ⟨N, 1, none⟩ = some (.int .i64 now))) := by
    intro V a0 a1 h
    rw [(set2_other _ _ _ _ hne' _ _).2, (set2_other _ _ _ _ hne' _ _).2]
    exact h
  have hS1 := unhide HS2 _ hTd
  have HT1 := hide (unhide HT _ hTd.below)
  have HD := hide hTd
  clear hWe hT hTd hNe hRe ho
  go_region_held3 (fun w' => w'.cell? ⟨N, 0, none⟩ = some (.slice (some ⟨b, off, none⟩) n cap) ∧ w'.cell? ⟨N, 1, none⟩ = some (.int .i64 now)) (first | with_reducible assumption | with_reducible exact unhide HK _ _ _ hS3)
    (first
      | ((with_reducible refine (unhide HT1).mono ?_); rintro e w3 ⟨⟨acc, rfl, hm, htw⟩, b3⟩; have H3 := hide ((unhide HD).step b3); have hS3 := unhide HS2 _ (unhide H3); obtain ⟨r0, r1, z0, z1⟩ := (unhide H3).r; have HM := hide hm; have HW := hide htw; clear b3 hm htw HT1)
      | fail)
  have hN := (unhide H3).hN
  have hR := (unhide H3).hR
  have hRW : R < W.drew.heap.size := (unhide HD).sz
  have hfin : Tw ((w3.setCell ⟨R, 0, none⟩ (.slice (some ⟨W.drew.heap.size, 0, none⟩) n (n + 1))).setCell ⟨R, 1, none⟩ (.int .i64 now)) W.drew.heap.size acc := (unhide HW).keep (by simp) fun k h1 h2 => (set2_other _ _ _ 0 (by omega) _ _).1
  have hbf : Below w.heap.size w ((w3.setCell ⟨R, 0, none⟩ (.slice (some ⟨W.drew.heap.size, 0, none⟩) n (n + 1))).setCell ⟨R, 1, none⟩ (.int .i64 now)) := ((unhide H3).below.setCell (p := ⟨R, 0, none⟩) (by show w.heap.size ≤ R; omega) _).setCell (p := ⟨R, 1, none⟩) (by show w.heap.size ≤ R; omega) _
  have HFI := hide hfin
  have HBF := hide hbf
  clear hfin hbf HK HS2 hS1 hS3 HT
  go_wp2
  refine bodyPost_ret (v := .agg #[.slice (some ⟨W.drew.heap.size, 0, none⟩) n (n + 1), .int .i64 now]) (by simp [results, Try.results8, go_sem, r0, r1]) rfl ⟨⟨W.drew.heap.size, acc, rfl, unhide HM, unhide HFI, (unhide HD).below.size⟩, unhide HBF⟩
theorem sm_parts {ns : List Nd} (h : nodesTo ns ns.length ≤ 200000) (i : Nat) : (nd ns i).data.length ≤ 1048576 ∧ (nd ns i).list.length ≤ 1048576 := by
  by_cases hi : i < ns.length
  · unfold nodesTo at h
    have := sumTo_le ns.length (fun j => if j = i then nodeSz (nd ns j) else 0) (fun j => nodeSz (nd ns j)) (fun j _ => by split <;> omega)
    rw [sumTo_one ns.length i (fun j => nodeSz (nd ns j)) hi] at this
    have h3 : nodeSz (nd ns i) ≤ 200000 := by omega
    unfold nodeSz entTo at h3
    omega
  · rw [nd_out (by omega)]; simp
end Go.Proofs.Ytighgaocnpofpaa.Tr
