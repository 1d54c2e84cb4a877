/- What TwinNodes answers of no nodes. -/
import Derived.Test.YtighgaocnpofpaaTrLeftT
import Derived.Test.YtighgaocnpofpaaTrSpoilsW
namespace Go.Proofs.Ytighgaocnpofpaa.Tr
open Go.RowKit Go.Proofs.Ytighgaocnpofpaa.Cu

set_option maxHeartbeats 800000 in
set_option maxRecDepth 100000 in
theorem twinNodes_none (a : Option Addr) (cap : Nat) (w : World) :
    Calls Try.prog 28 #[.slice a 0 cap] w fun e w' => (e = .returned (.slice (some ⟨w.heap.size, 0, none⟩) 0 (0 + 1)) ∧ Tw w' w.heap.size []) ∧ Below w.heap.size w w' := by
  obtain ⟨i0, hi, hz0, hz1, hz2⟩ := info_parts Try.infoNode
  go_enter Try.func28, Try.ntmps28
  go_wp2_with (at_make; refine wpList_make_own _ rfl _ _ 22 rfl w.heap.size 54 i0 _ 10 Try.underlying22 hi hz0 hz1 _ _ _ (0 + 1) rfl rfl (by omega) (by rw [hz2]; omega) (by unfold maxLen; omega) (Nat.le_refl _) ?_; intro w1 hown1 hgrow1)
  have hb1 : Below w.heap.size w w1 := (Below.refl _ _).grown hgrow1 (Nat.le_refl _) (by simp)
  have hs1 : w.heap.size < w1.heap.size := (hown1.lt _ rfl).2
  clear hgrow1
  refine wp_loop_rounds 1 ?_
  rw [rounds_succ]
  go_wp2_with (at_builtin; refine wpList_append_fits _ rfl _ _ 22 rfl w.heap.size 54 i0 10 Try.underlying22 hi hz1 w.heap.size 0 (0 + 1) _ rfl (hown1.alloc _) ⟨w1.heap.size, 0, none⟩ 1 1 (nc mkN (.slice none 0 0) (.slice none 0 0)) rfl rfl (by exact node_new _ mkN _ _ _) (node_one _ _ _ _ _ _ _) (by omega) ?_)
  intro w2 hown2 hgrow2
  have hb2 : Below w.heap.size w w2 := (hb1.alloc hb1.size _).grown hgrow2 (by simp; omega) (by simp)
  have htw : Tw w2 w.heap.size [] := by
    refine ⟨fun i hi => absurd hi (by simp), ?_, fun x hx => by simp at hx, (hown2.lt _ rfl).2, fun o => ?_⟩
    · refine N10.at fun j u hj => ?_
      have h1 := hown2.cells (g := w.heap.size) rfl j u (by simpa using hj)
      rw [add_none, Nat.zero_add] at h1
      simpa using h1
    · obtain ⟨g, c, cur, hv, _, hg, _⟩ := own_some hown2 (by omega)
      injection hv with h1 _ _
      injection h1 with h1
      injection h1 with h1 _ _
      rw [← h1] at hg
      simp [World.frozen?, hg]
  clear hgrow2 hown2
  have HT := hide htw
  have HB2 := hide hb2
  clear htw hb2
  go_wp2
  go_ret
  exact ⟨⟨rfl, unhide HT⟩, unhide HB2⟩
set_option maxRecDepth 100000 in
set_option maxHeartbeats 1000000 in
theorem twinTree_all (a : Option Addr) (n cap c' : Nat) (ns : List Nd) (now : Int) (w : World) (h : Ng w a n c' ns) (hlen : n ≤ 1048576) (hsm : ∀ i, (nd ns i).data.length ≤ 1048576 ∧ (nd ns i).list.length ≤ 1048576) :
    Calls Try.prog 8 #[.agg #[.slice a n cap, .int .i64 now]] w fun e w' => (∃ (G : Nat) (acc : List Nv), e = .returned (.agg #[.slice (some ⟨G, 0, none⟩) n (n + 1), .int .i64 now]) ∧ acc.map (·.1) = ns ∧ Tw w' G acc ∧ w.heap.size ≤ G) ∧ Below w.heap.size w w' := by
  have HT : Hid (∀ W, Below w.heap.size w W → Calls Try.prog 28 #[.slice a n cap] W fun e w' => (∃ acc : List Nv, e = .returned (.slice (some ⟨W.heap.size, 0, none⟩) n (n + 1)) ∧ acc.map (·.1) = ns ∧ Tw w' W.heap.size acc) ∧ Below W.heap.size W w') := fun W hW => by
    have h := h.below hW
    rcases h.cells with h0 | ⟨b, off, rfl, hb, hc⟩
    · subst h0
      obtain rfl : ns = [] := List.eq_nil_of_length_eq_zero h.len
      refine (twinNodes_none a cap W).mono ?_
      rintro e w' ⟨⟨rfl, t⟩, b⟩
      exact ⟨⟨[], rfl, rfl, t⟩, b⟩
    · exact twinNodes_any b off n cap ns W hc hb h.len hlen hsm
  obtain ⟨N, hNe⟩ : ∃ N, N = w.heap.size := ⟨_, rfl⟩
  obtain ⟨R, hRe⟩ : ∃ R, R = w.heap.size + 1 := ⟨_, rfl⟩
  obtain ⟨o, ho⟩ : ∃ o : Obj, o = .cells #[.slice a n cap, .int .i64 now] 24 := ⟨_, rfl⟩
  obtain ⟨W, hWe⟩ : ∃ W, W = (w.alloc o).alloc (.cells zTree 24) := ⟨_, rfl⟩
  have hT : Tt w W N R o := by
    have b1 : Below w.heap.size w (w.alloc o) := (Below.refl _ _).alloc (Nat.le_refl _) _
    have b2 : Below (w.alloc o).heap.size (w.alloc o) W := by rw [hWe]; exact (Below.refl _ _).alloc (Nat.le_refl _) _
    have k1 := heap_alloc_new w o
    have k2 := heap_alloc_new (w.alloc o) (.cells zTree 24)
    rw [World.size_alloc, ← hWe] at k2
    refine ⟨b1.trans (b2.mono (by simp)), by rw [hNe]; exact (b2.block _ (by simp)).trans k1, by rw [hRe]; exact k2, by omega, by omega, by rw [hRe, hWe]; simp⟩
  clear h hsm
  go_enter Try.func8, Try.ntmps8
  go_wp2_with fail
  rw [← ho, ← hWe, ← hRe, ← hNe]
  have hTd : Tt w W.drew N R o := ⟨⟨hT.below.os, hT.below.tape, hT.below.output, hT.below.size, hT.below.block⟩, hT.box, hT.room, hT.hN, hT.hR, hT.sz⟩
  have HS2 : Hid (∀ V, Tt w V N R o → V.cell? ⟨N, 0, none⟩ = some (.slice a n cap) ∧ V.cell? ⟨N, 1, none⟩ = some (.int .i64 now)) := fun V h => by
    have := h.box
    rw [ho] at this
    exact ⟨by rw [cell_of_row _ _ _ _ _ _ this]; rfl, by rw [cell_of_row _ _ _ _ _ _ this]; rfl⟩
  have hne' : N ≠ R := Nat.ne_of_lt hT.hR
  have HK : Hid (∀ (V : World) (a0 a1 : Value), (V.cell? ⟨N, 0, none⟩ = some (.slice a n cap) ∧ V.cell? ⟨N, 1, none⟩ = some (.int .i64 now)) → (((V.setCell ⟨R, 0, none⟩ a0).setCell ⟨R, 1, none⟩ a1).cell? ⟨N, 0, none⟩ = some (.slice a n cap) ∧ ((V.setCell ⟨R, 0, none⟩ a0).setCell ⟨R, 1, none⟩ a1).cell? ⟨N, 1, none⟩ = some (.int .i64 now))) := by
    intro V a0 a1 h
    rw [(set2_other _ _ _ _ hne' _ _).2, (set2_other _ _ _ _ hne' _ _).2]
    exact h
  have hS1 := unhide HS2 _ hTd
  have HT1 := hide (unhide HT _ hTd.below)
  have HD := hide hTd
  clear hWe hT hTd hNe hRe ho
  go_region_held3 (fun w' => w'.cell? ⟨N, 0, none⟩ = some (.slice a n cap) ∧ w'.cell? ⟨N, 1, none⟩ = some (.int .i64 now)) (first | with_reducible assumption | with_reducible exact unhide HK _ _ _ hS3)
    (first
      | ((with_reducible refine (unhide HT1).mono ?_); rintro e w3 ⟨⟨acc, rfl, hm, htw⟩, b3⟩; have H3 := hide ((unhide HD).step b3); have hS3 := unhide HS2 _ (unhide H3); obtain ⟨r0, r1, z0, z1⟩ := (unhide H3).r; have HM := hide hm; have HW := hide htw; clear b3 hm htw HT1)
      | fail)
  have hN := (unhide H3).hN
  have hR := (unhide H3).hR
  have hRW : R < W.drew.heap.size := (unhide HD).sz
  have hfin : Tw ((w3.setCell ⟨R, 0, none⟩ (.slice (some ⟨W.drew.heap.size, 0, none⟩) n (n + 1))).setCell ⟨R, 1, none⟩ (.int .i64 now)) W.drew.heap.size acc := (unhide HW).keep (by simp) fun k h1 h2 => (set2_other _ _ _ 0 (by omega) _ _).1
  have hbf : Below w.heap.size w ((w3.setCell ⟨R, 0, none⟩ (.slice (some ⟨W.drew.heap.size, 0, none⟩) n (n + 1))).setCell ⟨R, 1, none⟩ (.int .i64 now)) := ((unhide H3).below.setCell (p := ⟨R, 0, none⟩) (by show w.heap.size ≤ R; omega) _).setCell (p := ⟨R, 1, none⟩) (by show w.heap.size ≤ R; omega) _
  have HFI := hide hfin
  have HBF := hide hbf
  clear hfin hbf HK HS2 hS1 hS3 HT
  go_wp2
  refine bodyPost_ret (v := .agg #[.slice (some ⟨W.drew.heap.size, 0, none⟩) n (n + 1), .int .i64 now]) (by simp [results, Try.results8, go_sem, r0, r1]) rfl ⟨⟨W.drew.heap.size, acc, rfl, unhide HM, unhide HFI, (unhide HD).below.size⟩, unhide HBF⟩
end Go.Proofs.Ytighgaocnpofpaa.Tr
