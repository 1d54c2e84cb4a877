/- TreeSpoils walked. -/
import Derived.Test.YtcidokmpfcigaaaTrSpoilP
import Derived.Test.YtcidokmpfcigaaaTrPathsW
import Derived.Test.YtcidokmpfcigaaaTrLives
import Derived.Test.YtcidokmpfcigaaaTrGreat
namespace Go.Proofs.Ytcidokmpfcigaaa.Tr
open Go.RowKit Go.Proofs.Ytcidokmpfcigaaa.Cu

abbrev zTree : Array Value := #[.slice none 0 0, .int .i64 0]
structure Tt (w W : World) (N R : Nat) (o : Obj) : Prop where
  below : Below w.heap.size w W
  box : W.heap[N]? = some o
  room : W.heap[R]? = some (.cells zTree 24)
  hN : w.heap.size ≤ N
  hR : N < R
  sz : R < W.heap.size
theorem Tt.step {w W W' : World} {N R : Nat} {o : Obj} (h : Tt w W N R o) (hb : Below W.heap.size W W') : Tt w W' N R o :=
  ⟨h.below.trans (hb.mono h.below.size), (hb.block _ (Nat.lt_trans h.hR h.sz)).trans h.box, (hb.block _ h.sz).trans h.room, h.hN, h.hR, Nat.lt_of_lt_of_le h.sz hb.size⟩
theorem Tt.r {w W : World} {N R : Nat} {o : Obj} (h : Tt w W N R o) : W.cell? ⟨R, 0, none⟩ = some (.slice none 0 0) ∧ W.cell? ⟨R, 1, none⟩ = some (.int .i64 0) ∧ W.frozen? ⟨R, 0, none⟩ = false ∧ W.frozen? ⟨R, 1, none⟩ = false :=
  ⟨by rw [cell_of_row _ _ _ _ _ _ h.room]; rfl, by rw [cell_of_row _ _ _ _ _ _ h.room]; rfl, by simp [World.frozen?, h.room], by simp [World.frozen?, h.room]⟩
theorem set2_other (w' : World) (g P j : Nat) (hne : P ≠ g) (a0 a1 : Value) : ((w'.setCell ⟨g, 0, none⟩ a0).setCell ⟨g, 1, none⟩ a1).heap[P]? = w'.heap[P]? ∧ ((w'.setCell ⟨g, 0, none⟩ a0).setCell ⟨g, 1, none⟩ a1).cell? ⟨P, j, none⟩ = w'.cell? ⟨P, j, none⟩ := by
  have e : ∀ (W : World) (o : Nat) (v : Value), (W.setCell ⟨g, o, none⟩ v).heap[P]? = W.heap[P]? := fun W o v => heap_setCell_other W ⟨g, o, none⟩ P v hne
  have e2 := (e (w'.setCell ⟨g, 0, none⟩ a0) 1 a1).trans (e w' 0 a0)
  exact ⟨e2, World.cell?_of_block (a := ⟨P, j, none⟩) e2⟩
/-- a copy stays where its blocks stay -/
theorem Tw.keep {w w' : World} {G : Nat} {acc : List Nv} (h : Tw w G acc) (hs : w.heap.size ≤ w'.heap.size) (hb : ∀ k, G ≤ k → k < w.heap.size → w'.heap[k]? = w.heap[k]?) : Tw w' G acc := by
  have c : ∀ o, w'.cell? ⟨G, o, none⟩ = w.cell? ⟨G, o, none⟩ := fun o => World.cell?_of_block (a := ⟨G, o, none⟩) (hb G (Nat.le_refl _) h.lt)
  exact ⟨fun i hi => (h.rows i hi).of c, h.mark.of c, fun x hx => (h.tx x hx).keep hs fun k h1 h2 => hb k (by omega) h2, by have := h.lt; omega, fun o => (World.frozen?_of_block (a := ⟨G, o, none⟩) (hb G (Nat.le_refl _) h.lt)).trans (h.fz o)⟩
set_option maxRecDepth 100000 in
set_option maxHeartbeats 1000000 in
theorem twinTree_any (b off n cap : Nat) (ns : List Nd) (now : Int) (w : World) (h : ∀ i, i < n → Nx w b (off + i * 10) (nd ns i)) (hb : b < w.heap.size) (hl : ns.length = n) (hlen : n ≤ 1048576) (hsm : ∀ i, (nd ns i).data.length ≤ 1048576 ∧ (nd ns i).list.length ≤ 1048576) :
    Calls Try.prog 9 #[.agg #[.slice (some ⟨b, off, none⟩) n cap, .int .i64 now]] w fun e w' => (∃ (G : Nat) (acc : List Nv), e = .returned (.agg #[.slice (some ⟨G, 0, none⟩) n (n + 1), .int .i64 now]) ∧ acc.map (·.1) = ns ∧ Tw w' G acc ∧ w.heap.size ≤ G) ∧ Below w.heap.size w w' := by
  have HT : Hid (∀ W, Below w.heap.size w W → Calls Try.prog 26 #[.slice (some ⟨b, off, none⟩) n cap] W fun e w' => (∃ acc : List Nv, e = .returned (.slice (some ⟨W.heap.size, 0, none⟩) n (n + 1)) ∧ acc.map (·.1) = ns ∧ Tw w' W.heap.size acc) ∧ Below W.heap.size W w') := fun W hW => twinNodes_any b off n cap ns W (fun i hi => (h i hi).below hb hW) (Nat.lt_of_lt_of_le hb hW.size) hl hlen hsm
  obtain ⟨N, hNe⟩ : ∃ N, N = w.heap.size := ⟨_, rfl⟩
  obtain ⟨R, hRe⟩ : ∃ R, R = w.heap.size + 1 := ⟨_, rfl⟩
  obtain ⟨o, ho⟩ : ∃ o : Obj, o = .cells #[.slice (some ⟨b, off, none⟩) n cap, .int .i64 now] 24 := ⟨_, rfl⟩
  obtain ⟨W, hWe⟩ : ∃ W, W = (w.alloc o).alloc (.cells zTree 24) := ⟨_, rfl⟩
  have hT : Tt w W N R o := by
    have b1 : Below w.heap.size w (w.alloc o) := (Below.refl _ _).alloc (Nat.le_refl _) _
    have b2 : Below (w.alloc o).heap.size (w.alloc o) W := by rw [hWe]; exact (Below.refl _ _).alloc (Nat.le_refl _) _
    have k1 := heap_alloc_new w o
    have k2 := heap_alloc_new (w.alloc o) (.cells zTree 24)
    rw [World.size_alloc, ← hWe] at k2
    refine ⟨b1.trans (b2.mono (by simp)), by rw [hNe]; exact (b2.block _ (by simp)).trans k1, by rw [hRe]; exact k2, by omega, by omega, by rw [hRe, hWe]; simp⟩
  clear h hsm
  go_enter Try.func9, Try.ntmps9
  go_wp2_with fail
  rw [← ho, ← hWe, ← hRe, ← hNe]
  have hTd : Tt w W.drew N R o := ⟨⟨hT.below.os, hT.below.tape, hT.below.output, hT.below.size, hT.below.block⟩, hT.box, hT.room, hT.hN, hT.hR, hT.sz⟩
  have HS2 : Hid (∀ V, Tt w V N R o → V.cell? ⟨N, 0, none⟩ = some (.slice (some ⟨b, off, none⟩) n cap) ∧ V.cell? ⟨N, 1, none⟩ = some (.int .i64 now)) := fun V h => by
    have := h.box
    rw [ho] at this
    exact ⟨by rw [cell_of_row _ _ _ _ _ _ this]; rfl, by rw [cell_of_row _ _ _ _ _ _ this]; rfl⟩
  have hne' : N ≠ R := Nat.ne_of_lt hT.hR
  have HK : Hid (∀ (V : World) (a0 a1 : Value), (V.cell? ⟨N, 0, none⟩ = some (.slice (some ⟨b, off, none⟩) n cap) ∧ V.cell? ⟨N, 1, none⟩ = some (.int .i64 now)) → (((V.setCell ⟨R, 0, none⟩ a0).setCell ⟨R, 1, none⟩ a1).cell? ⟨N, 0, none⟩ = some (.slice (some ⟨b, off, none⟩) n cap) ∧ ((V.setCell ⟨R, 0, none⟩ a0).setCell ⟨R, 1, none⟩ a1).cell? ⟨N, 1, none⟩ = some (.int .i64 now))) := by
    intro V a0 a1 h
    rw [(set2_other _ _ _ _ hne' _ _).2, (set2_other _ _ _ _ hne' _ _).2]
    exact h
  have hS1 := unhide HS2 _ hTd
  have HT1 := hide (unhide HT _ hTd.below)
  have HD := hide hTd
  clear hWe hT hTd hNe hRe ho
  go_region_held3 (fun w' => w'.cell? ⟨N, 0, none⟩ = some (.slice (some ⟨b, off, none⟩) n cap) ∧ w'.cell? ⟨N, 1, none⟩ = some (.int .i64 now)) (first | with_reducible assumption | with_reducible exact unhide HK _ _ _ hS3)
    (first
      | ((with_reducible refine (unhide HT1).mono ?_); rintro e w3 ⟨⟨acc, rfl, hm, htw⟩, b3⟩; have H3 := hide ((unhide HD).step b3); have hS3 := unhide HS2 _ (unhide H3); obtain ⟨r0, r1, z0, z1⟩ := (unhide H3).r; have HM := hide hm; have HW := hide htw; clear b3 hm htw HT1)
      | fail)
  have hN := (unhide H3).hN
  have hR := (unhide H3).hR
  have hRW : R < W.drew.heap.size := (unhide HD).sz
  have hfin : Tw ((w3.setCell ⟨R, 0, none⟩ (.slice (some ⟨W.drew.heap.size, 0, none⟩) n (n + 1))).setCell ⟨R, 1, none⟩ (.int .i64 now)) W.drew.heap.size acc := (unhide HW).keep (by simp) fun k h1 h2 => (set2_other _ _ _ 0 (by omega) _ _).1
  have hbf : Below w.heap.size w ((w3.setCell ⟨R, 0, none⟩ (.slice (some ⟨W.drew.heap.size, 0, none⟩) n (n + 1))).setCell ⟨R, 1, none⟩ (.int .i64 now)) := ((unhide H3).below.setCell (p := ⟨R, 0, none⟩) (by show w.heap.size ≤ R; omega) _).setCell (p := ⟨R, 1, none⟩) (by show w.heap.size ≤ R; omega) _
  have HFI := hide hfin
  have HBF := hide hbf
  clear hfin hbf HK HS2 hS1 hS3 HT
  go_wp2
  refine bodyPost_ret (v := .agg #[.slice (some ⟨W.drew.heap.size, 0, none⟩) n (n + 1), .int .i64 now]) (by simp [results, Try.results9, go_sem, r0, r1]) rfl ⟨⟨W.drew.heap.size, acc, rfl, unhide HM, unhide HFI, (unhide HD).below.size⟩, unhide HBF⟩
theorem sm_parts {ns : List Nd} (h : nodesTo ns ns.length ≤ 200000) (i : Nat) : (nd ns i).data.length ≤ 1048576 ∧ (nd ns i).list.length ≤ 1048576 := by
  by_cases hi : i < ns.length
  · unfold nodesTo at h
    have := sumTo_le ns.length (fun j => if j = i then nodeSz (nd ns j) else 0) (fun j => nodeSz (nd ns j)) (fun j _ => by split <;> omega)
    rw [sumTo_one ns.length i (fun j => nodeSz (nd ns j)) hi] at this
    have h3 : nodeSz (nd ns i) ≤ 200000 := by omega
    unfold nodeSz entTo at h3
    omega
  · rw [nd_out (by omega)]; simp
set_option maxRecDepth 100000 in
set_option maxHeartbeats 2000000 in
theorem spoils_walk (a : Option Addr) (n cap : Nat) (ns : List Nd) (now : Int) (x : Nat) (hx : x < 65536) (z : Int) (hz1 : -128 ≤ z) (hz2 : z ≤ 127) (w : World) (h : Ng w a n cap ns) (hn : n ≤ 281474976710656) (hr : ∀ i, i < n → Rb (nd ns i)) :
    Calls Try.prog 6 #[.agg #[.slice a n cap, .int .i64 now], .int .u16 x, .int .i8 z] w fun e w' => e = .returned (.bool true) ∧ Below w.heap.size w w' := by
  have HG : Hid (∀ W, Below w.heap.size w W → Calls Try.prog 7 #[.agg #[.slice a n cap, .int .i64 now]] W fun e w' => (∃ q : Bool, e = .returned (.bool q) ∧ (q = false → nodesTo ns ns.length ≤ 200000)) ∧ Below W.heap.size W w') := fun W hW => great_any a n cap ns now W (h.below hW) hn hr
  have HL := hide lives_any
  have HN := hide h
  have hN0 : Hid (Nt w (w.alloc (tO a n cap now)) (tO a n cap now)) := ⟨(Below.refl _ _).alloc (Nat.le_refl _) _, heap_alloc_new w _, by simp⟩
  clear h hr
  go_enter Try.func6, Try.ntmps6
  go_wp2_with fail
  refine (unhide HG _ (unhide hN0).below).mono ?_
  rintro e w1 ⟨⟨q, rfl, hq⟩, b1⟩
  have hN1 := hide ((unhide hN0).step b1)
  clear b1 hN0 HG
  cases q with
  | true =>
    clear hq
    go_wp2_with fail
    refine (unhide HL _).mono ?_
    rintro e w2 ⟨rfl, b2⟩
    have hB2 := hide ((unhide hN1).step b2).below
    clear b2 HL hN1
    go_wp2
    go_ret
    exact ⟨rfl, unhide hB2⟩
  | false =>
    have hsz := hq rfl
    have hsm := sm_of_size hsz
    have HPA := hide (sm_parts hsz)
    obtain ⟨c0, c1⟩ := (unhide hN1).c
    have HCk := hide (checkAny now ((unhide HN).below (unhide hN1).below) hsm)
    have HSM := hide hsm
    clear hq hsm hsz
    go_wp2_with fail
    refine (unhide HCk).mono ?_
    rintro e w2 ⟨rfl, b2⟩
    have hN2 := hide ((unhide hN1).step b2)
    clear b2 HCk c0 c1 hN1
    cases hck : checkP now ns with
    | false =>
      go_wp2_with fail
      refine (unhide HL _).mono ?_
      rintro e w3 ⟨rfl, b3⟩
      have hB3 := hide ((unhide hN2).step b3).below
      clear b3 HL hN2
      go_wp2
      go_ret
      exact ⟨rfl, unhide hB3⟩
    | true =>
      have HCK := hide hck
      clear hck
      have hlen := (unhide HN).len
      have h2 : 2 ≤ n := by rw [← hlen]; exact checkP_two (unhide HCK)
      have hn6 : n ≤ 513 := by rw [← hlen]; exact (checkP_parts (unhide HCK)).2.1
      rcases (unhide HN).cells with h0 | ⟨b, off, rfl, hb, hc⟩
      · omega
      have HX := hide hc
      have HLEN := hide hlen
      obtain ⟨c0, c1⟩ := (unhide hN2).c
      clear hc hlen
      have HTT : Hid (∀ W, Below w.heap.size w W → Calls Try.prog 9 #[.agg #[.slice (some ⟨b, off, none⟩) n cap, .int .i64 now]] W fun e w' => (∃ (G : Nat) (acc : List Nv), e = .returned (.agg #[.slice (some ⟨G, 0, none⟩) n (n + 1), .int .i64 now]) ∧ acc.map (·.1) = ns ∧ Tw w' G acc ∧ W.heap.size ≤ G) ∧ Below W.heap.size W w') :=
        fun W hW => twinTree_any b off n cap ns now W (fun i hi => (unhide HX i hi).below hb hW) (Nat.lt_of_lt_of_le hb hW.size) (unhide HLEN) (by omega) (unhide HPA)
      obtain ⟨r, hrl, hrv⟩ : ∃ r : Nat, r < n - 1 ∧ wrap64 (1 + (x : Int) % ((n : Int) - 1)) = ((1 + r : Nat) : Int) := by
        refine ⟨x % (n - 1), Nat.mod_lt _ (by omega), ?_⟩
        have hmod : (x : Int) % ((n : Int) - 1) = ((x % (n - 1) : Nat) : Int) := by
          rw [Int.natCast_emod]; congr 1; omega
        rw [hmod]
        have hlt : x % (n - 1) < n - 1 := Nat.mod_lt _ (by omega)
        generalize x % (n - 1) = r at *
        clear hmod
        rw [show (1 : Int) + (r : Int) = ((1 + r : Nat) : Int) by omega]
        unfold wrap64; omega
      obtain ⟨kk, hkk⟩ : ∃ kk : Nat, 1 + r = kk := ⟨_, rfl⟩
      rw [hkk] at hrv
      have hk1 : 1 ≤ kk := by omega
      have hkn : kk < n := by omega
      have hki : (kk : Int) < (n : Int) := by omega
      clear hkk hrl
      have hwx : IntKind.i64.wrap (x : Int) = (x : Int) := wrap_small _ (by omega) (by omega)
      have hwz : IntKind.i64.wrap z = z := wrap_small _ (by omega) (by omega)
      go_upto_region 4 with fail
      rw [hrv]
      clear hrv hwx
      go_wp2_with fail
      refine (unhide HTT _ (unhide hN2).below).mono ?_
      rintro e w3 ⟨⟨G, acc, rfl, hm, htw, hG⟩, b3⟩
      have hN3 := hide ((unhide hN2).step b3)
      have hGw : w.heap.size < G := by have := (unhide hN2).sz; omega
      have HTW := hide htw
      have HM := hide hm
      clear b3 c0 c1 hN2 htw hm
      go_upto_region 5 with fail
      have htw := unhide HTW
      have hm := unhide HM
      obtain ⟨X, hXe⟩ : ∃ X, X = w3.heap.size := ⟨_, rfl⟩
      obtain ⟨W4, hW4⟩ : ∃ W, W = w3.alloc (.cells #[.slice (some ⟨G, 0, none⟩) n (n + 1), .int .i64 now] 24) := ⟨_, rfl⟩
      have b4 : Below w3.heap.size w3 W4 := by rw [hW4]; exact (Below.refl _ _).alloc (Nat.le_refl _) _
      have hN4 := hide ((unhide hN3).step b4)
      have hT4 : Tw W4 G acc := htw.keep b4.size fun k _ h2 => b4.block k h2
      have gX : W4.heap[X]? = some (.cells #[.slice (some ⟨G, 0, none⟩) n (n + 1), .int .i64 now] 24) := by rw [hXe, hW4]; exact heap_alloc_new w3 _
      have hGX : G < X := by rw [hXe]; exact htw.lt
      have cX0 : W4.cell? ⟨X, 0, none⟩ = some (.slice (some ⟨G, 0, none⟩) n (n + 1)) := by rw [cell_of_row _ _ _ _ _ _ gX]; rfl
      have cX1 : W4.cell? ⟨X, 1, none⟩ = some (.int .i64 now) := by rw [cell_of_row _ _ _ _ _ _ gX]; rfl
      have hal : acc.length = n := by rw [← unhide HLEN, ← hm, List.length_map]
      have h10 := hT4.rows kk (by omega)
      rw [← nd_map acc kk (by omega), hm] at h10
      have g0 := h10.c0
      have g4 := h10.c4
      have f4 := hT4.fz (kk * 10 + 4)
      have HT4 := hide hT4
      have HGX := hide gX
      have hXl : X < W4.heap.size := (Array.getElem?_eq_some_iff.1 gX).1
      have hGl : G < W4.heap.size := hT4.lt
      rw [← hXe, ← hW4]
      clear htw hm hT4 h10 b4 hN3 gX hal hW4 hXe HTW
      by_cases k0 : (nd ns kk).kind = 0
      · have g0' : W4.cell? ⟨G, kk * 10, none⟩ = some (.int .u8 0) := by rw [g0, k0]; rfl
        clear g0
        go_wp2_with fail
        refine (unhide HL _).mono ?_
        rintro e w5 ⟨rfl, b5⟩
        have hB5 := hide ((unhide hN4).step b5).below
        clear b5 HL hN4
        go_wp2
        go_ret
        exact ⟨rfl, unhide hB5⟩
      have k0' : (((nd ns kk).kind.toNat : Int) == 0) = false := by
        simp
        intro e
        exact k0 (UInt8.toNat_inj.1 (by simpa using e))
      by_cases z0 : z = 0
      · subst z0
        generalize (nd ns kk).kind.toNat = kn at *
        go_wp2_with fail
        refine (unhide HL _).mono ?_
        rintro e w5 ⟨rfl, b5⟩
        have hB5 := hide ((unhide hN4).step b5).below
        clear b5 HL hN4
        go_wp2
        go_ret
        exact ⟨rfl, unhide hB5⟩
      have z0' : (z == 0) = false := by simp [z0]
      have hkl : kk < ns.length := by rw [unhide HLEN]; exact hkn
      obtain ⟨l1, l2⟩ := links_small (unhide HCK) kk hk1 hkl k0
      obtain ⟨p1, p2⟩ := parent_small (unhide HCK) kk hk1 hkl
      have HSL := hide (spoil_links (unhide HCK) kk hk1 hkl k0 ((nd ns kk).links + z) (by omega))
      have HSP := hide (spoil_parent (unhide HCK) kk hk1 hkl k0 ((nd ns kk).parent + z) (by omega))
      have hNL := hide ((unhide HT4).links (unhide HM) kk hkl ((nd ns kk).links + z))
      rw [unhide HLEN] at hNL
      have hSml := hide (sm_links (unhide HSM) kk hkl ((nd ns kk).links + z))
      have hSmp := hide (sm_parent (unhide HSM) kk hkl ((nd ns kk).parent + z))
      have HPO : Hid (∀ (W : World) (G' : Nat) (acc' : List Nv), Tw W G' acc' → acc'.map (·.1) = ns → W.cell? ⟨G', kk * 10 + 9, none⟩ = some (.int .i64 (nd ns kk).parent) ∧ W.frozen? ⟨G', kk * 10 + 9, none⟩ = false ∧ Ng (W.setCell ⟨G', kk * 10 + 9, none⟩ (.int .i64 ((nd ns kk).parent + z))) (some ⟨G', 0, none⟩) n (n + 1) (ns.set kk { nd ns kk with parent := (nd ns kk).parent + z })) := by
        intro W G' acc' h1 h2
        have hal' : acc'.length = n := by rw [← unhide HLEN, ← h2, List.length_map]
        have q10 := h1.rows kk (by omega)
        rw [← nd_map acc' kk (by omega), h2] at q10
        have q := h1.parent h2 kk hkl ((nd ns kk).parent + z)
        rw [unhide HLEN] at q
        exact ⟨q10.c9, h1.fz _, q⟩
      generalize (nd ns kk).kind.toNat = kn at *
      generalize hL1 : ns.set kk { nd ns kk with links := (nd ns kk).links + z } = n1 at *
      generalize hL2 : ns.set kk { nd ns kk with parent := (nd ns kk).parent + z } = n2 at *
      generalize (nd ns kk).links = lk at *
      generalize (nd ns kk).parent = pa at *
      clear hL1 hL2 k0 z0 hkl
      obtain ⟨W5, hW5⟩ : ∃ W, W = (W4.setCell ⟨G, kk * 10 + 4, none⟩ (.int .i64 (lk + z))).drew := ⟨_, rfl⟩
      have b5 : Below w.heap.size w W5 := by
        have q := (unhide hN4).below.setCell (p := ⟨G, kk * 10 + 4, none⟩) (by show w.heap.size ≤ G; omega) (.int .i64 (lk + z))
        rw [hW5]; exact ⟨q.os, q.tape, q.output, q.size, q.block⟩
      have g5 : ∀ q, q ≠ G → W5.heap[q]? = W4.heap[q]? := fun q hq => by rw [hW5]; exact heap_setCell_other _ ⟨G, kk * 10 + 4, none⟩ q _ hq
      have hN5 : Nt w W5 (tO (some ⟨b, off, none⟩) n cap now) := ⟨b5, (g5 _ (by omega)).trans (unhide hN4).box, by have := (unhide hN4).sz; rw [hW5]; simpa using this⟩
      have gX5 : W5.heap[X]? = some (.cells #[.slice (some ⟨G, 0, none⟩) n (n + 1), .int .i64 now] 24) := (g5 X (by omega)).trans (unhide HGX)
      have hNg5 : Ng W5 (some ⟨G, 0, none⟩) n (n + 1) n1 := by
        rw [hW5]; exact (unhide hNL).below ⟨rfl, rfl, rfl, Nat.le_refl _, fun _ _ => rfl⟩
      have HC5 := hide (checkAny now hNg5 (unhide hSml))
      rw [unhide HSL] at HC5
      have c50 : W5.cell? ⟨X, 0, none⟩ = some (.slice (some ⟨G, 0, none⟩) n (n + 1)) := by rw [cell_of_row _ _ _ _ _ _ gX5]; rfl
      have c51 : W5.cell? ⟨X, 1, none⟩ = some (.int .i64 now) := by rw [cell_of_row _ _ _ _ _ _ gX5]; rfl
      have HN5 := hide hN5
      have HX5 := hide gX5
      go_wp2
      go_region
      rw [← hW5]
      clear hW5 b5 g5 hN5 gX5 hNg5 hNL HSL hSml hN4 HT4 HGX cX0 cX1 g0 g4 f4 hXl hGl l1 l2
      go_wp2_with fail
      refine (unhide HC5).mono ?_
      rintro e w6 ⟨rfl, b6⟩
      have hN6 := hide ((unhide HN5).step b6)
      have gX6 := hide ((b6.block _ (Array.getElem?_eq_some_iff.1 (unhide HX5)).1).trans (unhide HX5))
      obtain ⟨c0, c1⟩ := (unhide hN6).c
      clear b6 HC5 HN5 HX5 c50 c51
      go_wp2_with fail
      refine (unhide HTT _ (unhide hN6).below).mono ?_
      rintro e w7 ⟨⟨G2, acc2, rfl, hm2, htw2, hG2⟩, b7⟩
      have hN7 := hide ((unhide hN6).step b7)
      have gX7 := (b7.block _ (Array.getElem?_eq_some_iff.1 (unhide gX6)).1).trans (unhide gX6)
      have hXs : X < w7.heap.size := (Array.getElem?_eq_some_iff.1 gX7).1
      have hXG2 : X < G2 := by have := (Array.getElem?_eq_some_iff.1 (unhide gX6)).1; omega
      have d0 : w7.cell? ⟨X, 0, none⟩ = some (.slice (some ⟨G, 0, none⟩) n (n + 1)) := by rw [cell_of_row _ _ _ _ _ _ gX7]; rfl
      have d1 : w7.cell? ⟨X, 1, none⟩ = some (.int .i64 now) := by rw [cell_of_row _ _ _ _ _ _ gX7]; rfl
      have z0 : w7.frozen? ⟨X, 0, none⟩ = false := by simp [World.frozen?, gX7]
      have z1 : w7.frozen? ⟨X, 1, none⟩ = false := by simp [World.frozen?, gX7]
      obtain ⟨W8, hW8⟩ : ∃ W, W = (w7.setCell ⟨X, 0, none⟩ (.slice (some ⟨G2, 0, none⟩) n (n + 1))).setCell ⟨X, 1, none⟩ (.int .i64 now) := ⟨_, rfl⟩
      have g8 : ∀ q, q ≠ X → W8.heap[q]? = w7.heap[q]? := fun q hq => by rw [hW8]; exact (set2_other _ _ _ 0 hq _ _).1
      have b8 : Below w.heap.size w W8 := by
        rw [hW8]
        exact ((unhide hN7).below.setCell (p := ⟨X, 0, none⟩) (by show w.heap.size ≤ X; omega) _).setCell (p := ⟨X, 1, none⟩) (by show w.heap.size ≤ X; omega) _
      have s8 : W8.heap.size = w7.heap.size := by rw [hW8]; simp
      have hN8 : Nt w W8 (tO (some ⟨b, off, none⟩) n cap now) := ⟨b8, (g8 _ (by omega)).trans (unhide hN7).box, by rw [s8]; exact (unhide hN7).sz⟩
      have hT8 : Tw W8 G2 acc2 := htw2.keep (by omega) fun k h1 _ => g8 k (by omega)
      have e80 : W8.cell? ⟨X, 0, none⟩ = some (.slice (some ⟨G2, 0, none⟩) n (n + 1)) := by
        rw [hW8, World.cell?_setCell_other _ _ _ _ (fun h => by injection h with _ h2; omega)]; exact World.cell?_setCell_same _ _ _ d0
      have e81 : W8.cell? ⟨X, 1, none⟩ = some (.int .i64 now) := by
        rw [hW8]
        exact World.cell?_setCell_same _ _ _ (u := .int .i64 now) (by rw [World.cell?_setCell_other _ _ _ _ (fun h => by injection h with _ h2; omega)]; exact d1)
      obtain ⟨g9, f9, hNg9⟩ := unhide HPO W8 G2 acc2 hT8 hm2
      obtain ⟨W9, hW9⟩ : ∃ W, W = (W8.setCell ⟨G2, kk * 10 + 9, none⟩ (.int .i64 (pa + z))).drew := ⟨_, rfl⟩
      have b9 : Below w.heap.size w W9 := by
        have q := b8.setCell (p := ⟨G2, kk * 10 + 9, none⟩) (by show w.heap.size ≤ G2; omega) (.int .i64 (pa + z))
        rw [hW9]; exact ⟨q.os, q.tape, q.output, q.size, q.block⟩
      have k9 : ∀ q, q ≠ G2 → W9.heap[q]? = W8.heap[q]? := fun q hq => by rw [hW9]; exact heap_setCell_other _ ⟨G2, kk * 10 + 9, none⟩ q _ hq
      have hN9 : Nt w W9 (tO (some ⟨b, off, none⟩) n cap now) := ⟨b9, (k9 _ (by omega)).trans hN8.box, by have := hN8.sz; rw [hW9]; simpa using this⟩
      have hq9 : Ng W9 (some ⟨G2, 0, none⟩) n (n + 1) n2 := by
        rw [hW9]; exact hNg9.below ⟨rfl, rfl, rfl, Nat.le_refl _, fun _ _ => rfl⟩
      have HC9 := hide (checkAny now hq9 (unhide hSmp))
      rw [unhide HSP] at HC9
      have c90 : W9.cell? ⟨X, 0, none⟩ = some (.slice (some ⟨G2, 0, none⟩) n (n + 1)) := (World.cell?_of_block (a := ⟨X, 0, none⟩) (k9 X (by omega))).trans e80
      have c91 : W9.cell? ⟨X, 1, none⟩ = some (.int .i64 now) := (World.cell?_of_block (a := ⟨X, 1, none⟩) (k9 X (by omega))).trans e81
      have HN9 := hide hN9
      clear hm2 htw2 b7 hN7 gX7 g8 b8 s8 hN8 hT8 hNg9 b9 k9 hN9 hq9 hSmp HSP HPO gX6 c0 c1 hN6 HTT
      go_upto_region 11 with fail
      rw [← hW8]
      clear hW8 d0 d1 z0 z1
      go_wp2
      go_region
      rw [← hW9]
      clear hW9 e80 e81 g9 f9
      go_wp2_with fail
      refine (unhide HC9).mono ?_
      rintro e w10 ⟨rfl, b10⟩
      have hN10 := hide ((unhide HN9).step b10)
      clear b10 HC9 HN9 c90 c91
      go_wp2_with fail
      refine (unhide HL _).mono ?_
      rintro e w11 ⟨rfl, b11⟩
      have hB11 := hide ((unhide hN10).step b11).below
      clear b11 HL hN10
      go_wp2
      go_ret
      exact ⟨rfl, unhide hB11⟩
end Go.Proofs.Ytcidokmpfcigaaa.Tr
