import Derived.Test.YthmoinagfooncaaGreatDoorPtRIn
import Derived.Test.YthmoinagfooncaaGreatDoorPmChk
import Derived.Test.YthmoinagfooncaaGreatDoorTrGreat
import Derived.Test.YthmoinagfooncaaGreatDoorTrLeftT
import Derived.Test.YthmoinagfooncaaGreatDoorTrRck
import Derived.Test.YthmoinagfooncaaGreatDoorPtLives
/- What the document's Find answers. -/
namespace Go.Proofs.YthmoinagfooncaaGreatDoor.Pt
open Go.RowKit Go.Proofs.YthmoinagfooncaaGreatDoor.Cu Go.Proofs.YthmoinagfooncaaGreatDoor.Tr Go.Proofs.YthmoinagfooncaaGreatDoor.Pm

set_option maxRecDepth 100000 in
set_option maxHeartbeats 2000000 in
theorem rfindP_any (a : Option Addr) (n cap : Nat) (ns : List Nd) (now : Int) (e : Ev) (s : ByteArray) (follow : Bool) (w : World) (h : Ng w a n cap ns) (hs : Sm ns) (hr : ∀ i, i < n → Rb (nd ns i)) (hsz : s.size ≤ 1000000) :
    Calls Tryz.prog 8 #[.agg #[.slice a n cap, .int .i64 now], .agg (ea e), .string s, .bool follow] w fun r w' => r = .returned (.tuple #[.agg (pv (findA now ns e s follow).1), .int .i64 (findA now ns e s follow).2]) ∧ Below w.heap.size w w' := by
  have HC : Hid (∀ W, Below w.heap.size w W → Calls Tryz.prog 20 #[.agg #[.slice a n cap, .int .i64 now], .agg (ea e)] W fun r w' => r = .returned (.bool (someP now ns e)) ∧ Below W.heap.size W w') := fun W hW => rSome_any a n cap ns now e W (h.below hW) hs hr
  obtain ⟨R, HR⟩ : ∃ R, Hid (R = findA now ns e s follow) := ⟨_, rfl⟩
  rw [← unhide HR]
  have HRe : Hid (R = if someP now ns e = false then bad 1 else inPath ns e s follow) := unhide HR
  clear HR
  cases hq : someP now ns e with
  | false =>
    rw [hq] at HC HRe
    obtain rfl : R = bad 1 := unhide HRe
    clear HRe hq h hr
    obtain ⟨u, g, mk, dr⟩ := e
    unfold ea at HC ⊢
    simp only at HC ⊢
    have F0 := hide (fr_first w #[.slice a n cap, .int .i64 now] #[.int .i64 u, .int .i64 g, .int .i64 mk, .int .i64 dr])
    go_enter Tryz.func8, Tryz.ntmps8
    go_wp2_with fail
    refine (unhide HC _ (unhide F0).below).mono ?_
    rintro r w1 ⟨rfl, b1⟩
    have F1 := hide ((unhide F0).step b1)
    clear b1 F0 HC
    obtain ⟨-, -, -, -, -, -, d0, d1, d2, d3, f0, f1, f2, f3⟩ := (unhide F1).cells
    have HF := hide (set4_below (unhide F1).below (w.heap.size + 2) (by omega) (.int .i64 0) (.string ⟨#[]⟩) (.int .i64 0) (.bool false))
    clear F1
    go_wp2_with fail
    refine bodyPost_ret (v := .tuple #[.agg (pv pz), .int .i64 1]) (by simp [results, Tryz.results8, go_sem, d0, d1, d2, d3]) rfl ⟨rfl, unhide HF⟩
  | true =>
    rw [hq] at HC HRe
    obtain ⟨hck, d, hed, hdr⟩ := some_dir hq
    have HI : Hid (∀ W, Below w.heap.size w W → Calls Tryz.prog 21 #[.agg #[.slice a n cap, .int .i64 now], .agg (ea e), .string s, .bool follow] W fun r w' => r = .returned (.tuple #[.agg (pv R.1), .int .i64 R.2]) ∧ Below W.heap.size W w') := fun W hW => by
      have q := rIn_any a n cap ns now e d s follow W (h.below hW) hck hed hdr hsz
      rw [if_neg (by decide)] at HRe
      rw [← unhide HRe] at q; exact q
    clear hq h hr hck hed hdr HRe
    obtain ⟨u, g, mk, dr⟩ := e
    unfold ea at HC HI ⊢
    simp only at HC HI ⊢
    obtain ⟨⟨rd, rn, ro, rs⟩, re⟩ := R
    simp only at HI ⊢
    have F0 := hide (fr_first w #[.slice a n cap, .int .i64 now] #[.int .i64 u, .int .i64 g, .int .i64 mk, .int .i64 dr])
    go_enter Tryz.func8, Tryz.ntmps8
    go_wp2_with fail
    refine (unhide HC _ (unhide F0).below).mono ?_
    rintro r w1 ⟨rfl, b1⟩
    have F1 := hide ((unhide F0).step b1)
    clear b1 F0 HC
    obtain ⟨t0, t1, e0, e1, e2, e3, -⟩ := (unhide F1).cells
    go_wp2_with fail
    refine (unhide HI _ (unhide F1).below).mono ?_
    rintro r4 w4 ⟨rfl, b4⟩
    have F4 := hide ((unhide F1).step b4)
    clear b4 F1 HI t0 t1 e0 e1 e2 e3
    obtain ⟨-, -, -, -, -, -, d0, d1, d2, d3, f0, f1, f2, f3⟩ := (unhide F4).cells
    have HF := hide (set4_below (unhide F4).below (w.heap.size + 2) (by omega) (.int .i64 rd) (.string rn) (.int .i64 ro) (.bool rs))
    clear F4
    go_wp2_with fail
    refine bodyPost_ret (v := .tuple #[.agg #[.int .i64 rd, .string rn, .int .i64 ro, .bool rs], .int .i64 re]) (by simp [results, Tryz.results8, go_sem, d0, d1, d2, d3]) rfl ⟨rfl, unhide HF⟩
end Go.Proofs.YthmoinagfooncaaGreatDoor.Pt

/- Whether a tree and a path are more than is gone through. -/
namespace Go.Proofs.YthmoinagfooncaaGreatDoor.Pt
open Go.RowKit Go.Proofs.YthmoinagfooncaaGreatDoor.Cu Go.Proofs.YthmoinagfooncaaGreatDoor.Tr

set_option maxRecDepth 100000 in
set_option maxHeartbeats 1000000 in
theorem pgreat_any (a : Option Addr) (n cap : Nat) (ns : List Nd) (now : Int) (s : ByteArray) (w : World) (h : Ng w a n cap ns) (hn : n ≤ 281474976710656) (hr : ∀ i, i < n → Rb (nd ns i)) :
    Calls Tryz.prog 4 #[.agg #[.slice a n cap, .int .i64 now], .string s] w fun e w' => (∃ q : Bool, e = .returned (.bool q) ∧ (q = false → nodesTo ns ns.length ≤ 200000 ∧ s.size ≤ 20000)) ∧ Below w.heap.size w w' := by
  have HT : ∀ W, Below w.heap.size w W → Calls Tryz.prog 10 #[.agg #[.slice a n cap, .int .i64 now]] W fun e w' => (∃ r : Nat, e = .returned (.int .i64 ((r : Int) + 1)) ∧ r ≤ 4503599627370496 ∧ (r ≤ 1048576 → r = nodesTo ns ns.length)) ∧ Below W.heap.size W w' := by
    intro W hW
    have HN : Hid (∀ V, Below w.heap.size w V → Calls Tryz.prog 23 #[.slice a n cap] V fun e w' => (∃ r : Nat, e = .returned (.int .i64 r) ∧ r ≤ 4503599627370496 ∧ (r ≤ 1048576 → r = nodesTo ns ns.length)) ∧ Below V.heap.size V w') := fun V hV => nodesSize_any a n cap ns V (h.below hV) hn hr
    have hb0 : Hid (Below W.heap.size W (W.alloc (.cells #[.slice a n cap, .int .i64 now] 24))) := (Below.refl _ _).alloc (Nat.le_refl _) _
    have hb1 : Hid (Below w.heap.size w (W.alloc (.cells #[.slice a n cap, .int .i64 now] 24))) := hW.trans ((unhide hb0).mono hW.size)
    clear h hr hW
    go_enter Tryz.func10, Tryz.ntmps10
    go_wp2_with fail
    refine (unhide HN _ (unhide hb1)).mono ?_
    rintro e w1 ⟨⟨r, rfl, hr1, hr2⟩, b1⟩
    have hB1 := hide ((unhide hb0).trans (b1.mono (unhide hb0).size))
    have HR2 := hide hr2
    clear b1 HN hr2
    go_wp2
    go_ret
    exact ⟨⟨r, by go_num, hr1, unhide HR2⟩, unhide hB1⟩
  have HT := hide HT
  have hb0 : Hid (Below w.heap.size w (w.alloc (.cells #[.slice a n cap, .int .i64 now] 24))) := (Below.refl _ _).alloc (Nat.le_refl _) _
  clear h hr
  go_enter Tryz.func4, Tryz.ntmps4
  go_wp2_with fail
  refine (unhide HT _ (unhide hb0)).mono ?_
  rintro e w1 ⟨⟨r, rfl, hr1, hr2⟩, b1⟩
  have hB1 := hide ((unhide hb0).trans (b1.mono (unhide hb0).size))
  have HR2 := hide hr2
  clear b1 HT hr2
  by_cases hq : r + 1 ≤ 100000
  · have hq' : ¬ (100000 : Int) < (r : Int) + 1 := by omega
    have hq2 : decide ((100000 : Int) < (r : Int) + 1) = false := decide_eq_false hq'
    go_wp2
    go_ret
    exact ⟨⟨_, rfl, fun h => ⟨by rw [← unhide HR2 (by omega)]; omega, by simp at h; omega⟩⟩, unhide hB1⟩
  · have hq' : (100000 : Int) < (r : Int) + 1 := by omega
    have hq2 : decide ((100000 : Int) < (r : Int) + 1) = true := decide_eq_true hq'
    go_wp2
    go_ret
    refine ⟨⟨_, rfl, fun h => ?_⟩, unhide hB1⟩
    simp at h
end Go.Proofs.YthmoinagfooncaaGreatDoor.Pt

/- What TwinTree answers of any tree. -/
namespace Go.Proofs.YthmoinagfooncaaGreatDoor.Tr
open Go.RowKit Go.Proofs.YthmoinagfooncaaGreatDoor.Cu

abbrev zTree : Array Value := #[.slice none 0 0, .int .i64 0]
structure Tt (w W : World) (N R : Nat) (o : Obj) : Prop where
  below : Below w.heap.size w W
  box : W.heap[N]? = some o
  room : W.heap[R]? = some (.cells zTree 24)
  hN : w.heap.size ≤ N
  hR : N < R
  sz : R < W.heap.size
theorem Tt.step {w W W' : World} {N R : Nat} {o : Obj} (h : Tt w W N R o) (hb : Below W.heap.size W W') : Tt w W' N R o :=
  ⟨h.below.trans (hb.mono h.below.size), (hb.block _ (Nat.lt_trans h.hR h.sz)).trans h.box, (hb.block _ h.sz).trans h.room, h.hN, h.hR, Nat.lt_of_lt_of_le h.sz hb.size⟩
theorem Tt.r {w W : World} {N R : Nat} {o : Obj} (h : Tt w W N R o) : W.cell? ⟨R, 0, none⟩ = some (.slice none 0 0) ∧ W.cell? ⟨R, 1, none⟩ = some (.int .i64 0) ∧ W.frozen? ⟨R, 0, none⟩ = false ∧ W.frozen? ⟨R, 1, none⟩ = false :=
  ⟨by rw [cell_of_row _ _ _ _ _ _ h.room]; rfl, by rw [cell_of_row _ _ _ _ _ _ h.room]; rfl, by simp [World.frozen?, h.room], by simp [World.frozen?, h.room]⟩
theorem set2_other (w' : World) (g P j : Nat) (hne : P ≠ g) (a0 a1 : Value) : ((w'.setCell ⟨g, 0, none⟩ a0).setCell ⟨g, 1, none⟩ a1).heap[P]? = w'.heap[P]? ∧ ((w'.setCell ⟨g, 0, none⟩ a0).setCell ⟨g, 1, none⟩ a1).cell? ⟨P, j, none⟩ = w'.cell? ⟨P, j, none⟩ := by
  have e : ∀ (W : World) (o : Nat) (v : Value), (W.setCell ⟨g, o, none⟩ v).heap[P]? = W.heap[P]? := fun W o v => heap_setCell_other W ⟨g, o, none⟩ P v hne
  have e2 := (e (w'.setCell ⟨g, 0, none⟩ a0) 1 a1).trans (e w' 0 a0)
  exact ⟨e2, World.cell?_of_block (a := ⟨P, j, none⟩) e2⟩
/-- a copy stays where its blocks stay -/
theorem Tw.keep {w w' : World} {G : Nat} {acc : List Nv} (h : Tw w G acc) (hs : w.heap.size ≤ w'.heap.size) (hb : ∀ k, G ≤ k → k < w.heap.size → w'.heap[k]? = w.heap[k]?) : Tw w' G acc := by
  have c : ∀ o, w'.cell? ⟨G, o, none⟩ = w.cell? ⟨G, o, none⟩ := fun o => World.cell?_of_block (a := ⟨G, o, none⟩) (hb G (Nat.le_refl _) h.lt)
  exact ⟨fun i hi => (h.rows i hi).of c, h.mark.of c, fun x hx => (h.tx x hx).keep hs fun k h1 h2 => hb k (by omega) h2, by have := h.lt; omega, fun o => (World.frozen?_of_block (a := ⟨G, o, none⟩) (hb G (Nat.le_refl _) h.lt)).trans (h.fz o)⟩
theorem sm_parts {ns : List Nd} (h : nodesTo ns ns.length ≤ 200000) (i : Nat) : (nd ns i).data.length ≤ 1048576 ∧ (nd ns i).list.length ≤ 1048576 := by
  by_cases hi : i < ns.length
  · unfold nodesTo at h
    have := sumTo_le ns.length (fun j => if j = i then nodeSz (nd ns j) else 0) (fun j => nodeSz (nd ns j)) (fun j _ => by split <;> omega)
    rw [sumTo_one ns.length i (fun j => nodeSz (nd ns j)) hi] at this
    have h3 : nodeSz (nd ns i) ≤ 200000 := by omega
    unfold nodeSz entTo at h3
    omega
  · rw [nd_out (by omega)]; simp
set_option maxHeartbeats 800000 in
set_option maxRecDepth 100000 in
theorem twinNodes_none (a : Option Addr) (cap : Nat) (w : World) :
    Calls Tryz.prog 15 #[.slice a 0 cap] w fun e w' => (e = .returned (.slice (some ⟨w.heap.size, 0, none⟩) 0 (0 + 1)) ∧ Tw w' w.heap.size []) ∧ Below w.heap.size w w' := by
  obtain ⟨i0, hi, hz0, hz1, hz2⟩ := info_parts Tryz.infoNode
  go_enter Tryz.func15, Tryz.ntmps15
  go_wp2_with (at_make; refine wpList_make_own _ rfl _ _ 22 rfl w.heap.size 48 i0 _ 10 Tryz.underlying22 hi hz0 hz1 _ _ _ (0 + 1) rfl rfl (by omega) (by rw [hz2]; omega) (by unfold maxLen; omega) (Nat.le_refl _) ?_; intro w1 hown1 hgrow1)
  have hb1 : Below w.heap.size w w1 := (Below.refl _ _).grown hgrow1 (Nat.le_refl _) (by simp)
  have hs1 : w.heap.size < w1.heap.size := (hown1.lt _ rfl).2
  clear hgrow1
  refine wp_loop_rounds 1 ?_
  rw [rounds_succ]
  go_wp2_with (at_builtin; refine wpList_append_fits _ rfl _ _ 22 rfl w.heap.size 48 i0 10 Tryz.underlying22 hi hz1 w.heap.size 0 (0 + 1) _ rfl (hown1.alloc _) ⟨w1.heap.size, 0, none⟩ 1 1 (nc mkN (.slice none 0 0) (.slice none 0 0)) rfl rfl (by exact node_new _ mkN _ _ _) (node_one _ _ _ _ _ _ _) (by omega) ?_)
  intro w2 hown2 hgrow2
  have hb2 : Below w.heap.size w w2 := (hb1.alloc hb1.size _).grown hgrow2 (by simp; omega) (by simp)
  have htw : Tw w2 w.heap.size [] := by
    refine ⟨fun i hi => absurd hi (by simp), ?_, fun x hx => by simp at hx, (hown2.lt _ rfl).2, fun o => ?_⟩
    · refine N10.at fun j u hj => ?_
      have h1 := hown2.cells (g := w.heap.size) rfl j u (by simpa using hj)
      rw [add_none, Nat.zero_add] at h1
      simpa using h1
    · obtain ⟨g, c, cur, hv, _, hg, _⟩ := own_some hown2 (by omega)
      injection hv with h1 _ _
      injection h1 with h1
      injection h1 with h1 _ _
      rw [← h1] at hg
      simp [World.frozen?, hg]
  clear hgrow2 hown2
  have HT := hide htw
  have HB2 := hide hb2
  clear htw hb2
  go_wp2
  go_ret
  exact ⟨⟨rfl, unhide HT⟩, unhide HB2⟩
set_option maxRecDepth 100000 in
set_option maxHeartbeats 1000000 in
theorem twinTree_all (a : Option Addr) (n cap c' : Nat) (ns : List Nd) (now : Int) (w : World) (h : Ng w a n c' ns) (hlen : n ≤ 1048576) (hsm : ∀ i, (nd ns i).data.length ≤ 1048576 ∧ (nd ns i).list.length ≤ 1048576) :
    Calls Tryz.prog 6 #[.agg #[.slice a n cap, .int .i64 now]] w fun e w' => (∃ (G : Nat) (acc : List Nv), e = .returned (.agg #[.slice (some ⟨G, 0, none⟩) n (n + 1), .int .i64 now]) ∧ acc.map (·.1) = ns ∧ Tw w' G acc ∧ w.heap.size ≤ G) ∧ Below w.heap.size w w' := by
  have HT : Hid (∀ W, Below w.heap.size w W → Calls Tryz.prog 15 #[.slice a n cap] W fun e w' => (∃ acc : List Nv, e = .returned (.slice (some ⟨W.heap.size, 0, none⟩) n (n + 1)) ∧ acc.map (·.1) = ns ∧ Tw w' W.heap.size acc) ∧ Below W.heap.size W w') := fun W hW => by
    have h := h.below hW
    rcases h.cells with h0 | ⟨b, off, rfl, hb, hc⟩
    · subst h0
      obtain rfl : ns = [] := List.eq_nil_of_length_eq_zero h.len
      refine (twinNodes_none a cap W).mono ?_
      rintro e w' ⟨⟨rfl, t⟩, b⟩
      exact ⟨⟨[], rfl, rfl, t⟩, b⟩
    · exact twinNodes_any b off n cap ns W hc hb h.len hlen hsm
  obtain ⟨N, hNe⟩ : ∃ N, N = w.heap.size := ⟨_, rfl⟩
  obtain ⟨R, hRe⟩ : ∃ R, R = w.heap.size + 1 := ⟨_, rfl⟩
  obtain ⟨o, ho⟩ : ∃ o : Obj, o = .cells #[.slice a n cap, .int .i64 now] 24 := ⟨_, rfl⟩
  obtain ⟨W, hWe⟩ : ∃ W, W = (w.alloc o).alloc (.cells zTree 24) := ⟨_, rfl⟩
  have hT : Tt w W N R o := by
    have b1 : Below w.heap.size w (w.alloc o) := (Below.refl _ _).alloc (Nat.le_refl _) _
    have b2 : Below (w.alloc o).heap.size (w.alloc o) W := by rw [hWe]; exact (Below.refl _ _).alloc (Nat.le_refl _) _
    have k1 := heap_alloc_new w o
    have k2 := heap_alloc_new (w.alloc o) (.cells zTree 24)
    rw [World.size_alloc, ← hWe] at k2
    refine ⟨b1.trans (b2.mono (by simp)), by rw [hNe]; exact (b2.block _ (by simp)).trans k1, by rw [hRe]; exact k2, by omega, by omega, by rw [hRe, hWe]; simp⟩
  clear h hsm
  go_enter Tryz.func6, Tryz.ntmps6
  go_wp2_with fail
  rw [← ho, ← hWe, ← hRe, ← hNe]
  have hTd : Tt w W.drew N R o := ⟨⟨hT.below.os, hT.below.tape, hT.below.output, hT.below.size, hT.below.block⟩, hT.box, hT.room, hT.hN, hT.hR, hT.sz⟩
  have HS2 : Hid (∀ V, Tt w V N R o → V.cell? ⟨N, 0, none⟩ = some (.slice a n cap) ∧ V.cell? ⟨N, 1, none⟩ = some (.int .i64 now)) := fun V h => by
    have := h.box
    rw [ho] at this
    exact ⟨by rw [cell_of_row _ _ _ _ _ _ this]; rfl, by rw [cell_of_row _ _ _ _ _ _ this]; rfl⟩
  have hne' : N ≠ R := Nat.ne_of_lt hT.hR
  have HK : Hid (∀ (V : World) (a0 a1 : Value), (V.cell? ⟨N, 0, none⟩ = some (.slice a n cap) ∧ V.cell? ⟨N, 1, none⟩ = some (.int .i64 now)) → (((V.setCell ⟨R, 0, none⟩ a0).setCell ⟨R, 1, none⟩ a1).cell? ⟨N, 0, none⟩ = some (.slice a n cap) ∧ ((V.setCell ⟨R, 0, none⟩ a0).setCell ⟨R, 1, none⟩ a1).cell? ⟨N, 1, none⟩ = some (.int .i64 now))) := by
    intro V a0 a1 h
    rw [(set2_other _ _ _ _ hne' _ _).2, (set2_other _ _ _ _ hne' _ _).2]
    exact h
  have hS1 := unhide HS2 _ hTd
  have HT1 := hide (unhide HT _ hTd.below)
  have HD := hide hTd
  clear hWe hT hTd hNe hRe ho
  go_region_held3 (fun w' => w'.cell? ⟨N, 0, none⟩ = some (.slice a n cap) ∧ w'.cell? ⟨N, 1, none⟩ = some (.int .i64 now)) (first | with_reducible assumption | with_reducible exact unhide HK _ _ _ hS3)
    (first
      | ((with_reducible refine (unhide HT1).mono ?_); rintro e w3 ⟨⟨acc, rfl, hm, htw⟩, b3⟩; have H3 := hide ((unhide HD).step b3); have hS3 := unhide HS2 _ (unhide H3); obtain ⟨r0, r1, z0, z1⟩ := (unhide H3).r; have HM := hide hm; have HW := hide htw; clear b3 hm htw HT1)
      | fail)
  have hN := (unhide H3).hN
  have hR := (unhide H3).hR
  have hRW : R < W.drew.heap.size := (unhide HD).sz
  have hfin : Tw ((w3.setCell ⟨R, 0, none⟩ (.slice (some ⟨W.drew.heap.size, 0, none⟩) n (n + 1))).setCell ⟨R, 1, none⟩ (.int .i64 now)) W.drew.heap.size acc := (unhide HW).keep (by simp) fun k h1 h2 => (set2_other _ _ _ 0 (by omega) _ _).1
  have hbf : Below w.heap.size w ((w3.setCell ⟨R, 0, none⟩ (.slice (some ⟨W.drew.heap.size, 0, none⟩) n (n + 1))).setCell ⟨R, 1, none⟩ (.int .i64 now)) := ((unhide H3).below.setCell (p := ⟨R, 0, none⟩) (by show w.heap.size ≤ R; omega) _).setCell (p := ⟨R, 1, none⟩) (by show w.heap.size ≤ R; omega) _
  have HFI := hide hfin
  have HBF := hide hbf
  clear hfin hbf HK HS2 hS1 hS3 HT
  go_wp2
  refine bodyPost_ret (v := .agg #[.slice (some ⟨W.drew.heap.size, 0, none⟩) n (n + 1), .int .i64 now]) (by simp [results, Tryz.results6, go_sem, r0, r1]) rfl ⟨⟨W.drew.heap.size, acc, rfl, unhide HM, unhide HFI, (unhide HD).below.size⟩, unhide HBF⟩
end Go.Proofs.YthmoinagfooncaaGreatDoor.Tr

/- PathsFind walked. -/
namespace Go.Proofs.YthmoinagfooncaaGreatDoor.Pt
open Go.RowKit Go.Proofs.YthmoinagfooncaaGreatDoor.Cu Go.Proofs.YthmoinagfooncaaGreatDoor.Tr Go.Proofs.YthmoinagfooncaaGreatDoor.Pm

abbrev la (a : Option Addr) (n cap : Nat) (now : Int) (u g mk dr : Int) (s : ByteArray) (fo : Bool) : Array Value := #[.slice a n cap, .int .i64 now, .int .i64 u, .int .i64 g, .int .i64 mk, .int .i64 dr, .string s, .bool fo]
structure Lk (w W : World) (c : Array Value) : Prop where
  below : Below w.heap.size w W
  box : W.heap[w.heap.size]? = some (.cells c 28)
theorem Lk.step {w W W' : World} {c : Array Value} (h : Lk w W c) (hb : Below W.heap.size W W') : Lk w W' c := ⟨h.below.trans (hb.mono h.below.size), keep1 h.box hb⟩
theorem Lk.cells {w W : World} {c0 c1 c2 c3 c4 c5 c6 c7 : Value} (h : Lk w W #[c0, c1, c2, c3, c4, c5, c6, c7]) : W.cell? ⟨w.heap.size, 0, none⟩ = some c0 ∧ W.cell? ⟨w.heap.size, 1, none⟩ = some c1 ∧ W.cell? ⟨w.heap.size, 2, none⟩ = some c2 ∧ W.cell? ⟨w.heap.size, 3, none⟩ = some c3 ∧ W.cell? ⟨w.heap.size, 4, none⟩ = some c4 ∧ W.cell? ⟨w.heap.size, 5, none⟩ = some c5 ∧ W.cell? ⟨w.heap.size, 6, none⟩ = some c6 ∧ W.cell? ⟨w.heap.size, 7, none⟩ = some c7 ∧ w.heap.size < W.heap.size := by
  refine ⟨?_, ?_, ?_, ?_, ?_, ?_, ?_, ?_, lt1 h.box⟩ <;> (rw [cell_of_row _ _ _ _ _ _ h.box]; rfl)
theorem tree2 {W : World} {N : Nat} {c0 c1 : Value} (h : W.heap[N]? = some (.cells #[c0, c1] 24)) : W.cell? ⟨N, 0, none⟩ = some c0 ∧ W.cell? ⟨N, 1, none⟩ = some c1 ∧ N < W.heap.size :=
  ⟨by rw [cell_of_row _ _ _ _ _ _ h]; rfl, by rw [cell_of_row _ _ _ _ _ _ h]; rfl, lt1 h⟩
theorem rplace_cells {W : World} {N : Nat} {c0 c1 c2 c3 : Value} (h : W.heap[N]? = some (.cells #[c0, c1, c2, c3] tyRPl)) : W.cell? ⟨N, 0, none⟩ = some c0 ∧ W.cell? ⟨N, 1, none⟩ = some c1 ∧ W.cell? ⟨N, 2, none⟩ = some c2 ∧ W.cell? ⟨N, 3, none⟩ = some c3 := by
  refine ⟨?_, ?_, ?_, ?_⟩ <;> (rw [cell_of_row _ _ _ _ _ _ h]; rfl)
set_option maxRecDepth 100000 in
set_option maxHeartbeats 4000000 in
theorem find_law (a : Option Addr) (n cap : Nat) (ns : List Nd) (now : Int) (ev : Ev) (s : ByteArray) (fo : Bool) (w : World) (h : Ng w a n cap ns) (hn : n ≤ 281474976710656) (hr : ∀ i, i < n → Rb (nd ns i)) :
    Calls Tryz.prog 3 #[.agg (la a n cap now ev.user ev.group ev.mask ev.dir s fo)] w fun e w' => e = .returned (.bool true) ∧ Below w.heap.size w w' := by
  obtain ⟨u, g, mk, dr⟩ := ev
  simp only
  have HG : Hid (∀ W, Below w.heap.size w W → Calls Tryz.prog 4 #[.agg #[.slice a n cap, .int .i64 now], .string s] W fun e w' => (∃ q : Bool, e = .returned (.bool q) ∧ (q = false → nodesTo ns ns.length ≤ 200000 ∧ s.size ≤ 20000)) ∧ Below W.heap.size W w') := fun W hW => pgreat_any a n cap ns now s W (h.below hW) hn hr
  have HL := hide lives_any
  have HN := hide h
  have HR := hide hr
  have HLN := hide h.len
  have hN0 : Hid (Lk w (w.alloc (.cells (la a n cap now u g mk dr s fo) 28)) (la a n cap now u g mk dr s fo)) := ⟨below_new w _, heap_alloc_new w _⟩
  clear h hr
  go_enter Tryz.func3, Tryz.ntmps3
  go_wp2_with fail
  refine (unhide HG _ (unhide hN0).below).mono ?_
  rintro e w1 ⟨⟨q, rfl, hq⟩, b1⟩
  have hN1 := hide ((unhide hN0).step b1)
  clear b1 hN0 HG
  cases q with
  | true =>
    clear hq
    go_wp2_with fail
    refine (unhide HL _).mono ?_
    rintro e w9 ⟨rfl, b9⟩
    have hB9 := hide ((unhide hN1).step b9).below
    clear b9 HL hN1
    go_wp2_with fail
    go_ret
    exact ⟨rfl, unhide hB9⟩
  | false =>
    have hsm := sm_of_size (hq rfl).1
    have HPA := hide (sm_parts (hq rfl).1)
    have hs2 := (hq rfl).2
    have HSM := hide hsm
    have hn6 : n ≤ 1048576 := by rw [← unhide HLN]; have := hsm.hn; omega
    obtain ⟨c0, c1, c2, c3, c4, c5, c6, c7, hl⟩ := (unhide hN1).cells
    have HTT := hide (twinTree_all a n cap cap ns now w1 ((unhide HN).below (unhide hN1).below) hn6 (unhide HPA))
    have HN6 := hide hn6
    clear hq hsm hn6
    go_wp2_with fail
    refine (unhide HTT).mono ?_
    rintro e w2 ⟨⟨G, acc, rfl, hm, htw, hG⟩, b2⟩
    have hN2 := hide ((unhide hN1).step b2)
    clear b2 HTT c0 c1 c2 c3 c4 c5 c6 c7 hl hN1 hG
    have hal : acc.length = n := by rw [← unhide HLN, ← hm]; simp
    have HF1 : Hid (∀ V, Below w2.heap.size w2 V → Calls Tryz.prog 7 #[.agg #[.slice (some ⟨G, 0, none⟩) n (n + 1), .int .i64 now], .agg #[.int .i64 u, .int .i64 g, .int .i64 mk, .int .i64 dr], .string s, .bool fo] V fun r w' => r = .returned (.tuple #[.agg (pv (findA now ns ⟨u, g, mk, dr⟩ s fo).1), .int .i64 (findA now ns ⟨u, g, mk, dr⟩ s fo).2]) ∧ Below V.heap.size V w') := fun V hV => by
      have hng := htw.ng.below hV
      rw [hm, hal] at hng
      exact findP_any (some ⟨G, 0, none⟩) n (n + 1) ns now ⟨u, g, mk, dr⟩ s fo V hng (unhide HSM) (by omega)
    have HF2 : Hid (∀ V, Below w.heap.size w V → Calls Tryz.prog 8 #[.agg #[.slice a n cap, .int .i64 now], .agg #[.int .i64 u, .int .i64 g, .int .i64 mk, .int .i64 dr], .string s, .bool fo] V fun r w' => r = .returned (.tuple #[.agg (pv (findA now ns ⟨u, g, mk, dr⟩ s fo).1), .int .i64 (findA now ns ⟨u, g, mk, dr⟩ s fo).2]) ∧ Below V.heap.size V w') := fun V hV =>
      rfindP_any a n cap ns now ⟨u, g, mk, dr⟩ s fo V ((unhide HN).below hV) (unhide HSM) (unhide HR) (by omega)
    have HC3 : Hid (∀ V, Below w2.heap.size w2 V → Below w.heap.size w V → Calls Tryz.prog 9 #[.agg #[.slice (some ⟨G, 0, none⟩) n (n + 1), .int .i64 now], .agg #[.slice a n cap, .int .i64 now]] V fun e w' => e = .returned (.bool true) ∧ Below V.heap.size V w') := fun V hV hw =>
      leftTree_any G a n cap cap now acc ns V ((unhide HN).below hw) hm (htw.below hV) (unhide HN6) (unhide HPA)
    generalize findA now ns ⟨u, g, mk, dr⟩ s fo = R at *
    obtain ⟨⟨rd, rn, ro, rs⟩, re⟩ := R
    simp only at HF1 HF2
    have en : (rn.toList == rn.toList) = true := by simp
    clear hm htw hal HN HR HSM HPA HN6 HLN hn
    obtain ⟨c0, c1, c2, c3, c4, c5, c6, c7, hl⟩ := (unhide hN2).cells
    have B0 := hide (below_new w2 (.cells #[.slice (some ⟨G, 0, none⟩) n (n + 1), .int .i64 now] 24))
    have HT0 := hide (heap_alloc_new w2 (.cells #[.slice (some ⟨G, 0, none⟩) n (n + 1), .int .i64 now] 24))
    have hN2a := hide ((unhide hN2).step (unhide B0))
    go_wp2_with fail
    obtain ⟨T, hT⟩ : ∃ T, T = w2.heap.size := ⟨_, rfl⟩
    rw [← hT] at HT0
    refine (unhide HF1 _ (unhide B0)).mono ?_
    rintro r w3 ⟨rfl, b3⟩
    rw [← hT]
    have B3 := hide ((unhide B0).trans (b3.mono (unhide B0).size))
    have hN3 := hide ((unhide hN2a).step b3)
    have HT3 := hide (keep1 (unhide HT0) b3)
    clear b3 hN2 hN2a HT0 B0 HF1 c0 c1 c2 c3 c4 c5 c6 c7 hl hT
    obtain ⟨c0, c1, c2, c3, c4, c5, c6, c7, hl⟩ := (unhide hN3).cells
    have K3 := hide (below_new w3 (.cells #[.int .i64 rd, .string rn, .int .i64 ro, .bool rs] tyPlace))
    have HP3 := hide (heap_alloc_new w3 (.cells #[.int .i64 rd, .string rn, .int .i64 ro, .bool rs] tyPlace))
    have B3a := hide ((unhide B3).trans ((unhide K3).mono (unhide B3).size))
    have hN3a := hide ((unhide hN3).step (unhide K3))
    have HT3a := hide (keep1 (unhide HT3) (unhide K3))
    go_wp2_with fail
    obtain ⟨P, hP⟩ : ∃ P, P = w3.heap.size := ⟨_, rfl⟩
    rw [← hP] at HP3
    refine (unhide HF2 _ (unhide hN3a).below).mono ?_
    rintro r w4 ⟨rfl, b4⟩
    rw [← hP]
    have B4 := hide ((unhide B3a).trans (b4.mono (unhide B3a).size))
    have hN4 := hide ((unhide hN3a).step b4)
    have HT4 := hide (keep1 (unhide HT3a) b4)
    have HP4 := hide (keep1 (unhide HP3) b4)
    clear b4 hN3 hN3a HT3 HT3a HP3 B3 B3a K3 HF2 c0 c1 c2 c3 c4 c5 c6 c7 hl hP
    obtain ⟨c0, c1, c2, c3, c4, c5, c6, c7, hl⟩ := (unhide hN4).cells
    obtain ⟨t0, t1, tl⟩ := tree2 (unhide HT4)
    obtain ⟨p0, p1, p2, p3⟩ := place_cells (unhide HP4)
    have pl := lt1 (unhide HP4)
    have K4 := hide (below_new w4 (.cells #[.int .i64 rd, .string rn, .int .i64 ro, .bool rs] tyRPl))
    have hN5 := hide ((unhide hN4).step (unhide K4))
    have B5 := hide ((unhide B4).trans ((unhide K4).mono (unhide B4).size))
    clear hN4 HT4 HP4 B4 K4
    go_wp2_with fail
    refine (unhide HC3 _ (unhide B5) (unhide hN5).below).mono ?_
    rintro r w6 ⟨rfl, b6⟩
    have hN6 := hide ((unhide hN5).step b6)
    clear b6 hN5 B5 HC3 c0 c1 c2 c3 c4 c5 c6 c7 hl t0 t1 tl p0 p1 p2 p3 pl
    go_wp2_with fail
    refine (unhide HL _).mono ?_
    rintro e w9 ⟨rfl, b9⟩
    have hB9 := hide ((unhide hN6).step b9).below
    clear b9 HL hN6
    go_wp2_with fail
    go_ret
    exact ⟨rfl, unhide hB9⟩
end Go.Proofs.YthmoinagfooncaaGreatDoor.Pt
