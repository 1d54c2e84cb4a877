/- What Sizes answers. -/
import Derived.Test.YtbajjbgeohbdjaaWkTally
import Derived.Test.YtbajjbgeohbdjaaTrCheck
import Derived.Test.YtbajjbgeohbdjaaTrTells
namespace Go.Proofs.Ytbajjbgeohbdjaa.Wk
open Go.RowKit Go.Proofs.Ytbajjbgeohbdjaa.Cu Go.Proofs.Ytbajjbgeohbdjaa.Tr Go.Proofs.Ytbajjbgeohbdjaa.Pm Go.Proofs.Ytbajjbgeohbdjaa.Pt

abbrev z0 : Sp := ⟨⟨#[]⟩, 0, 0, false⟩
def st (l : List Sp) (i : Nat) : Sp := l.getD i z0
structure E4 (w : World) (b o : Nat) (s : Sp) : Prop where
  c0 : w.cell? ⟨b, o, none⟩ = some (.string s.path)
  c1 : w.cell? ⟨b, o + 1, none⟩ = some (.int .i64 s.node)
  c2 : w.cell? ⟨b, o + 2, none⟩ = some (.int .i64 s.depth)
  c3 : w.cell? ⟨b, o + 3, none⟩ = some (.bool s.after)
theorem E4.of {w w' : World} {b o : Nat} {s : Sp} (h : E4 w b o s) (e : ∀ o, w'.cell? ⟨b, o, none⟩ = w.cell? ⟨b, o, none⟩) : E4 w' b o s := ⟨(e _).trans h.c0, (e _).trans h.c1, (e _).trans h.c2, (e _).trans h.c3⟩
/-- steps in memory -/
structure Sg (w : World) (a : Option Addr) (n cap : Nat) (l : List Sp) : Prop where
  len : l.length = n
  cells : n = 0 ∨ ∃ b off, a = some ⟨b, off, none⟩ ∧ b < w.heap.size ∧ ∀ i, i < n → E4 w b (off + i * 4) (st l i)
theorem Sg.below {w w' : World} {a : Option Addr} {n cap : Nat} {l : List Sp} (h : Sg w a n cap l) (hb : Below w.heap.size w w') : Sg w' a n cap l := by
  refine ⟨h.len, ?_⟩
  rcases h.cells with h | ⟨b, off, e, hlt, hc⟩
  · exact .inl h
  · exact .inr ⟨b, off, e, Nat.lt_of_lt_of_le hlt hb.size, fun i hi => (hc i hi).of fun o => hb.cell hlt⟩
/-- numbers, and room for more -/
def iv (l : List Int) : Array Value := (l.map (Value.int .i64)).toArray
theorem iv_size (l : List Int) : (iv l).size = l.length := by simp [iv]
theorem iv_set (l r : List Int) (x y : Int) : (iv (l ++ x :: r)).setIfInBounds l.length (.int .i64 y) = iv (l ++ y :: r) := by
  unfold iv
  simp
theorem iv_zero (n : Nat) : lv n [] = iv (List.replicate n 0) := by
  apply Array.toList_inj.1
  rw [← lv_nil]
  simp [iv]
theorem iv_get (l r : List Int) (x : Int) : (iv (l ++ x :: r))[l.length]? = some (.int .i64 x) := by simp [iv]
abbrev tyI : TypeId := 3
theorem Kt.below {T g mb : Nat} {B : Nat} {w0 w w' : World} (h : Below B w0 w) (k : Kt T g mb w w') (hB : B ≤ w0.heap.size) (h1 : B ≤ T) (h2 : B ≤ g) (h3 : B ≤ mb) : Below B w0 w' :=
  ⟨k.os.trans h.os, k.tape.trans h.tape, k.output.trans h.output, Nat.le_trans h.size k.size, fun j hj => (k.block j (by have := h.size; omega) (by omega) (by omega) (by omega)).trans (h.block j hj)⟩
/-- on the way through the steps -/
structure Sz (w : World) (z T g mb n : Nat) (now : Int) (a : Option Addr) (cap : Nat) (outs rest : List Int) (y : Ty) (X : World) : Prop where
  below : Below w.heap.size w X
  tree : X.heap[w.heap.size]? = some (.cells #[.slice a n cap, .int .i64 now] 24)
  out : X.heap[z]? = some (.cells (iv (outs ++ rest)) tyI)
  tl : Tl X T g mb n y
  lt : w.heap.size < z ∧ z < T ∧ z < g ∧ z < mb
theorem Sz.step {w : World} {z T g mb n : Nat} {now : Int} {a : Option Addr} {cap : Nat} {outs rest : List Int} {y : Ty} {X X' : World} (h : Sz w z T g mb n now a cap outs rest y X) (hb : Below X.heap.size X X') : Sz w z T g mb n now a cap outs rest y X' :=
  ⟨h.below.trans (hb.mono h.below.size), (hb.block _ (Array.getElem?_eq_some_iff.1 h.tree).1).trans h.tree, (hb.block _ (Array.getElem?_eq_some_iff.1 h.out).1).trans h.out, h.tl.below hb, h.lt⟩
theorem Sz.tally {w : World} {z T g mb n : Nat} {now : Int} {a : Option Addr} {cap : Nat} {outs rest : List Int} {y y' : Ty} {X X' : World} (h : Sz w z T g mb n now a cap outs rest y X) (hk : Kt T g mb X X') (ht : Tl X' T g mb n y') : Sz w z T g mb n now a cap outs rest y' X' := by
  obtain ⟨l1, l2, l3, l4⟩ := h.lt
  exact ⟨hk.below h.below (Nat.le_refl _) (by omega) (by omega) (by omega), (hk.block _ (Array.getElem?_eq_some_iff.1 h.tree).1 (by omega) (by omega) (by omega)).trans h.tree, (hk.block _ (Array.getElem?_eq_some_iff.1 h.out).1 (by omega) (by omega) (by omega)).trans h.out, ht, h.lt⟩
theorem Sz.put {w : World} {z T g mb n : Nat} {now : Int} {a : Option Addr} {cap : Nat} {outs rest : List Int} {x v : Int} {y : Ty} {X : World} (h : Sz w z T g mb n now a cap outs (x :: rest) y X) : Sz w z T g mb n now a cap (outs ++ [v]) rest y (X.setCell ⟨z, outs.length, none⟩ (.int .i64 v)) := by
  obtain ⟨l1, l2, l3, l4⟩ := h.lt
  have o : ∀ j, j ≠ z → (X.setCell ⟨z, outs.length, none⟩ (.int .i64 v)).heap[j]? = X.heap[j]? := fun j hj => Below.heap_setCell _ _ _ _ (by show j ≠ z; exact hj)
  refine ⟨h.below.setCell (p := ⟨z, outs.length, none⟩) (Nat.le_of_lt l1) _, (o _ (by omega)).trans h.tree, ?_, ⟨(o _ (by omega)).trans h.tl.box, (o _ (by omega)).trans h.tl.met, h.tl.map.keep (o _ (by omega))⟩, h.lt⟩
  rw [heap_setCell_same _ _ _ _ _ _ h.out, iv_set]
  simp
/-- a zero more: what was not told stays as it was laid -/
theorem Sz.zero {w : World} {z T g mb n : Nat} {now : Int} {a : Option Addr} {cap : Nat} {outs rest : List Int} {y : Ty} {X : World} (h : Sz w z T g mb n now a cap outs (0 :: rest) y X) : Sz w z T g mb n now a cap (outs ++ [0]) rest y X :=
  ⟨h.below, h.tree, by rw [h.out]; simp, h.tl, h.lt⟩
theorem node_at {ns : List Nd} {i : Int} (h : (nodeAt ns i).kind ≠ 0) : ∃ k : Nat, i = (k : Int) ∧ k < ns.length ∧ nodeAt ns i = nd ns k := by
  unfold nodeAt at h ⊢
  split at h
  · exact absurd rfl h
  · rename_i q
    exact ⟨i.toNat, by omega, by omega, if_neg q⟩
theorem szAll_snoc (ns : List Nd) (l : List Sp) (s : Sp) (y : Ty) : szAll ns y (l ++ [s]) = ((szAll ns y l).1 ++ [(szT ns (szAll ns y l).2 s).1], (szT ns (szAll ns y l).2 s).2) := by
  rw [szAll_app]; rfl
theorem few_all {now : Int} {ns : List Nd} (hc : checkP now ns = true) : ∀ (l : List Sp) (k : Nat) (y : Ty), Few k y → Few (k + l.length) (szAll ns y l).2
  | [], k, y, h => h
  | s :: l, k, y, h => by
    have := few_all hc l (k + 1) _ (few_step hc h s).1
    rw [szAll, List.length_cons, show k + (l.length + 1) = k + 1 + l.length by omega]
    exact this
set_option maxRecDepth 100000 in
set_option maxHeartbeats 4000000 in
theorem sizesW_any (now : Int) (a : Option Addr) (n cap : Nat) (ns : List Nd) (al : Option Addr) (ln lc : Nat) (l : List Sp) (w : World) (hg : Ng w a n cap ns) (hs : Sm ns) (hl : Sg w al ln lc l) (hn : ln ≤ 100000) (hok : ∀ s ∈ l, Ok s) :
    Calls Try.prog 10 #[.agg #[.slice a n cap, .int .i64 now], .slice al ln lc] w fun r w' => ∃ z, r = .returned (.slice (some ⟨z, 0, none⟩) ln ln) ∧ w.heap.size ≤ z ∧ w'.heap[z]? = some (.cells (iv (sizesP now ns l)) tyI) ∧ Below w.heap.size w w' := by
  have hmk := made_int ln (by omega)
  rw [iv_zero] at hmk
  obtain ⟨zv, hzv⟩ : ∃ zv, zv = iv (List.replicate ln 0) := ⟨_, rfl⟩
  rw [← hzv] at hmk
  have HZV := hide hzv
  obtain ⟨W1, hW1⟩ : ∃ W1, W1 = (w.alloc (.cells #[.slice a n cap, .int .i64 now] 24)).alloc (.cells zv tyI) := ⟨_, rfl⟩
  have h2n := two_new w #[.slice a n cap, .int .i64 now] zv 24 tyI
  rw [← hW1] at h2n
  obtain ⟨e1, e2, hb1, hs1⟩ := h2n
  have HC : Hid (Calls Try.prog 8 #[.agg #[.slice a n cap, .int .i64 now]] W1 fun e w' => e = .returned (.bool (checkP now ns)) ∧ Below W1.heap.size W1 w') := checkAny now (hg.below hb1) hs
  have hlen := hl.len
  have hN : n ≤ 1000000 := by rw [← hg.len]; exact hs.hn
  have hP : sizesP now ns l = if checkP now ns then (szAll ns ⟨0, [], []⟩ l).1 else List.replicate l.length 0 := rfl
  obtain ⟨P, hPe⟩ : ∃ P, P = sizesP now ns l := ⟨_, rfl⟩
  rw [← hPe] at hP ⊢
  have HP := hide hP
  have HG := hide hg
  have HLs := hide hl
  have HOK := hide hok
  have E1 := hide e1
  have E2 := hide e2
  have HB1 := hide hb1
  clear hzv hPe hP hg hs hl hok e1 e2 hb1
  cases hq : checkP now ns with
  | false =>
    rw [hq] at HC HP
    obtain rfl : P = List.replicate l.length 0 := unhide HP
    go_enter Try.func10, Try.ntmps10
    go_upto_region 2 with fail
    rw [← hW1]
    have c0 : W1.cell? ⟨w.heap.size, 0, none⟩ = some (.slice a n cap) := by rw [cell_of_row _ _ _ _ _ _ (unhide E1)]; rfl
    have c1 : W1.cell? ⟨w.heap.size, 1, none⟩ = some (.int .i64 now) := by rw [cell_of_row _ _ _ _ _ _ (unhide E1)]; rfl
    clear hW1 hmk
    go_wp2_with fail
    refine (unhide HC).mono ?_
    rintro r w2 ⟨rfl, b2⟩
    have HB2 := hide b2
    clear b2 HC
    go_wp2
    go_ret
    refine ⟨w.heap.size + 1, rfl, by omega, ?_, (unhide HB1).trans ((unhide HB2).mono (by omega))⟩
    rw [(unhide HB2).block _ (by omega), unhide E2, unhide HZV, hlen]
  | true =>
    rw [hq] at HC HP
    have HP : Hid (P = (szAll ns ⟨0, [], []⟩ l).1) := unhide HP
    have hmb := made_bool n hN
    obtain ⟨bz, hbz⟩ : ∃ bz, bz = bv n [] := ⟨_, rfl⟩
    rw [← hbz] at hmb
    replace hbz := hide hbz
    have HQ := hide hq
    clear hq
    go_enter Try.func10, Try.ntmps10
    go_upto_region 2 with fail
    rw [← hW1]
    have c0 : W1.cell? ⟨w.heap.size, 0, none⟩ = some (.slice a n cap) := by rw [cell_of_row _ _ _ _ _ _ (unhide E1)]; rfl
    have c1 : W1.cell? ⟨w.heap.size, 1, none⟩ = some (.int .i64 now) := by rw [cell_of_row _ _ _ _ _ _ (unhide E1)]; rfl
    clear hW1 hmk
    go_wp2_with fail
    refine (unhide HC).mono ?_
    rintro r w2 ⟨rfl, b2⟩
    have t2 := (b2.block w.heap.size (by omega)).trans (unhide E1)
    have o2 := (b2.block (w.heap.size + 1) (by omega)).trans (unhide E2)
    have d0 : w2.cell? ⟨w.heap.size, 0, none⟩ = some (.slice a n cap) := by rw [cell_of_row _ _ _ _ _ _ t2]; rfl
    have HB2 := hide ((unhide HB1).trans (b2.mono (by omega)))
    have T2 := hide t2
    have O2 := hide o2
    have hs2 : w.heap.size + 2 ≤ w2.heap.size := by have := b2.size; omega
    have hw2 : w.heap.size < w2.heap.size := by omega
    clear b2 t2 o2 HC c0 c1 E1 E2 HB1
    have hmm := @run_makeMap Try.prog
    go_upto_region 5 with fail
    obtain ⟨W4, hW4⟩ : ∃ W4, W4 = ((w2.alloc (.cells bz 4)).alloc (.map #[] 0)).alloc (.cells #[.int .i64 0, .slice (some ⟨w2.heap.size, 0, none⟩) n n, .map (some (w2.heap.size + 1))] tyY) := ⟨_, rfl⟩
    have hM : Hid (Sz w (w.heap.size + 1) (w2.heap.size + 2) w2.heap.size (w2.heap.size + 1) n now a cap (szAll ns ⟨0, [], []⟩ (l.take 0)).1 (List.replicate ln 0) (szAll ns ⟨0, [], []⟩ (l.take 0)).2 W4) := by
      have a1 : (w2.alloc (.cells bz 4)).heap[w2.heap.size]? = some (.cells bz 4) := heap_alloc_new _ _
      have m1 := SMp.made (w2.alloc (.cells bz 4))
      rw [World.size_alloc] at m1
      have a3 := heap_alloc_new ((w2.alloc (.cells bz 4)).alloc (.map #[] 0)) (.cells #[.int .i64 0, .slice (some ⟨w2.heap.size, 0, none⟩) n n, .map (some (w2.heap.size + 1))] tyY)
      rw [← hW4, World.size_alloc, World.size_alloc] at a3
      have hb : Below w2.heap.size w2 W4 := by rw [hW4]; exact (((Below.refl _ _).alloc (Nat.le_refl _) _).alloc (by simp) _).alloc (by simp; omega) _
      have o1 : W4.heap[w2.heap.size]? = some (.cells bz 4) := by
        rw [hW4]; exact (Below.heap_alloc _ _ _ (by simp; omega)).trans ((Below.heap_alloc _ _ _ (by simp)).trans a1)
      have o2 : SMp W4 (w2.heap.size + 1) [] := m1.keep (by rw [hW4]; exact Below.heap_alloc _ _ _ (by simp))
      exact ⟨(unhide HB2).trans (hb.mono (by omega)), (hb.block _ hw2).trans (unhide T2), by rw [hb.block _ (by omega), unhide O2, unhide HZV]; rfl, ⟨a3, by rw [o1, unhide hbz]; rfl, o2⟩, by omega⟩
    rw [← hW4]
    have hz1 : w.heap.size + 1 < w2.heap.size := by omega
    obtain ⟨z, hz⟩ : ∃ z, z = w.heap.size + 1 := ⟨_, rfl⟩
    obtain ⟨g, hg⟩ : ∃ g, g = w2.heap.size := ⟨_, rfl⟩
    obtain ⟨mb, hmbe⟩ : ∃ mb, mb = w2.heap.size + 1 := ⟨_, rfl⟩
    obtain ⟨T, hT⟩ : ∃ T, T = w2.heap.size + 1 + 1 := ⟨_, rfl⟩
    have hM : Hid (Sz w z T g mb n now a cap (szAll ns ⟨0, [], []⟩ (l.take 0)).1 (List.replicate ln 0) (szAll ns ⟨0, [], []⟩ (l.take 0)).2 W4) := by
      rw [hz, hT, hg, hmbe]; exact hM
    rw [← hz, ← hT, ← hg]
    have hwz : w.heap.size ≤ z := by omega
    clear hW4 hmm hmb hz hg hmbe hT d0 T2 O2 HB2 HZV hbz hs2 hw2 hz1
    go_wp2_with fail
    go_loopw [25] (fun i wr => ∃ k : Nat, k ≤ ln ∧ i = .int .i64 k ∧ Hid (Sz w z T g mb n now a cap (szAll ns ⟨0, [], []⟩ (l.take k)).1 (List.replicate (ln - k) 0) (szAll ns ⟨0, [], []⟩ (l.take k)).2 wr)) (fun i _ => ln - (intOf i).toNat)
    case atStart => exact ⟨0, Nat.zero_le _, rfl, hM⟩
    case round =>
      clear hM
      obtain ⟨k, hk, rfl, hM⟩ := hrel
      by_cases hlt : k < ln
      · have hlt' : (k : Int) < (ln : Int) := by omega
        have hkl : k < l.length := by omega
        obtain ⟨s, hse⟩ : ∃ s, s = st l k := ⟨_, rfl⟩
        have hsg : l[k] = s := by rw [hse]; simp [st, List.getD, List.getElem?_eq_getElem hkl]
        have hsm : s ∈ l := by rw [← hsg]; exact List.getElem_mem hkl
        have htk : l.take (k + 1) = l.take k ++ [s] := by rw [List.take_succ_eq_append_getElem hkl, hsg]
        obtain ⟨y, hye⟩ : ∃ y, y = (szAll ns ⟨0, [], []⟩ (l.take k)).2 := ⟨_, rfl⟩
        obtain ⟨outs, hoe⟩ : ∃ outs, outs = (szAll ns ⟨0, [], []⟩ (l.take k)).1 := ⟨_, rfl⟩
        have hol : outs.length = k := by rw [hoe, szAll_len, List.length_take]; omega
        have hnext : Hid ((szAll ns ⟨0, [], []⟩ (l.take (k + 1))).1 = outs ++ [(szT ns y s).1] ∧ (szAll ns ⟨0, [], []⟩ (l.take (k + 1))).2 = (szT ns y s).2) := by
          rw [htk, szAll_snoc, ← hye, ← hoe]; exact ⟨rfl, rfl⟩
        have hfew : Few k y := by
          have := few_all (unhide HQ) (l.take k) 0 ⟨0, [], []⟩ ⟨by decide, by simp, by simp⟩
          rw [← hye, List.length_take, Nat.zero_add] at this
          rwa [show min k l.length = k by omega] at this
        have hfs := (few_step (unhide HQ) hfew s).2
        rw [← hye, ← hoe] at hM
        rw [show ln - k = (ln - (k + 1)) + 1 by omega, List.replicate_succ] at hM
        obtain ⟨rest, hre⟩ : ∃ rest, rest = List.replicate (ln - (k + 1)) (0 : Int) := ⟨_, rfl⟩
        rw [← hre] at hM
        replace hre := hide hre
        have hokS := unhide HOK s hsm
        have hsz := sz_le (unhide HQ) s.node
        have h4 : ∃ b off, al = some ⟨b, off, none⟩ ∧ b < wr.heap.size ∧ E4 wr b (off + k * 4) s := by
          rcases ((unhide HLs).below (unhide hM).below).cells with h0 | ⟨b, off, h1, h2, h3⟩
          · omega
          · exact ⟨b, off, h1, h2, by rw [hse]; exact h3 k hlt⟩
        obtain ⟨b, off, rfl, hbw, h4⟩ := h4
        clear hse hsg hsm htk hye hoe
        obtain ⟨p, nd0, dp, af⟩ := s
        obtain ⟨q0, q1, q2, q3⟩ := h4
        simp only at q0 q1 q2 q3 hsz hfs
        have hT := (unhide hM).tree
        have t0 : wr.cell? ⟨w.heap.size, 0, none⟩ = some (.slice a n cap) := by rw [cell_of_row _ _ _ _ _ _ hT]; rfl
        have t1 : wr.cell? ⟨w.heap.size, 1, none⟩ = some (.int .i64 now) := by rw [cell_of_row _ _ _ _ _ _ hT]; rfl
        have hwr : w.heap.size < wr.heap.size := (Array.getElem?_eq_some_iff.1 hT).1
        obtain ⟨X1, hX1⟩ : ∃ X1, X1 = wr.alloc (.cells (sa ⟨p, nd0, dp, af⟩) tyS) := ⟨_, rfl⟩
        have hbX1 : Below wr.heap.size wr X1 := by rw [hX1]; exact (Below.refl _ _).alloc (Nat.le_refl _) _
        have hsX1 : X1.heap[wr.heap.size]? = some (.cells (sa ⟨p, nd0, dp, af⟩) tyS) := by rw [hX1]; exact heap_alloc_new _ _
        have M1 := hide ((unhide hM).step hbX1)
        have HN := hide (nodeOf_any a n cap ns now nd0 X1 ((unhide HG).below (unhide M1).below))
        have HFew := hide hfew
        have HFs := hide hfs
        have HHs := hide hsX1
        have HokS := hide hokS
        clear hT hfew hfs hokS hbX1 hsX1
        go_upto_region 8 with fail
        rw [← hX1]
        obtain ⟨s0, s1, s2, s3, -⟩ := step_look (unhide HHs)
        simp only at s0 s1 s2 s3
        have hT1 := (unhide M1).tree
        have u0 : X1.cell? ⟨w.heap.size, 0, none⟩ = some (.slice a n cap) := by rw [cell_of_row _ _ _ _ _ _ hT1]; rfl
        have u1 : X1.cell? ⟨w.heap.size, 1, none⟩ = some (.int .i64 now) := by rw [cell_of_row _ _ _ _ _ _ hT1]; rfl
        clear hX1 q0 q1 q2 q3 t0 t1 hT1 hbw
        go_wp2_with fail
        refine (unhide HN).mono ?_
        rintro r X2 ⟨⟨da, dc, la, lc', rfl⟩, hb2⟩
        have M2 := hide ((unhide M1).step hb2)
        have hs2 := (hb2.block _ (Array.getElem?_eq_some_iff.1 (unhide HHs)).1).trans (unhide HHs)
        have HSzT := hide (fun (h : (nodeAt ns nd0).kind = 0) => show szT ns y ⟨p, nd0, dp, af⟩ = (0, y) by unfold szT; rw [if_pos h])
        have HSzF := hide (fun (h : (nodeAt ns nd0).kind ≠ 0) (h2 : (nodeAt ns nd0).kind ≠ 2) => show szT ns y ⟨p, nd0, dp, af⟩ = ((if nd0.toNat ∈ y.met then 0 else (szP (nodeAt ns nd0) : Int)), if nd0.toNat ∈ y.met then y else ⟨y.bytes + szP (nodeAt ns nd0), nd0.toNat :: y.met, y.beg⟩) by
          unfold szT; rw [if_neg h, if_pos h2]; split <;> rfl)
        have HSzA := hide (fun (h : (nodeAt ns nd0).kind = 2) (h2 : af = true) => show szT ns y ⟨p, nd0, dp, af⟩ = (endV y ⟨p, nd0, dp, af⟩, endY y ⟨p, nd0, dp, af⟩) by
          unfold szT; rw [if_neg (by rw [h]; decide), if_neg (by rw [h]; decide), if_pos h2])
        have HSzB := hide (fun (h : (nodeAt ns nd0).kind = 2) (h2 : af = false) => show szT ns y ⟨p, nd0, dp, af⟩ = (0, ⟨y.bytes, y.met, upd ⟨p, nd0, dp, af⟩ y.bytes y.beg⟩) by
          unfold szT; rw [if_neg (by rw [h]; decide), if_neg (by rw [h]; decide), if_neg (by rw [h2]; simp)])
        have HNA := hide (fun (h : (nodeAt ns nd0).kind ≠ 0) => node_at h)
        rw [(unhide HG).len] at HNA
        obtain ⟨x, hx⟩ : ∃ x, x = nodeAt ns nd0 := ⟨_, rfl⟩
        rw [← hx] at hsz HSzT HSzF HSzA HSzB HNA ⊢
        clear hx
        obtain ⟨X3, hX3⟩ : ∃ X3, X3 = X2.alloc (nO x (.slice da x.data.length dc) (.slice la x.list.length lc')) := ⟨_, rfl⟩
        have hb3 : Below X2.heap.size X2 X3 := by rw [hX3]; exact (Below.refl _ _).alloc (Nat.le_refl _) _
        have hn3 : X3.heap[X2.heap.size]? = some (nO x (.slice da x.data.length dc) (.slice la x.list.length lc')) := by rw [hX3]; exact heap_alloc_new _ _
        have hs3 := (hb3.block _ (Array.getElem?_eq_some_iff.1 hs2).1).trans hs2
        have M3 := hide ((unhide M2).step hb3)
        have hXs : X3.heap.size = X2.heap.size + 1 := by rw [hX3]; simp
        obtain ⟨dl, hdl⟩ : ∃ dl, x.data.length = dl := ⟨_, rfl⟩
        obtain ⟨ll, hll⟩ : ∃ ll, x.list.length = ll := ⟨_, rfl⟩
        rw [hdl, hll] at hX3 hn3 ⊢
        have hws : wr.heap.size < X2.heap.size := (Array.getElem?_eq_some_iff.1 hs2).1
        have HADD := hide (fun (kk : Nat) (hk : kk < n) => add_any T g mb n y kk x da dl dc la ll lc' X3 (unhide M3).tl hk hdl hsz (unhide HFew).b0 (by have := (unhide HFew).b1; omega))
        obtain ⟨o0, o1, o2, o3, o4, o5, o6, o7, o8, o9⟩ := node_cells (show X3.heap[X2.heap.size]? = some (.cells #[_, _, _, _, _, _, _, _, _, _] tyNode) from hn3)
        have HS3 := hide hs3
        clear s0 s1 s2 s3 u0 u1 hb2 HHs M1 M2 hb3 hn3 hs3 hs2 HN
        obtain ⟨s0, s1, s2, s3, -⟩ := step_look (unhide HS3)
        simp only at s0 s1 s2 s3
        go_upto_region 10 with fail
        rw [← hX3]
        clear hX3
        have fin : ∀ (v : Int) (y' : Ty) (X : World), szT ns y ⟨p, nd0, dp, af⟩ = (v, y') → Sz w z T g mb n now a cap (outs ++ [v]) rest y' X → Hid (Sz w z T g mb n now a cap (szAll ns ⟨0, [], []⟩ (l.take (k + 1))).1 (List.replicate (ln - (k + 1)) 0) (szAll ns ⟨0, [], []⟩ (l.take (k + 1))).2 X) := fun v y' X h h' => by
          have e1 := (unhide hnext).1
          have e2 := (unhide hnext).2
          rw [h] at e1 e2
          rw [e1, e2, ← unhide hre]
          exact h'
        have HFin := hide fin
        clear fin hnext hre hM
        by_cases a1 : x.kind = 0
        · have hT := hide (unhide HSzT a1)
          rw [a1] at o0
          have o0' : X3.cell? ⟨X2.heap.size, 0, none⟩ = some (.int .u8 0) := o0
          clear HSzT HSzF HSzA HSzB HNA HADD o0 HFs HFew
          go_wp2_with fail
          go_roundw
          case rel => exact ⟨k + 1, by omega, by go_num, unhide HFin _ _ _ (unhide hT) (unhide M3).zero⟩
          case measure => simp [intOf]; omega
        have a1' : ¬ (x.kind.toNat : Int) = 0 := fun e => a1 (UInt8.toNat_inj.1 (by simpa using e))
        obtain ⟨kk, hkk, hkn, -⟩ := unhide HNA a1
        subst hkk
        have hzl : z < X3.heap.size := (Array.getElem?_eq_some_iff.1 (unhide M3).out).1
        by_cases a2 : x.kind = 2
        case neg =>
          have a2' : ¬ (x.kind.toNat : Int) = 2 := fun e => a2 (UInt8.toNat_inj.1 (by show x.kind.toNat = 2; omega))
          have hT := hide (unhide HSzF a1 a2)
          have HA := hide (unhide HADD kk hkn)
          simp only [Int.toNat_natCast] at hT
          clear HSzT HSzF HSzA HSzB HNA HADD HFs HFew
          obtain ⟨kd, md, us, gr, lk, ti, dt, tg, ls, pa⟩ := x
          unfold na at HA
          simp only at o0 o1 o2 o3 o4 o5 o6 o7 o8 o9 HA hT a1' a2'
          obtain ⟨V, hV⟩ : ∃ V : Int, V = (if kk ∈ y.met then 0 else ((szP ⟨kd, md, us, gr, lk, ti, dt, tg, ls, pa⟩ : Nat) : Int)) := ⟨_, rfl⟩
          obtain ⟨Y', hY'⟩ : ∃ Y' : Ty, Y' = (if kk ∈ y.met then y else ⟨y.bytes + szP ⟨kd, md, us, gr, lk, ti, dt, tg, ls, pa⟩, kk :: y.met, y.beg⟩) := ⟨_, rfl⟩
          rw [← hV, ← hY'] at hT HA
          clear hV hY' a1 a2 hsz hdl hll
          go_wp2_with fail
          refine (unhide HA).mono ?_
          rintro r X4 ⟨rfl, htl4, hkt⟩
          have M4 := hide ((unhide M3).tally hkt htl4)
          have hz4 := (unhide M4).out
          have z0 : X4.cell? ⟨z, k, none⟩ = some (.int .i64 0) := by rw [cell_of_row _ _ _ _ _ _ hz4, ← hol, iv_get]
          have z1 : X4.frozen? ⟨z, k, none⟩ = false := by simp [World.frozen?, hz4]
          have M5 := hide ((unhide M4).put (v := V))
          rw [hol] at M5
          clear htl4 hkt hz4 HA M3 M4 o0 o1 o2 o3 o4 o5 o6 o7 o8 o9 s0 s1 s2 s3 HS3
          go_wp2
          go_roundw
          case rel => exact ⟨k + 1, by omega, by go_num, unhide HFin _ _ _ (unhide hT) (unhide M5)⟩
          case measure => simp [intOf]; omega
        have a2' : (x.kind.toNat : Int) = 2 := by rw [a2]; rfl
        cases af with
        | true =>
          have hT := hide (unhide HSzA a2 rfl)
          have HA := hide (end_any T g mb n y ⟨p, kk, dp, true⟩ X3 (unhide M3).tl (unhide HokS) (fun v hv => by
            have h1 := (unhide HFew).v0 _ (look_mem hv)
            have h2 := (unhide HFew).b1
            have h3 := (unhide HFew).b0
            simp only at h1
            rw [IntWalk.i64_left]; unfold wrap64; omega))
          clear HSzT HSzF HSzA HSzB HNA HADD HFs HFew
          obtain ⟨V, hV⟩ : ∃ V : Int, V = endV y ⟨p, kk, dp, true⟩ := ⟨_, rfl⟩
          obtain ⟨Y', hY'⟩ : ∃ Y' : Ty, Y' = endY y ⟨p, kk, dp, true⟩ := ⟨_, rfl⟩
          rw [← hV, ← hY'] at hT HA
          obtain ⟨kd, md, us, gr, lk, ti, dt, tg, ls, pa⟩ := x
          simp only at o0 o1 o2 o3 o4 o5 o6 o7 o8 o9 a1' a2'
          rw [a2'] at o0
          clear hV hY' a1 a2 hsz hdl hll a1' a2'
          go_wp2_with fail
          refine (unhide HA).mono ?_
          rintro r X4 ⟨rfl, htl4, hkt⟩
          have M4 := hide ((unhide M3).tally hkt htl4)
          have hz4 := (unhide M4).out
          have z0 : X4.cell? ⟨z, k, none⟩ = some (.int .i64 0) := by rw [cell_of_row _ _ _ _ _ _ hz4, ← hol, iv_get]
          have z1 : X4.frozen? ⟨z, k, none⟩ = false := by simp [World.frozen?, hz4]
          have M5 := hide ((unhide M4).put (v := V))
          rw [hol] at M5
          clear htl4 hkt hz4 HA M3 M4 o0 o1 o2 o3 o4 o5 o6 o7 o8 o9 s0 s1 s2 s3 HS3
          go_wp2
          go_roundw
          case rel => exact ⟨k + 1, by omega, by go_num, unhide HFin _ _ _ (unhide hT) (unhide M5)⟩
          case measure => simp [intOf]; omega
        | false =>
          have hT := hide (unhide HSzB a2 rfl)
          obtain ⟨X4, hrun, hm4, hg4⟩ := (unhide M3).tl.map.upd ⟨p, kk, dp, false⟩ (unhide HokS) y.bytes
          obtain ⟨n1, n2, n3⟩ := tl_ne (unhide M3).tl
          obtain ⟨d0, d1, d2, e0⟩ := tally_look (unhide M3).tl
          have k4 : ∀ j, j < X3.heap.size → j ≠ mb → X4.heap[j]? = X3.heap[j]? := fun j hj hne => hg4.block j hj (fun e => hne (Option.some.inj e))
          have ht4 : Tl X4 T g mb n ⟨y.bytes, y.met, upd ⟨p, kk, dp, false⟩ y.bytes y.beg⟩ := ⟨(k4 T (Array.getElem?_eq_some_iff.1 (unhide M3).tl.box).1 n2).trans (unhide M3).tl.box, (k4 g (Array.getElem?_eq_some_iff.1 (unhide M3).tl.met).1 n3).trans (unhide M3).tl.met, hm4⟩
          have M4 := hide ((unhide M3).tally ⟨hg4.os, hg4.tape, hg4.output, hg4.size, fun j hj _ _ h3 => k4 j hj h3⟩ ht4)
          obtain ⟨kd, md, us, gr, lk, ti, dt, tg, ls, pa⟩ := x
          simp only at o0 o1 o2 o3 o4 o5 o6 o7 o8 o9 a1' a2'
          rw [a2'] at o0
          clear HSzT HSzF HSzA HSzB HNA HADD HFs HFew hm4 hg4 k4 ht4 a1 a2 hsz hdl hll a1' a2'
          go_wp2
          go_roundw
          case rel => exact ⟨k + 1, by omega, by go_num, unhide HFin _ _ _ (unhide hT) (unhide M4).zero⟩
          case measure => simp [intOf]; omega
      · obtain rfl : k = ln := by omega
        have HP : Hid (P = (szAll ns ⟨0, [], []⟩ l).1) := by
          show P = _
          have := unhide HP
          simpa using this
        go_wp2
        go_ret
        have h := unhide hM
        rw [List.take_of_length_le (by omega), Nat.sub_self] at h
        refine ⟨z, rfl, hwz, ?_, h.below⟩
        rw [h.out, unhide HP]
        simp
end Go.Proofs.Ytbajjbgeohbdjaa.Wk
