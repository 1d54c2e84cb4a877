/- The iterator of a walk: what it gives, to whatever loop. -/
import Derived.Test.YtbajjbgeohbdjaaWkSmall
import Derived.Test.YtbajjbgeohbdjaaWkRng
import Derived.Shelf.Abstract
import Derived.WalkKit
import Derived.OwnWalkIn
import Derived.TacticsInMore
import Derived.LoopNIn
import Derived.LoopIn
namespace Go.Proofs.Ytbajjbgeohbdjaa.Wk
open Go.RowKit Go.Proofs.Ytbajjbgeohbdjaa.Cu Go.Proofs.Ytbajjbgeohbdjaa.Tr Go.Proofs.Ytbajjbgeohbdjaa.Pm Go.Proofs.Ytbajjbgeohbdjaa.Pt Go.Proofs.Ytbajjbgeohbdjaa.Rng

attribute [local go_sem] Oper.semAt_some

abbrev tyV : TypeId := 59
abbrev enS (s : Sp) : Array Value := #[.agg (sa s)]
theorem below_grown {w w' : World} (h : Below w.heap.size w w') : w.grownBy w' none := ⟨h.os, h.tape, h.output, h.size, fun k hk _ => h.block k hk⟩
/-- what the iterator reads -/
structure Rd (w0 : World) (tb fb : Nat) (a : Option Addr) (n cap : Nat) (e : Ev) (deep : Int) (s0 : Sp) (W : World) : Prop where
  below : Below w0.heap.size w0 W
  trip : W.heap[tb]? = some (.cells (ta a n cap e deep) tyT)
  first : W.heap[fb]? = some (.cells (sa s0) tyS)
/-- the iterator's own boxes -/
structure Ow (l tb Y : Nat) (R : Nat → Prop) (W : World) : Prop where
  y : Boxed W Y tyV (.func (.yield l) #[] #[])
  v : Boxed W (Y + 1) tyV (.func (.func 31) #[] #[.pointer (some ⟨Y, 0, none⟩), .pointer (some ⟨tb, 0, none⟩), .pointer (some ⟨Y + 1, 0, none⟩)])
  ny : ¬ R Y
  nv : ¬ R (Y + 1)
  lt : ∀ k, R k → k < W.heap.size
theorem Ow.move {l tb Y B : Nat} {R R' : Nat → Prop} {W W' : World} (h : Ow l tb Y R W) (hB : B ≤ Y) (m : RMove B R R' W W') : Ow l tb Y R' W' := by
  have h1 := h.y.lt
  have h2 := h.v.lt
  refine ⟨(m.block Y hB h1 h.ny).trans h.y, (m.block (Y + 1) (by omega) h2 h.nv).trans h.v, fun q => ?_, fun q => ?_, fun k hk => (m.row k hk).1⟩
  · rcases (m.row _ q).2 with q | q
    · exact h.ny q
    · omega
  · rcases (m.row _ q).2 with q | q
    · exact h.nv q
    · omega
theorem trip_look {w0 W : World} {tb fb : Nat} {a : Option Addr} {n cap : Nat} {e : Ev} {deep : Int} {s0 : Sp} (h : Rd w0 tb fb a n cap e deep s0 W) :
    W.cell? ⟨tb, 0, none⟩ = some (.slice a n cap) ∧ W.cell? ⟨tb, 1, none⟩ = some (.int .i64 e.user) ∧ W.cell? ⟨tb, 2, none⟩ = some (.int .i64 e.group) ∧ W.cell? ⟨tb, 3, none⟩ = some (.int .i64 e.mask) ∧ W.cell? ⟨tb, 4, none⟩ = some (.int .i64 e.dir) ∧ W.cell? ⟨tb, 5, none⟩ = some (.int .i64 deep) := by
  refine ⟨?_, ?_, ?_, ?_, ?_, ?_⟩ <;> (rw [cell_of_row _ _ _ _ _ _ h.trip]; rfl)
theorem entry_look {W : World} {b : Nat} {x y : Value} (h : W.heap[b]? = some (.cells #[x, y] 71)) : W.cell? ⟨b, 0, none⟩ = some x ∧ W.cell? ⟨b, 1, none⟩ = some y := by
  refine ⟨?_, ?_⟩ <;> (rw [cell_of_row _ _ _ _ _ _ h]; rfl)

section
variable (now : Int) (w0 : World) (tb fb Y : Nat) (a : Option Addr) (n cap : Nat) (ns : List Nd) (e : Ev) (deep : Int) (s0 : Sp) (xs : List Sp) (l B : Nat) (J Jx : (Nat → Prop) → List Sp → World → Prop)
/-- what the loop's body promises -/
structure Loopy : Prop where
  own : ∀ R, OwnFrom B (J R)
  kept : KeptR B J
  rd : ∀ R pre W, J R pre W → Rd w0 tb fb a n cap e deep s0 W
  yield : ∀ m R pre x W1, B ≤ W1.heap.size → (∀ k, R k → k < W1.heap.size) → J R pre W1 → pre ++ [x] <+: xs → YieldAt Fence.wide m Try.prog l (enS x) W1 fun r W' =>
      ∃ R', RMove B R R' W1 W' ∧ ((r = .returned (.bool true) ∧ J R' (pre ++ [x]) W') ∨ (r = .returned (.bool false) ∧ Jx R' (pre ++ [x]) W'))
/-- on the way through a directory: what was told so far, the boxes, the step's box -/
structure Md (R0 : Nat → Prop) (W0 : World) (fst : Sp) (pre : List Sp) (Rj : Nat → Prop) (X : World) : Prop where
  j : J Rj pre X
  m : RMove B R0 Rj W0 X
  o : Ow l tb Y Rj X
  n : ¬ Rj W0.heap.size
  s : X.heap[W0.heap.size]? = some (.cells (sa fst) tyS)
variable {now w0 tb fb Y a n cap ns e deep s0 xs l B J Jx}
theorem Md.below {R0 : Nat → Prop} {W0 : World} {fst : Sp} {pre : List Sp} {Rj : Nat → Prop} {X X' : World} (h : Md tb Y l B J R0 W0 fst pre Rj X) (hL : Loopy w0 tb fb a n cap e deep s0 xs l B J Jx) (hB : B ≤ Y) (hb : Below X.heap.size X X') : Md tb Y l B J R0 W0 fst pre Rj X' := by
  have hm : RMove B Rj Rj X X' := RMove.grown h.o.lt (below_grown hb)
  exact ⟨hL.own Rj _ _ _ none h.j (below_grown hb) (fun r h => by cases h), h.m.trans hm, h.o.move hB hm, h.n, (hb.block _ (Array.getElem?_eq_some_iff.1 h.s).1).trans h.s⟩
theorem Md.look {R0 : Nat → Prop} {W0 : World} {fst : Sp} {pre : List Sp} {Rj : Nat → Prop} {X : World} (h : Md tb Y l B J R0 W0 fst pre Rj X) (hL : Loopy w0 tb fb a n cap e deep s0 xs l B J Jx) :
    (X.cell? ⟨tb, 0, none⟩ = some (.slice a n cap) ∧ X.cell? ⟨tb, 1, none⟩ = some (.int .i64 e.user) ∧ X.cell? ⟨tb, 2, none⟩ = some (.int .i64 e.group) ∧ X.cell? ⟨tb, 3, none⟩ = some (.int .i64 e.mask) ∧ X.cell? ⟨tb, 4, none⟩ = some (.int .i64 e.dir) ∧ X.cell? ⟨tb, 5, none⟩ = some (.int .i64 deep)) ∧
    (X.cell? ⟨W0.heap.size, 0, none⟩ = some (.string fst.path) ∧ X.cell? ⟨W0.heap.size, 1, none⟩ = some (.int .i64 fst.node) ∧ X.cell? ⟨W0.heap.size, 2, none⟩ = some (.int .i64 fst.depth) ∧ X.cell? ⟨W0.heap.size, 3, none⟩ = some (.bool fst.after) ∧ X.frozen? ⟨W0.heap.size, 3, none⟩ = false) ∧
    X.cell? ⟨Y, 0, none⟩ = some (.func (.yield l) #[] #[]) ∧ X.cell? ⟨Y + 1, 0, none⟩ = some (.func (.func 31) #[] #[.pointer (some ⟨Y, 0, none⟩), .pointer (some ⟨tb, 0, none⟩), .pointer (some ⟨Y + 1, 0, none⟩)]) :=
  ⟨trip_look (hL.rd _ _ _ h.j), step_look h.s, h.o.y.cell, h.o.v.cell⟩
variable (now w0 tb fb Y a n cap ns e deep s0 xs l B J Jx)
/-- how visit leaves -/
def VisE (R : Nat → Prop) (W : World) (pre : List Sp) (r : Ending) (W' : World) : Prop := ∃ (q : Bool) (R' : Nat → Prop), r = .returned (.bool q) ∧ RMove B R R' W W' ∧ (q = true → J R' pre W') ∧ (q = false → ∃ p', p' <+: xs ∧ Jx R' p' W')
set_option maxRecDepth 100000 in
set_option maxHeartbeats 4000000 in
theorem visit_succ (hc : checkP now ns = true) (hg : Ng w0 a n cap ns) (hL : Loopy w0 tb fb a n cap e deep s0 xs l B J Jx) (hBY : B ≤ Y) (f : Nat)
    (IH : ∀ d p k R pre W, In ns f k → d + f ≤ 1000 → p.size + f * 65 ≤ 100000 → J R pre W → Ow l tb Y R W → B ≤ W.heap.size → pre ++ wkP ns e deep f d p k <+: xs → Calls Try.prog 31 #[.agg (sa ⟨p, k, d, false⟩), .pointer (some ⟨Y, 0, none⟩), .pointer (some ⟨tb, 0, none⟩), .pointer (some ⟨Y + 1, 0, none⟩)] W fun r W' => VisE xs B J Jx R W (pre ++ wkP ns e deep f d p k) r W')
    (d : Nat) (p : ByteArray) (k : Nat) (R : Nat → Prop) (pre : List Sp) (W : World) (hi : In ns (f + 1) k) (hd : d + (f + 1) ≤ 1000) (hp : p.size + (f + 1) * 65 ≤ 100000) (hJ : J R pre W) (hO : Ow l tb Y R W) (hW : B ≤ W.heap.size) (hx : pre ++ wkP ns e deep (f + 1) d p k <+: xs) :
    Calls Try.prog 31 #[.agg (sa ⟨p, k, d, false⟩), .pointer (some ⟨Y, 0, none⟩), .pointer (some ⟨tb, 0, none⟩), .pointer (some ⟨Y + 1, 0, none⟩)] W fun r W' => VisE xs B J Jx R W (pre ++ wkP ns e deep (f + 1) d p k) r W' := by
  have hkn : k < n := by rw [← hg.len]; exact hi.lt
  obtain ⟨S, hS⟩ : ∃ S, S = W.heap.size := ⟨_, rfl⟩
  obtain ⟨W1, hW1⟩ : ∃ W1, W1 = W.alloc (.cells (sa ⟨p, k, d, false⟩) tyS) := ⟨_, rfl⟩
  have hs1 : W1.heap[S]? = some (.cells (sa ⟨p, k, d, false⟩) tyS) := by rw [hW1, hS]; exact heap_alloc_new W _
  have m1 : RMove B R R W W1 := by rw [hW1]; exact RMove.grown hO.lt (World.grownBy_alloc W _ none)
  have hJ1 : J R pre W1 := by rw [hW1]; exact (hL.own R).alloc _ hJ
  have hO1 := hO.move hBY m1
  have hB1 : B ≤ W1.heap.size := Nat.le_trans hW m1.size
  have hnS : ¬ R S := fun h => by have := hO.lt _ h; omega
  obtain ⟨fst, hfst⟩ : ∃ fst : Sp, fst = ⟨p, k, d, false⟩ := ⟨_, rfl⟩
  obtain ⟨A, hA⟩ : ∃ A, A = wkP ns e deep (f + 1) d p k := ⟨_, rfl⟩
  have hA1 : ∃ t, A = fst :: t := by
    rw [hA, hfst]; unfold wkP
    split
    · exact ⟨_, rfl⟩
    · exact ⟨_, rfl⟩
  rw [← hA] at hx ⊢
  have hx1 : pre ++ [fst] <+: xs := by
    obtain ⟨t, ht⟩ := hA1
    obtain ⟨u, hu⟩ := hx
    exact ⟨t ++ u, by rw [← hu, ht]; simp⟩
  refine (callsIn_wide (n := 3)).1 ?_
  refine callsIn_of_wp Try.func31 rfl trivial ?_ rfl
  simp only [Try.ntmps31, List.size_toArray, List.length_cons, List.length_nil, Nat.reduceAdd, Nat.reduceSub, Array.replicate_succ, Array.replicate_zero, List.push_toArray, List.append_toArray, List.nil_append, List.cons_append]
  obtain ⟨fn, tmps, assign, body, hy, hR⟩ := hL.yield 2 R pre fst W1 hB1 hO1.lt hJ1 hx1
  rw [hfst] at hy
  have cy := hO1.y.cell
  obtain ⟨s0c, s1c, s2c, s3c, -⟩ := step_look hs1
  simp only at s0c s1c s2c s3c
  have HM1 := hide m1
  have HL := hide hL
  have HI := hide IH
  have HO1 := hide hO1
  have HX := hide hx
  have HX1 := hide hx1
  have HA := hide hA
  have HA1 := hide hA1
  have HF := hide hfst
  have HG := hide hg
  have HS1 := hide hs1
  have hYl := hO.y.lt
  have cy0 := hO.y.cell
  clear cy s0c s1c s2c s3c
  subst hW1
  subst hS
  clear hL IH hO hO1 hx hx1 hA hA1 hfst hg hs1 m1 hJ hJ1
  gi_wp2
  refine hR.mono ?_
  clear hR hy cy0 hB1
  rintro r W2 ⟨R2, m2, (⟨rfl, hJ2⟩ | ⟨rfl, hJx2⟩)⟩
  case inr =>
    have HM2 := hide m2
    have HJ2 := hide hJx2
    clear m2 hJx2
    gi_wp2
    refine bodyPost_ret (results_tmp (fn := Try.f31) (t := 5) rfl _ _ _) rfl ?_
    exact ⟨false, R2, rfl, (unhide HM1).trans (unhide HM2), fun h => by (cases h), fun _ => ⟨_, unhide HX1, unhide HJ2⟩⟩
  have hs2 := (m2.block W.heap.size hW (by simp) hnS).trans (unhide HS1)
  have hS2 : ¬ R2 W.heap.size := fun h => by
    rcases (m2.row _ h).2 with q | q
    · exact hnS q
    · simp at q; omega
  obtain ⟨u, g, mk, dr⟩ := e
  have M2 := hide (show Md tb Y l B J R W ⟨p, k, d, false⟩ (pre ++ [fst]) R2 W2 from ⟨hJ2, (unhide HM1).trans m2, (unhide HO1).move hBY m2, hS2, hs2⟩)
  obtain ⟨⟨t0, t1, t2, t3, t4, t5⟩, ⟨s0c, s1c, s2c, s3c, -⟩, cy, cv⟩ := (unhide M2).look (unhide HL)
  simp only at s0c s1c s2c s3c t1 t2 t3 t4
  have HD := hide (isDir_any a n cap ns ⟨u, g, mk, dr⟩ deep p k d false W2 ((unhide HG).below ((unhide HL).rd _ _ _ hJ2).below) hkn)
  clear hs2 hJ2 HM1 HO1 HS1 hnS HX1 hS2
  obtain ⟨I, hI⟩ : ∃ I, I = decide ((nd ns k).kind = 2) := ⟨_, rfl⟩
  rw [← hI] at HD
  have HIe := hide hI
  clear hI m2
  cases I with
  | false =>
    gi_wp2_with (refine ⟨trivial, ?_⟩; gi_at_call 32; refine (callsIn_wide.2 (unhide HD)).mono ?_; rintro r W3 ⟨rfl, hb3⟩)
    refine bodyPost_ret (results_tmp (fn := Try.f31) (t := 5) rfl _ _ _) rfl ?_
    have M3 := (unhide M2).below (unhide HL) hBY hb3
    refine ⟨true, R2, rfl, M3.m, fun _ => ?_, fun h => by (cases h)⟩
    have eA : A = [fst] := by
      rw [unhide HA, unhide HF]; unfold wkP
      rw [if_neg (of_decide_eq_false (unhide HIe).symm)]
    rw [eA]
    exact M3.j
  | true =>
  have hk2 : (nd ns k).kind = 2 := of_decide_eq_true (unhide HIe).symm
  obtain ⟨L, hLe⟩ : ∃ L, L = lsP ns ⟨u, g, mk, dr⟩ deep k d := ⟨_, rfl⟩
  have eA : Hid (A = fst :: (wkL (wkP ns ⟨u, g, mk, dr⟩ deep f (d + 1)) p L ++ [⟨p, k, d, true⟩])) := by
    show A = _
    rw [unhide HA, unhide HF, hLe]
    conv => lhs; unfold wkP
    rw [if_pos hk2]
  have HK2 := hide hk2
  obtain ⟨G, hGe⟩ : ∃ G, G = wkL (wkP ns ⟨u, g, mk, dr⟩ deep f (d + 1)) p := ⟨_, rfl⟩
  rw [← hGe] at eA
  have HG1 := hide (fun (M : List En) (x : En) => show G (M ++ [x]) = G M ++ wkP ns ⟨u, g, mk, dr⟩ deep f (d + 1) (jnP p x.name) x.node.toNat by rw [hGe, wkL_app]; simp [wkL])
  have HG0 := hide (show G [] = [] by rw [hGe]; rfl)
  have HG2 := hide (fun (M N : List En) => show G (M ++ N) = G M ++ G N by rw [hGe, wkL_app])
  have HLS := hide (fun W (hW : Below w0.heap.size w0 W) => listedW_any a n cap ns ⟨u, g, mk, dr⟩ deep p k d false w0 W (unhide HG) hW hkn)
  rw [← hLe] at HLS
  have HL5 : Hid (L.length ≤ 512) := by
    have hlp := dr_list hc ⟨hi.pos, hi.lt, hk2⟩
    unfold listP at hlp
    simp only [Bool.and_eq_true, decide_eq_true_eq] at hlp
    show L.length ≤ 512
    rw [hLe]
    unfold lsP
    split
    · exact hlp.1
    · exact Nat.zero_le _
  have HLm : Hid (∀ x ∈ L, x ∈ (nd ns k).list) := fun x hx => by rw [hLe] at hx; exact lsP_mem hx
  clear hk2 hLe hGe HA HIe
  gi_wp2_with (refine ⟨trivial, ?_⟩; gi_at_call 32; refine (callsIn_wide.2 (unhide HD)).mono ?_; rintro r W3 ⟨rfl, hb3⟩; have M3 := hide ((unhide M2).below (unhide HL) hBY hb3); obtain ⟨⟨t0', t1', t2', t3', t4', t5'⟩, ⟨s0c', s1c', s2c', s3c', -⟩, -, -⟩ := (unhide M3).look (unhide HL); simp only at s0c' s1c' s2c' s3c' t1' t2' t3' t4')
  refine ⟨trivial, ?_⟩
  gi_at_call 33
  refine (callsIn_wide.2 (unhide HLS W3 ((unhide HL).rd _ _ _ (unhide M3).j).below)).mono ?_
  rintro r W4 ⟨⟨la, lc, rfl, heg⟩, hb4⟩
  have M4 := hide ((unhide M3).below (unhide HL) hBY hb4)
  have HEG := hide heg
  obtain ⟨ll, hll⟩ : ∃ ll, ll = L.length := ⟨_, rfl⟩
  rw [← hll]
  have hl5 : ll ≤ 512 := by rw [hll]; exact unhide HL5
  replace hll := hide hll
  clear heg hb4 hb3 M2 M3 HLS HD t0 t1 t2 t3 t4 t5 t0' t1' t2' t3' t4' t5' s0c s1c s2c s3c s0c' s1c' s2c' s3c' cy cv
  gi_wp2
  gi_loopw [20] (fun i wr => ∃ (j : Nat) (Rj : Nat → Prop), j ≤ ll ∧ i = .int .i64 j ∧ Hid (Md tb Y l B J R W ⟨p, k, d, false⟩ (pre ++ [fst] ++ G (L.take j)) Rj wr)) (fun i _ => ll - (intOf i).toNat)
  case atStart => exact ⟨0, R2, Nat.zero_le _, rfl, by rw [List.take_zero, unhide HG0, List.append_nil]; exact unhide M4⟩
  case round =>
    obtain ⟨j, Rj, hj, rfl, hM⟩ := hrel
    clear M4
    by_cases hlt : j < ll
    · have hjl : j < L.length := by rw [← unhide hll]; exact hlt
      have hlt' : (j : Int) < (ll : Int) := by omega
      rcases (unhide HEG).cells with h0 | ⟨eb, eo, rfl, hbl, hcs⟩
      · rw [unhide hll] at hlt; omega
      obtain ⟨x, hxe⟩ : ∃ x, x = en L j := ⟨_, rfl⟩
      have hxg : L[j] = x := by rw [hxe]; simp [en, List.getD, List.getElem?_eq_getElem hjl]
      have hxm : x ∈ L := by rw [← hxg]; exact List.getElem_mem hjl
      obtain ⟨hin, hx1, hxn, -⟩ := hi.child (hung_check hc) (unhide HK2) (unhide HLm x hxm)
      have hnm := name_le hc hi.pos hi.lt (unhide HK2) (unhide HLm x hxm)
      have hnz : x.name.size ≤ 64 := by
        unfold nameP at hnm
        simp only [Bool.and_eq_true, decide_eq_true_eq] at hnm
        omega
      have htk : L.take (j + 1) = L.take j ++ [x] := by rw [List.take_succ_eq_append_getElem hjl, hxg]
      have h2 := hcs j hjl
      rw [← hxe] at h2
      have hrd := (unhide HL).rd _ _ _ (unhide hM).j
      have e0 := (hrd.below.cell hbl).trans h2.c0
      have e1 := (hrd.below.cell hbl).trans h2.c1
      have hebw : eb < wr.heap.size := Nat.lt_of_lt_of_le hbl hrd.below.size
      rw [hxn] at e1
      have HPX : Hid (pre ++ [fst] ++ G (L.take j) ++ wkP ns ⟨u, g, mk, dr⟩ deep f (d + 1) (jnP p x.name) x.node.toNat <+: xs ∧ G (L.take (j + 1)) = G (L.take j) ++ wkP ns ⟨u, g, mk, dr⟩ deep f (d + 1) (jnP p x.name) x.node.toNat) := by
        have e3 : G (L.take (j + 1)) = G (L.take j) ++ wkP ns ⟨u, g, mk, dr⟩ deep f (d + 1) (jnP p x.name) x.node.toNat := by rw [htk]; exact unhide HG1 _ _
        refine ⟨?_, e3⟩
        have e4 : G L = G (L.take (j + 1)) ++ G (L.drop (j + 1)) := by rw [← unhide HG2, List.take_append_drop]
        obtain ⟨t, ht⟩ := unhide HX
        refine ⟨G (L.drop (j + 1)) ++ [⟨p, k, d, true⟩] ++ t, ?_⟩
        rw [← ht, unhide eA, e4, e3]
        simp
      obtain ⟨nm, y0⟩ := x
      simp only at hxn hin hnz e0 e1 HPX
      obtain ⟨y, hy⟩ : ∃ y, y = y0.toNat := ⟨_, rfl⟩
      rw [← hy] at hin e1 HPX
      clear hxe hxg hxm hnm htk h2 hcs hx1 hxn hy
      obtain ⟨X0, hX0⟩ : ∃ X0, X0 = wr.alloc (.cells #[.string nm, .int .i64 y] 71) := ⟨_, rfl⟩
      have hbX : Below wr.heap.size wr X0.drew := by
        have h0 : Below wr.heap.size wr X0 := by rw [hX0]; exact (Below.refl _ _).alloc (Nat.le_refl _) _
        exact ⟨h0.os, h0.tape, h0.output, h0.size, h0.block⟩
      have hEX : X0.drew.heap[wr.heap.size]? = some (.cells #[.string nm, .int .i64 y] 71) := by
        have := heap_alloc_new wr (.cells #[.string nm, .int .i64 y] 71)
        rw [hX0]; exact this
      have MX := hide ((unhide hM).below (unhide HL) hBY hbX)
      have hnE : ¬ Rj wr.heap.size := fun h => by have := (unhide hM).o.lt _ h; omega
      have hBW : B ≤ wr.heap.size := Nat.le_trans hW (unhide hM).m.size
      have HT : Hid (∀ X (Q : Nat → Prop) (pr : List Sp), Md tb Y l B J R W ⟨p, k, d, false⟩ pr Q X → X.heap[wr.heap.size]? = some (.cells #[.string nm, .int .i64 y] 71) → X.cell? ⟨Y + 1, 0, none⟩ = some (.func (.func 31) #[] #[.pointer (some ⟨Y, 0, none⟩), .pointer (some ⟨tb, 0, none⟩), .pointer (some ⟨Y + 1, 0, none⟩)]) ∧ X.cell? ⟨W.heap.size, 0, none⟩ = some (.string p) ∧ X.cell? ⟨W.heap.size, 1, none⟩ = some (.int .i64 k) ∧ X.cell? ⟨W.heap.size, 2, none⟩ = some (.int .i64 d) ∧ X.cell? ⟨W.heap.size, 3, none⟩ = some (.bool false) ∧ X.cell? ⟨wr.heap.size, 0, none⟩ = some (.string nm) ∧ X.cell? ⟨wr.heap.size, 1, none⟩ = some (.int .i64 y)) := fun X Q pr h h' => by
        obtain ⟨-, ⟨a0, a1, a2, a3, -⟩, -, cv⟩ := h.look (unhide HL)
        obtain ⟨b0, b1⟩ := entry_look h'
        exact ⟨cv, a0, a1, a2, a3, b0, b1⟩
      have hS := unhide HT _ _ _ (unhide MX) hEX
      have HKA : Hid (∀ X', Below X0.drew.heap.size X0.drew X' → (X'.cell? ⟨Y + 1, 0, none⟩ = some (.func (.func 31) #[] #[.pointer (some ⟨Y, 0, none⟩), .pointer (some ⟨tb, 0, none⟩), .pointer (some ⟨Y + 1, 0, none⟩)]) ∧ X'.cell? ⟨W.heap.size, 0, none⟩ = some (.string p) ∧ X'.cell? ⟨W.heap.size, 1, none⟩ = some (.int .i64 k) ∧ X'.cell? ⟨W.heap.size, 2, none⟩ = some (.int .i64 d) ∧ X'.cell? ⟨W.heap.size, 3, none⟩ = some (.bool false) ∧ X'.cell? ⟨wr.heap.size, 0, none⟩ = some (.string nm) ∧ X'.cell? ⟨wr.heap.size, 1, none⟩ = some (.int .i64 y)) ∧ Md tb Y l B J R W ⟨p, k, d, false⟩ (pre ++ [fst] ++ G (L.take j)) Rj X' ∧ X'.heap[wr.heap.size]? = some (.cells #[.string nm, .int .i64 y] 71)) := fun X' hb => by
        have h1 := (unhide MX).below (unhide HL) hBY hb
        have h2 := (hb.block _ (Array.getElem?_eq_some_iff.1 hEX).1).trans hEX
        exact ⟨unhide HT _ _ _ h1 h2, h1, h2⟩
      have HW : Hid (∀ X, Calls Try.prog 34 #[.agg #[.string p, .int .i64 k, .int .i64 d, .bool false], .agg #[.string nm, .int .i64 y]] X fun r w' => r = .returned (.agg #[.string (jnP p nm), .int .i64 y, .int .i64 ((d : Int) + 1), .bool false]) ∧ Below X.heap.size X w') := fun X => within_any p nm k y d false X (by omega) (by omega) (by omega)
      have HV : Hid (∀ X, Md tb Y l B J R W ⟨p, k, d, false⟩ (pre ++ [fst] ++ G (L.take j)) Rj X → X.heap[wr.heap.size]? = some (.cells #[.string nm, .int .i64 y] 71) →
          Calls Try.prog 31 #[.agg #[.string (jnP p nm), .int .i64 y, .int .i64 ((d : Int) + 1), .bool false], .pointer (some ⟨Y, 0, none⟩), .pointer (some ⟨tb, 0, none⟩), .pointer (some ⟨Y + 1, 0, none⟩)] X fun r X' =>
            ∃ (q : Bool) (R' : Nat → Prop), r = .returned (.bool q) ∧ ((X'.cell? ⟨Y + 1, 0, none⟩ = some (.func (.func 31) #[] #[.pointer (some ⟨Y, 0, none⟩), .pointer (some ⟨tb, 0, none⟩), .pointer (some ⟨Y + 1, 0, none⟩)]) ∧ X'.cell? ⟨W.heap.size, 0, none⟩ = some (.string p) ∧ X'.cell? ⟨W.heap.size, 1, none⟩ = some (.int .i64 k) ∧ X'.cell? ⟨W.heap.size, 2, none⟩ = some (.int .i64 d) ∧ X'.cell? ⟨W.heap.size, 3, none⟩ = some (.bool false) ∧ X'.cell? ⟨wr.heap.size, 0, none⟩ = some (.string nm) ∧ X'.cell? ⟨wr.heap.size, 1, none⟩ = some (.int .i64 y)) ∧ (q = true → Hid (Md tb Y l B J R W ⟨p, k, d, false⟩ (pre ++ [fst] ++ G (L.take (j + 1))) R' X')) ∧ (q = false → Hid (RMove B R R' W X' ∧ ∃ p', p' <+: xs ∧ Jx R' p' X')))) := fun X h h' => by
        have hsz := jn_size p nm
        refine (unhide HI (d + 1) (jnP p nm) y Rj (pre ++ [fst] ++ G (L.take j)) X hin (by omega) (by omega) h.j h.o (Nat.le_trans hW h.m.size) (unhide HPX).1).mono ?_
        rintro r X' ⟨q, R', rfl, m, h1, h2⟩
        have hEl : wr.heap.size < X.heap.size := (Array.getElem?_eq_some_iff.1 h').1
        have hE' : X'.heap[wr.heap.size]? = some (.cells #[.string nm, .int .i64 y] 71) := (m.block _ hBW hEl hnE).trans h'
        have hsl := (Array.getElem?_eq_some_iff.1 h.s).1
        have hs' := (m.block _ hW hsl h.n).trans h.s
        have hn' : ¬ R' W.heap.size := fun q => by
          rcases (m.row _ q).2 with q | q
          · exact h.n q
          · omega
        have ho' := h.o.move hBY m
        refine ⟨q, R', rfl, ?_, fun hq => ?_, fun hq => ⟨h.m.trans m, h2 hq⟩⟩
        · obtain ⟨a0, a1, a2, a3, -⟩ := step_look hs'
          obtain ⟨b0, b1⟩ := entry_look hE'
          exact ⟨ho'.v.cell, a0, a1, a2, a3, b0, b1⟩
        · refine ⟨?_, h.m.trans m, ho', hn', hs'⟩
          rw [(unhide HPX).2, ← List.append_assoc]
          exact h1 hq
      clear hrd hin hnz hbX hEX hnE hBW HT HPX
      gi_wp2
      rw [← hX0]
      clear hX0 e0 e1
      refine wpIn_wide.2 ?_
      go_region_held3 (fun w' => w'.cell? ⟨Y + 1, 0, none⟩ = some (.func (.func 31) #[] #[.pointer (some ⟨Y, 0, none⟩), .pointer (some ⟨tb, 0, none⟩), .pointer (some ⟨Y + 1, 0, none⟩)]) ∧ w'.cell? ⟨W.heap.size, 0, none⟩ = some (.string p) ∧ w'.cell? ⟨W.heap.size, 1, none⟩ = some (.int .i64 k) ∧ w'.cell? ⟨W.heap.size, 2, none⟩ = some (.int .i64 d) ∧ w'.cell? ⟨W.heap.size, 3, none⟩ = some (.bool false) ∧ w'.cell? ⟨wr.heap.size, 0, none⟩ = some (.string nm) ∧ w'.cell? ⟨wr.heap.size, 1, none⟩ = some (.int .i64 y)) (with_reducible assumption)
        (first
          | ((with_reducible refine (unhide HW _).mono ?_); rintro r wA ⟨rfl, hbA⟩; have hKA := unhide HKA _ hbA; have hSA := hKA.1; clear hbA)
          | ((with_reducible refine (unhide HV _ hKA.2.1 hKA.2.2).mono ?_); rintro r wB ⟨q, R', rfl, hSB, hq1, hq2⟩)
          | fail)
      clear hKA hSA HV HKA HW hS MX hSB
      cases q with
      | false =>
        have HQ := hide (hq2 rfl)
        clear hq1 hq2
        gi_wp2
        refine bodyPost_ret (results_tmp (fn := Try.f31) (t := 5) rfl _ _ _) rfl ?_
        exact ⟨false, R', rfl, (unhide (unhide HQ)).1, fun h => by (cases h), fun _ => (unhide (unhide HQ)).2⟩
      | true =>
        have HQ := hide (hq1 rfl)
        clear hq1 hq2
        gi_wp2
        go_roundw
        case rel => exact ⟨j + 1, R', by omega, by go_num, unhide HQ⟩
        case measure => simp [intOf]; omega
    · obtain rfl : j = ll := by omega
      have htk : L.take j = L := List.take_of_length_le (by rw [unhide hll]; exact Nat.le_refl _)
      rw [htk] at hM
      obtain ⟨-, ⟨s0c, s1c, s2c, s3c, sf⟩, cy, -⟩ := (unhide hM).look (unhide HL)
      simp only at s0c s1c s2c s3c
      have hSl : W.heap.size < wr.heap.size := (Array.getElem?_eq_some_iff.1 (unhide hM).s).1
      have hne : ¬ Y = W.heap.size := by omega
      obtain ⟨W5, hW5⟩ : ∃ W5, W5 = wr.setCell ⟨W.heap.size, 3, none⟩ (.bool true) := ⟨_, rfl⟩
      have hs5 : W5.heap[W.heap.size]? = some (.cells (sa ⟨p, k, d, true⟩) tyS) := by
        rw [hW5]; exact heap_setCell_same _ _ 3 _ _ _ (unhide hM).s
      have hJ5 : J Rj (pre ++ [fst] ++ G L) W5 := by rw [hW5]; exact (unhide HL).kept Rj _ wr W.heap.size 3 _ hW (unhide hM).n (unhide hM).j
      have hm5 : RMove B R Rj W W5 := by rw [hW5]; exact (unhide hM).m.own_set5 _ _ _ (Nat.le_refl _)
      have hlt5 : ∀ k, Rj k → k < W5.heap.size := fun k hk => (hm5.row k hk).1
      have hx5 : pre ++ [fst] ++ G L ++ [⟨p, k, d, true⟩] <+: xs := by
        obtain ⟨t, ht⟩ := unhide HX
        exact ⟨t, by rw [← ht, unhide eA]; simp⟩
      obtain ⟨fn2, tmps2, assign2, body2, hy, hR⟩ := (unhide HL).yield 2 Rj _ ⟨p, k, d, true⟩ W5 (Nat.le_trans hW hm5.size) hlt5 hJ5 hx5
      have HM5 := hide hm5
      have HX5 := hide hx5
      clear hs5 hJ5 hm5 hlt5 hx5 hM htk HEG
      subst hW5
      gi_wp2
      refine hR.mono ?_
      clear hR hy
      rintro r W6 ⟨R6, m6, (⟨rfl, hJ6⟩ | ⟨rfl, hJ6⟩)⟩
      · have HM6 := hide ((unhide HM5).trans m6)
        have HJ6 := hide hJ6
        clear m6 hJ6
        gi_wp2
        refine bodyPost_ret (results_tmp (fn := Try.f31) (t := 5) rfl _ _ _) rfl ?_
        refine ⟨true, R6, rfl, unhide HM6, fun _ => ?_, fun h => by (cases h)⟩
        have e5 : pre ++ A = pre ++ [fst] ++ G L ++ [⟨p, k, d, true⟩] := by rw [unhide eA]; simp
        rw [e5]
        exact unhide HJ6
      · have HM6 := hide ((unhide HM5).trans m6)
        have HJ6 : Hid (Jx R6 (pre ++ [fst] ++ G L ++ [⟨p, k, d, true⟩]) W6) := hJ6
        clear m6 hJ6
        gi_wp2
        refine bodyPost_ret (results_tmp (fn := Try.f31) (t := 5) rfl _ _ _) rfl ?_
        exact ⟨false, R6, rfl, unhide HM6, fun h => by (cases h), fun _ => ⟨_, unhide HX5, unhide HJ6⟩⟩
/-- what a call of visit tells, whatever it is told of -/
theorem visit_any (hc : checkP now ns = true) (hg : Ng w0 a n cap ns) (hL : Loopy w0 tb fb a n cap e deep s0 xs l B J Jx) (hBY : B ≤ Y) : ∀ (f d : Nat) (p : ByteArray) (k : Nat) (R : Nat → Prop) (pre : List Sp) (W : World), In ns f k → d + f ≤ 1000 → p.size + f * 65 ≤ 100000 → J R pre W → Ow l tb Y R W → B ≤ W.heap.size → pre ++ wkP ns e deep f d p k <+: xs →
    Calls Try.prog 31 #[.agg (sa ⟨p, k, d, false⟩), .pointer (some ⟨Y, 0, none⟩), .pointer (some ⟨tb, 0, none⟩), .pointer (some ⟨Y + 1, 0, none⟩)] W fun r W' => VisE xs B J Jx R W (pre ++ wkP ns e deep f d p k) r W' := by
  intro f
  induction f with
  | zero => intro d p k R pre W hi; exact absurd hi.fu.1 (by decide)
  | succ f ih => intro d p k R pre W hi hd hp hJ hO hW hx; exact visit_succ now w0 tb fb Y a n cap ns e deep s0 xs l B J Jx hc hg hL hBY f ih d p k R pre W hi hd hp hJ hO hW hx
end
end Go.Proofs.Ytbajjbgeohbdjaa.Wk
