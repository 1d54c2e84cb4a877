import Derived.Test.YtidhceebafmlkaaGreatDoorCaList
import Derived.Test.YtidhceebafmlkaaGreatDoorCaAct3
import Derived.BigRegion
namespace Go.Proofs.YtidhceebafmlkaaGreatDoor.Ca
open Go.RowKit Cu Tr Pm Pt
abbrev nl : Value := .slice none 0 0
theorem Df.setX {w : World} {B D g n c : Nat} {now : Int} {l : List Nv} {i : Nat} {m : Nd} {dv lv : Value} (h : Df w B D now (sg g n c) (l.set i (m, dv, lv))) (hi : i < l.length) (j : Nat) (u : Value) (m' : Nd) (dv' lv' : Value) (hj : j < 10)
    (he : nc m' dv' lv' = (nc m dv lv).set j u) (hd : (m'.data = m.data ∧ dv' = dv) ∨ (m'.data = [] ∧ dv' = nl)) (hl : (m'.list = m.list ∧ lv' = lv) ∨ (m'.list = [] ∧ lv' = nl)) :
    Df (w.setCell ⟨g, i * 10 + j, none⟩ u) B D now (sg g n c) (l.set i (m', dv', lv')) := by
  have hi' : i < (l.set i (m, dv, lv)).length := by rw [List.length_set]; exact hi
  have hx : (l.set i (m, dv, lv)).getD i zNv = (m, dv, lv) := by simp [List.getD, hi]
  have hH := h.hd i hi'
  rw [hx] at hH
  have q := h.set i j u (m', dv', lv') hi' hj (by rw [hx]; exact he) ?_ (fun k hk hne => ?_)
  · rw [List.set_set] at q; exact q
  · refine ⟨?_, ?_⟩
    · rcases hd with ⟨e1, e2⟩ | ⟨e1, e2⟩
      · show World.ownsRow _ _ _ _ _ _ _; simp only [e1, e2]; exact hH.1
      · show World.ownsRow _ _ _ _ _ _ _; simp only [e1, e2]; exact World.ownsRow_nil _ _ _ _
    · rcases hl with ⟨e1, e2⟩ | ⟨e1, e2⟩
      · show World.ownsRow _ _ _ _ _ _ _; simp only [e1, e2]; exact hH.2
      · show World.ownsRow _ _ _ _ _ _ _; simp only [e1, e2]; exact World.ownsRow_nil _ _ _ _
  · have qa := h.apt i hi' k hk hne
    rw [hx] at qa
    refine ⟨fun j hj => ?_, fun j hj => ?_⟩
    · rcases hd with ⟨_, e2⟩ | ⟨_, e2⟩
      · show dv'.ownBlock ≠ _; rw [e2]; exact qa.1 j hj
      · show dv'.ownBlock ≠ _; rw [e2]; intro q; cases q
    · rcases hl with ⟨_, e2⟩ | ⟨_, e2⟩
      · show lv'.ownBlock ≠ _; rw [e2]; exact qa.2 j hj
      · show lv'.ownBlock ≠ _; rw [e2]; intro q; cases q
set_option maxHeartbeats 1000000 in
theorem Df.put' {w : World} {B D g n c : Nat} {now : Int} {l : List Nv} (h : Df w B D now (sg g n c) l) (i : Nat) (hi : i < l.length) (x0 : UInt8) (x1 x2 x3 x4 x5 : Int) (x7 : ByteArray) (x9 : Int) :
    Df ((((((((((w.setCell ⟨g, i * 10, none⟩ (.int .u8 (x0.toNat : Int))).setCell ⟨g, i * 10 + 1, none⟩ (.int .i64 x1)).setCell ⟨g, i * 10 + 2, none⟩ (.int .i64 x2)).setCell ⟨g, i * 10 + 3, none⟩ (.int .i64 x3)).setCell ⟨g, i * 10 + 4, none⟩ (.int .i64 x4)).setCell ⟨g, i * 10 + 5, none⟩ (.int .i64 x5)).setCell ⟨g, i * 10 + 6, none⟩ (.slice none 0 0)).setCell ⟨g, i * 10 + 7, none⟩ (.string x7)).setCell ⟨g, i * 10 + 8, none⟩ (.slice none 0 0)).setCell ⟨g, i * 10 + 9, none⟩ (.int .i64 x9)) B D now (sg g n c) (l.set i (⟨x0, x1, x2, x3, x4, x5, [], x7, [], x9⟩, nl, nl)) := by
  obtain ⟨m, dv, lv, hx⟩ : ∃ m dv lv, l.getD i zNv = (m, dv, lv) := ⟨_, _, _, rfl⟩
  have q0 : Df w B D now (sg g n c) (l.set i (m, dv, lv)) := by
    have e : l[i]'hi = (m, dv, lv) := by rw [← getD_nv hi, hx]
    rw [← e, List.set_getElem_self hi]; exact h
  obtain ⟨m0, m1, m2, m3, m4, m5, m6, m7, m8, m9⟩ := m
  clear hx h
  have q1 := q0.setX hi 0 (.int .u8 (x0.toNat : Int)) ⟨x0, m1, m2, m3, m4, m5, m6, m7, m8, m9⟩ dv lv (by omega) rfl (.inl ⟨rfl, rfl⟩) (.inl ⟨rfl, rfl⟩)
  clear q0
  have q2 := q1.setX hi 1 (.int .i64 x1) ⟨x0, x1, m2, m3, m4, m5, m6, m7, m8, m9⟩ dv lv (by omega) rfl (.inl ⟨rfl, rfl⟩) (.inl ⟨rfl, rfl⟩)
  clear q1
  have q3 := q2.setX hi 2 (.int .i64 x2) ⟨x0, x1, x2, m3, m4, m5, m6, m7, m8, m9⟩ dv lv (by omega) rfl (.inl ⟨rfl, rfl⟩) (.inl ⟨rfl, rfl⟩)
  clear q2
  have q4 := q3.setX hi 3 (.int .i64 x3) ⟨x0, x1, x2, x3, m4, m5, m6, m7, m8, m9⟩ dv lv (by omega) rfl (.inl ⟨rfl, rfl⟩) (.inl ⟨rfl, rfl⟩)
  clear q3
  have q5 := q4.setX hi 4 (.int .i64 x4) ⟨x0, x1, x2, x3, x4, m5, m6, m7, m8, m9⟩ dv lv (by omega) rfl (.inl ⟨rfl, rfl⟩) (.inl ⟨rfl, rfl⟩)
  clear q4
  have q6 := q5.setX hi 5 (.int .i64 x5) ⟨x0, x1, x2, x3, x4, x5, m6, m7, m8, m9⟩ dv lv (by omega) rfl (.inl ⟨rfl, rfl⟩) (.inl ⟨rfl, rfl⟩)
  clear q5
  have q7 := q6.setX hi 6 (.slice none 0 0) ⟨x0, x1, x2, x3, x4, x5, [], m7, m8, m9⟩ nl lv (by omega) rfl (.inr ⟨rfl, rfl⟩) (.inl ⟨rfl, rfl⟩)
  clear q6
  have q8 := q7.setX hi 7 (.string x7) ⟨x0, x1, x2, x3, x4, x5, [], x7, m8, m9⟩ nl lv (by omega) rfl (.inl ⟨rfl, rfl⟩) (.inl ⟨rfl, rfl⟩)
  clear q7
  have q9 := q8.setX hi 8 (.slice none 0 0) ⟨x0, x1, x2, x3, x4, x5, [], x7, [], m9⟩ nl nl (by omega) rfl (.inl ⟨rfl, rfl⟩) (.inr ⟨rfl, rfl⟩)
  clear q8
  have q10 := q9.setX hi 9 (.int .i64 x9) ⟨x0, x1, x2, x3, x4, x5, [], x7, [], x9⟩ nl nl (by omega) rfl (.inl ⟨rfl, rfl⟩) (.inl ⟨rfl, rfl⟩)
  clear q9
  exact q10
theorem Df.put {w : World} {B D g n c : Nat} {now : Int} {l : List Nv} (h : Df w B D now (sg g n c) l) (i : Nat) (hi : i < l.length) (x : Nd) (hd : x.data = []) (hl : x.list = []) :
    Df ((((((((((w.setCell ⟨g, i * 10, none⟩ (.int .u8 (x.kind.toNat : Int))).setCell ⟨g, i * 10 + 1, none⟩ (.int .i64 x.mode)).setCell ⟨g, i * 10 + 2, none⟩ (.int .i64 x.user)).setCell ⟨g, i * 10 + 3, none⟩ (.int .i64 x.group)).setCell ⟨g, i * 10 + 4, none⟩ (.int .i64 x.links)).setCell ⟨g, i * 10 + 5, none⟩ (.int .i64 x.time)).setCell ⟨g, i * 10 + 6, none⟩ (.slice none 0 0)).setCell ⟨g, i * 10 + 7, none⟩ (.string x.target)).setCell ⟨g, i * 10 + 8, none⟩ (.slice none 0 0)).setCell ⟨g, i * 10 + 9, none⟩ (.int .i64 x.parent)) B D now (sg g n c) (l.set i (x, nl, nl)) := by
  obtain ⟨x0, x1, x2, x3, x4, x5, x6, x7, x8, x9⟩ := x
  simp only at hd hl
  subst hd hl
  exact h.put' i hi x0 x1 x2 x3 x4 x5 x7 x9
theorem set10_other {w : World} {g k o : Nat} (hk : k ≠ g) (a0 a1 a2 a3 a4 a5 a6 a7 a8 a9 : Value) : ((((((((((w.setCell ⟨g, o, none⟩ a0).setCell ⟨g, o + 1, none⟩ a1).setCell ⟨g, o + 2, none⟩ a2).setCell ⟨g, o + 3, none⟩ a3).setCell ⟨g, o + 4, none⟩ a4).setCell ⟨g, o + 5, none⟩ a5).setCell ⟨g, o + 6, none⟩ a6).setCell ⟨g, o + 7, none⟩ a7).setCell ⟨g, o + 8, none⟩ a8).setCell ⟨g, o + 9, none⟩ a9).heap[k]? = w.heap[k]? := by
  have e : ∀ (W : World) (p : Nat) (v : Value), (W.setCell ⟨g, p, none⟩ v).heap[k]? = W.heap[k]? := fun W p v => heap_setCell_other W ⟨g, p, none⟩ k v hk
  rw [e, e, e, e, e, e, e, e, e, e]
theorem set10_bel {B : Nat} {w w' : World} (h : Below B w w') {g : Nat} (o : Nat) (hg : B ≤ g) (a0 a1 a2 a3 a4 a5 a6 a7 a8 a9 : Value) : Below B w ((((((((((w'.setCell ⟨g, o, none⟩ a0).setCell ⟨g, o + 1, none⟩ a1).setCell ⟨g, o + 2, none⟩ a2).setCell ⟨g, o + 3, none⟩ a3).setCell ⟨g, o + 4, none⟩ a4).setCell ⟨g, o + 5, none⟩ a5).setCell ⟨g, o + 6, none⟩ a6).setCell ⟨g, o + 7, none⟩ a7).setCell ⟨g, o + 8, none⟩ a8).setCell ⟨g, o + 9, none⟩ a9) :=
  (((((((((h.setCell (p := ⟨g, o, none⟩) hg a0).setCell (p := ⟨g, o + 1, none⟩) hg a1).setCell (p := ⟨g, o + 2, none⟩) hg a2).setCell (p := ⟨g, o + 3, none⟩) hg a3).setCell (p := ⟨g, o + 4, none⟩) hg a4).setCell (p := ⟨g, o + 5, none⟩) hg a5).setCell (p := ⟨g, o + 6, none⟩) hg a6).setCell (p := ⟨g, o + 7, none⟩) hg a7).setCell (p := ⟨g, o + 8, none⟩) hg a8).setCell (p := ⟨g, o + 9, none⟩) hg a9
theorem Df.upd1 {w : World} {B D g n c : Nat} {now : Int} {l : List Nv} (h : Df w B D now (sg g n c) l) (i j : Nat) (u : Value) (f : Nd → Nd) (hi : i < l.length) (hj : j < 10)
    (he : ∀ m dv lv, nc (f m) dv lv = (nc m dv lv).set j u ∨ l.getD i zNv ≠ (m, dv, lv)) (hd : ∀ m, (f m).data = m.data) (hls : ∀ m, (f m).list = m.list) :
    Df (w.setCell ⟨g, i * 10 + j, none⟩ u) B D now (sg g n c) (updL l i f) := by
  refine h.num i j u (f (l.getD i zNv).1) hi hj ?_ (hd _) (hls _)
  rcases he (l.getD i zNv).1 (l.getD i zNv).2.1 (l.getD i zNv).2.2 with q | q
  · exact q
  · exact absurd rfl q
theorem cellsOf_take (l : List Nv) (k : Nat) : (cellsOf l).take (k * 10) = cellsOf (l.take k) := by
  induction l generalizing k with
  | nil => simp [cellsOf]
  | cons r l ih =>
    have e : ∀ r l, cellsOf (r :: l) = nc r.1 r.2.1 r.2.2 ++ cellsOf l := fun r l => by simp [cellsOf]
    cases k with
    | zero => simp [cellsOf]
    | succ k =>
      rw [List.take_succ_cons, e, e, ← ih k, List.take_append, nc_length, List.take_of_length_le (by rw [nc_length]; omega), show (k + 1) * 10 - 10 = k * 10 by omega]
theorem Df.cut {w : World} {B D g n c : Nat} {now : Int} {l : List Nv} (h : Df w B D now (sg g n c) l) (k : Nat) (hk : k ≤ n) :
    Df (w.setCell ⟨D, 0, none⟩ (sg g k c)) B D now (sg g k c) (l.take k) := by
  have hn := h.lenN
  refine h.rebox _ _ ?_ (fun x hx => h.own x (List.mem_of_mem_take hx)) (h.ap.sublist (List.take_sublist _ _))
  rcases h.rown.2 with ⟨h0, _⟩ | ⟨g', c', cur, h1, h2, h3, h4, h5, h6, h7⟩
  · cases h0
  · injection h1 with h1 _ h1c
    injection h1 with h1
    injection h1 with h1 _ _
    subst h1 h1c
    have hl : (l.take k).length = k := by rw [List.length_take]; omega
    refine ⟨by rw [cellsOf_length], .inr ⟨g, c, cur, by rw [hl], h2, h3, by omega, h5, h6, ?_⟩⟩
    rw [hl, ← cellsOf_take, ← h7, List.take_take, Nat.min_eq_left (by omega)]
theorem Df.grow {w w' : World} {B D g n c : Nat} {now : Int} {l : List Nv} (h : Df w B D now (sg g n c) l) {v' : Value} (hR : w'.ownsRow B 82 10 v' (n + 1) (cellsOf l ++ nc nz nl nl)) (hG : w.grownBy w' (some g)) :
    Df (w'.setCell ⟨D, 0, none⟩ v') B D now v' (l ++ [(nz, nl, nl)]) := by
  have hn := h.lenN
  obtain ⟨cur, hcur⟩ := own_type h.row (k := g) rfl
  have kb : ∀ (k : Nat) (c : Array Value) (e : TypeId) (f : Nat × Nat), w.heap[k]? = some (.cells c e f) → e ≠ 82 → w'.heap[k]? = w.heap[k]? := fun k c e f hk hne =>
    hG.block k (Array.getElem?_eq_some_iff.1 hk).1 fun q => by
      injection q with q
      rw [q, hcur] at hk
      injection hk with hk
      injection hk with _ hk _
      exact hne hk.symm
  have hH : ∀ x, Hd B w x → Hd B w' x := fun x hx =>
    ⟨own_keep hx.1 fun k hk => (own_type hx.1 hk).elim fun cu hcu => kb k _ _ _ hcu (by decide), own_keep hx.2 fun k hk => (own_type hx.2 hk).elim fun cu hcu => kb k _ _ _ hcu (by decide)⟩
  have hbox : w'.heap[D]? = some (.cells #[sg g n c, .int .i64 now] 230) := (kb D _ _ _ h.box (by decide)).trans h.box
  have k2 : ∀ (k : Nat), k ≠ D → (w'.setCell ⟨D, 0, none⟩ v').heap[k]? = w'.heap[k]? := fun k hk => heap_setCell_other _ ⟨D, _, none⟩ k _ hk
  have offD : ∀ (k : Nat) (c : Array Value) (e : TypeId), w'.heap[k]? = some (.cells c e (0, 0)) → e ≠ 230 → (w'.setCell ⟨D, 0, none⟩ v').heap[k]? = w'.heap[k]? := fun k c e hk he => k2 k (obj_ne hk hbox he)
  refine ⟨?_, h.hD, ?_, fun x hx => ?_, ?_⟩
  · rw [heap_setCell_same _ _ _ _ _ _ hbox]; rfl
  · have e : (l ++ [(nz, nl, nl)]).length = n + 1 := by rw [List.length_append, hn]; rfl
    show World.ownsRow _ _ _ _ _ _ _
    rw [e, cellsOf_snoc]
    exact own_keep hR fun k hk => (own_type hR hk).elim fun cu hcu => offD k _ _ hcu (by decide)
  · rcases List.mem_append.1 hx with hx | hx
    · have q := hH x (h.own x hx)
      exact ⟨own_keep q.1 fun k hk => (own_type q.1 hk).elim fun cu hcu => offD k _ _ hcu (by decide), own_keep q.2 fun k hk => (own_type q.2 hk).elim fun cu hcu => offD k _ _ hcu (by decide)⟩
    · simp at hx; subst hx
      exact ⟨World.ownsRow_nil _ _ _ _, World.ownsRow_nil _ _ _ _⟩
  · rw [List.pairwise_append]
    refine ⟨h.ap, List.pairwise_singleton _ _, fun x _ y hy => ?_⟩
    simp at hy; subst hy
    exact ⟨fun _ _ => (by intro q; cases q), fun _ _ => (by intro q; cases q)⟩
end Go.Proofs.YtidhceebafmlkaaGreatDoor.Ca

namespace Go.Proofs.YtidhceebafmlkaaGreatDoor.Ca
open Go.RowKit Cu Tr Pm Pt
set_option maxRecDepth 100000 in
set_option maxHeartbeats 2000000 in
theorem newNode_any (A : Nat) (x : Option Addr) (n cap : Nat) (dx : Option Addr) (dc : Nat) (a : Ac) (k : UInt8) (kn : Nat) (w : World) (h : At w A x n cap dx dc a) (hkn : k.toNat = kn) :
    Calls Tryz.prog 196 #[.pointer (some ⟨A, 0, none⟩), .int .u8 kn] w fun e w' => e = .returned (.agg (na (a.newNode k) nl nl)) ∧ Below w.heap.size w w' := by
  subst hkn
  have hV : a.newNode k = ⟨k, bits .andNot .i64 a.c.mode a.c.env.mask, a.c.env.user, a.c.env.group, if k = 2 then 2 else 1, a.now, [], ⟨#[]⟩, [], 0⟩ := rfl
  rw [hV]
  clear hV
  obtain ⟨L, hL⟩ : ∃ L : Int, Hid (L = if k = 2 then 2 else 1) := ⟨_, rfl⟩
  rw [← uh hL]
  obtain ⟨w1, hw1⟩ : ∃ w1, w1 = w.alloc (.cells zNd 82) := ⟨_, rfl⟩
  have b1 : Below w.heap.size w w1 := by rw [hw1]; exact al_below _ _
  have hA1 := h.below b1
  obtain ⟨c0, c1, -, -, -, c5, -, -, -, -, c10, c11, c12, c13, -⟩ := hA1.cells
  obtain ⟨w2, hw2⟩ : ∃ w2, w2 = w1.alloc (.cells #[.int .i64 a.c.env.user, .int .i64 a.c.env.group, .int .i64 a.c.env.mask, .int .i64 a.c.env.dir] 32) := ⟨_, rfl⟩
  have b2' : Below w1.heap.size w1 w2 := by rw [hw2]; exact al_below _ _
  have hA2 := hA1.below b2'
  obtain ⟨-, d1, -, -, -, d5, -⟩ := hA2.cells
  have hE : w2.heap[w1.heap.size]? = some (.cells #[.int .i64 a.c.env.user, .int .i64 a.c.env.group, .int .i64 a.c.env.mask, .int .i64 a.c.env.dir] 32) := by rw [hw2]; exact heap_alloc_new w1 _
  have e0 : w2.cell? ⟨w1.heap.size, 0, none⟩ = some (.int .i64 a.c.env.user) := by rw [cell_of_row _ _ _ _ _ _ hE]; rfl
  have e1 : w2.cell? ⟨w1.heap.size, 1, none⟩ = some (.int .i64 a.c.env.group) := by rw [cell_of_row _ _ _ _ _ _ hE]; rfl
  have e2 : w2.cell? ⟨w1.heap.size, 2, none⟩ = some (.int .i64 a.c.env.mask) := by rw [cell_of_row _ _ _ _ _ _ hE]; rfl
  have hR1 : w1.heap[w.heap.size]? = some (.cells zNd 82) := by rw [hw1]; exact heap_alloc_new w _
  have hR2 : w2.heap[w.heap.size]? = some (.cells zNd 82) := (b2'.block _ (Array.getElem?_eq_some_iff.1 hR1).1).trans hR1
  have bz := al_below w2 (.cells zNd 82)
  have hAz := hA2.below bz
  obtain ⟨-, y1, -, -, -, y5, -⟩ := hAz.cells
  have hEl : w1.heap.size < w2.heap.size := (Array.getElem?_eq_some_iff.1 hE).1
  have g0 : (w2.alloc (.cells zNd 82)).cell? ⟨w1.heap.size, 0, none⟩ = some (.int .i64 a.c.env.user) := (bz.cell (p := ⟨w1.heap.size, 0, none⟩) hEl).trans e0
  have g1 : (w2.alloc (.cells zNd 82)).cell? ⟨w1.heap.size, 1, none⟩ = some (.int .i64 a.c.env.group) := (bz.cell (p := ⟨w1.heap.size, 1, none⟩) hEl).trans e1
  have g2 : (w2.alloc (.cells zNd 82)).cell? ⟨w1.heap.size, 2, none⟩ = some (.int .i64 a.c.env.mask) := (bz.cell (p := ⟨w1.heap.size, 2, none⟩) hEl).trans e2
  have B2' : Hid (Below w.heap.size w w2) := b1.trans (b2'.mono b1.size)
  have HR2 := hide hR2
  have HW1 := hide hw1
  have HW2 := hide hw2
  clear h b1 hA1 b2' hA2 hE bz hAz hEl hR1 hR2 hw1 hw2
  go_enter Tryz.func196, Tryz.ntmps196
  go_upto_region 1 with fail
  rw [← uh HW1]
  go_upto_region 2 with fail
  rw [← uh HW2]
  clear c0 c1 c5 c10 c11 c12 c13 HW1 HW2
  go_wp2_with fail
  go_region
  obtain ⟨w3, hw3⟩ : ∃ w3, w3 = (w2.alloc (.cells #[.int .u8 (k.toNat : Int), .int .i64 (bits .andNot .i64 a.c.mode a.c.env.mask), .int .i64 a.c.env.user, .int .i64 a.c.env.group, .int .i64 1, .int .i64 a.now, .slice none 0 0, .string ⟨#[]⟩, .slice none 0 0, .int .i64 0] 82)).drew := ⟨_, rfl⟩
  obtain ⟨N, hN⟩ : ∃ N, N = w2.heap.size := ⟨_, rfl⟩
  rw [← hw3, ← hN]
  have b3 : Below w2.heap.size w2 w3 := by rw [hw3]; exact below_dr (al_below _ _)
  have hNb : w3.heap[N]? = some (.cells #[.int .u8 (k.toNat : Int), .int .i64 (bits .andNot .i64 a.c.mode a.c.env.mask), .int .i64 a.c.env.user, .int .i64 a.c.env.group, .int .i64 1, .int .i64 a.now, .slice none 0 0, .string ⟨#[]⟩, .slice none 0 0, .int .i64 0] 82) := by rw [hw3, hN]; exact heap_alloc_new w2 _
  have B2 : Hid (w.heap.size ≤ w2.heap.size) := hide (uh B2').size
  have hR3 : w3.heap[w.heap.size]? = some (.cells zNd 82) := (b3.block _ (Array.getElem?_eq_some_iff.1 (uh HR2)).1).trans (uh HR2)
  have hRN : w.heap.size < N := by rw [hN]; exact (Array.getElem?_eq_some_iff.1 (uh HR2)).1
  have B3 : Hid (Below w.heap.size w w3) := (uh B2').trans (b3.mono (uh B2').size)
  have q : ∀ j, w3.cell? ⟨N, j, none⟩ = (#[.int .u8 (k.toNat : Int), .int .i64 (bits .andNot .i64 a.c.mode a.c.env.mask), .int .i64 a.c.env.user, .int .i64 a.c.env.group, .int .i64 1, .int .i64 a.now, .slice none 0 0, .string ⟨#[]⟩, .slice none 0 0, .int .i64 0] : Array Value)[j]? := fun j => cell_of_row _ _ _ _ _ _ hNb
  have z : ∀ j, w3.cell? ⟨w.heap.size, j, none⟩ = zNd[j]? := fun j => cell_of_row _ _ _ _ _ _ hR3
  have n0 := q 0; have n1 := q 1; have n2 := q 2; have n3 := q 3; have n4 := q 4; have n5 := q 5; have n6 := q 6; have n7 := q 7; have n8 := q 8; have n9 := q 9
  have r0 := z 0; have r1 := z 1; have r2 := z 2; have r3 := z 3; have r4 := z 4; have r5 := z 5; have r6 := z 6; have r7 := z 7; have r8 := z 8; have r9 := z 9
  simp only [List.getElem?_toArray, List.getElem?_cons_zero, List.getElem?_cons_succ] at n0 n1 n2 n3 n4 n5 n6 n7 n8 n9 r0 r1 r2 r3 r4 r5 r6 r7 r8 r9
  have fr : ∀ j, w3.frozen? ⟨w.heap.size, j, none⟩ = false := fun j => by simp [World.frozen?, hR3]
  have f0 := fr 0; have f1 := fr 1; have f2 := fr 2; have f3 := fr 3; have f4 := fr 4; have f5 := fr 5; have f6 := fr 6; have f7 := fr 7; have f8 := fr 8; have f9 := fr 9
  have fn4 : w3.frozen? ⟨N, 4, none⟩ = false := by simp [World.frozen?, hNb]
  have hne : ¬ N = w.heap.size := by omega
  have hne2 : ¬ w.heap.size = N := by omega
  have HST : Hid (∀ (L : Int) (W : World), Below w.heap.size w W → Below w.heap.size w ((((((((((W.setCell ⟨w.heap.size, 0, none⟩ (.int .u8 (k.toNat : Int))).setCell ⟨w.heap.size, 0 + 1, none⟩ (.int .i64 (bits .andNot .i64 a.c.mode a.c.env.mask))).setCell ⟨w.heap.size, 0 + 2, none⟩ (.int .i64 a.c.env.user)).setCell ⟨w.heap.size, 0 + 3, none⟩ (.int .i64 a.c.env.group)).setCell ⟨w.heap.size, 0 + 4, none⟩ (.int .i64 L)).setCell ⟨w.heap.size, 0 + 5, none⟩ (.int .i64 a.now)).setCell ⟨w.heap.size, 0 + 6, none⟩ (.slice none 0 0)).setCell ⟨w.heap.size, 0 + 7, none⟩ (.string ⟨#[]⟩)).setCell ⟨w.heap.size, 0 + 8, none⟩ (.slice none 0 0)).setCell ⟨w.heap.size, 0 + 9, none⟩ (.int .i64 0))) := fun L W hW => set10_bel hW 0 (Nat.le_refl _) _ _ _ _ _ _ _ _ _ _
  clear B2' q z fr b3 hNb hR3 hw3 HR2 d1 d5 e0 e1 e2 y1 y5 g0 g1 g2 hRN
  by_cases hk : k = 2
  · have hkk : ((k.toNat : Int) == 2) = true := by rw [hk]; rfl
    have hkt : (k.toNat : Int) = 2 := by rw [hk]; rfl
    obtain rfl : L = 2 := by rw [uh hL, if_pos hk]
    have HF := hide (uh HST 2 _ ((uh B3).setCell (p := ⟨N, 4, none⟩) (by rw [hN]; exact (uh B2)) (.int .i64 2)))
    subst hk
    have n0' : w3.cell? ⟨N, 0, none⟩ = some (.int .u8 2) := n0
    clear HST hL hN B2 n0 hkt hkk
    have ht : ((UInt8.toNat 2 : Nat) : Int) = 2 := rfl
    simp only [ht]
    rw [ht] at HF
    clear ht
    go_wp2_with fail
    refine bodyPost_ret (v := .agg #[.int .u8 2, .int .i64 (bits .andNot .i64 a.c.mode a.c.env.mask), .int .i64 a.c.env.user, .int .i64 a.c.env.group, .int .i64 2, .int .i64 a.now, .slice none 0 0, .string ⟨#[]⟩, .slice none 0 0, .int .i64 0]) (by simp [results, Tryz.results196, go_sem, r0, r1, r2, r3, r4, r5, r6, r7, r8, r9]) rfl ⟨rfl, uh HF⟩
  · have hkk : ((k.toNat : Int) == 2) = false := by
      have : k.toNat ≠ 2 := fun e => hk (UInt8.toNat_inj.1 e)
      simpa using (show ¬ (k.toNat : Int) = 2 by omega)
    have hkt : ¬ (k.toNat : Int) = 2 := by simpa using hkk
    obtain rfl : L = 1 := by rw [uh hL, if_neg hk]
    have HF := hide (uh HST 1 _ (uh B3))
    clear HST hk hL hN B2
    go_wp2_with fail
    refine bodyPost_ret (v := .agg #[.int .u8 (k.toNat : Int), .int .i64 (bits .andNot .i64 a.c.mode a.c.env.mask), .int .i64 a.c.env.user, .int .i64 a.c.env.group, .int .i64 1, .int .i64 a.now, .slice none 0 0, .string ⟨#[]⟩, .slice none 0 0, .int .i64 0]) (by simp [results, Tryz.results196, go_sem, r0, r1, r2, r3, r4, r5, r6, r7, r8, r9]) rfl ⟨rfl, uh HF⟩
end Go.Proofs.YtidhceebafmlkaaGreatDoor.Ca
