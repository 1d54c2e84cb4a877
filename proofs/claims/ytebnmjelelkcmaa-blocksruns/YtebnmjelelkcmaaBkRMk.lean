/- A row of bytes that []byte(s) made, grown since: its block may bear a mark behind its cells. -/
import Derived.Test.YtebnmjelelkcmaaBkChanged
import Derived.Laws.IdiomStrings
import Derived.Lib.BufferRead
import Derived.OwnWalk
import Derived.ArgAppend
import Derived.Maps.AppendAt
import Derived.Deep.RegionLaw
import Derived.Deep.MidRow
import Derived.Lib.BufferWrite
set_option linter.unusedVariables false
namespace Go.Proofs.Ytebnmjelelkcmaa.Bk
open Go.RowKit Go.Shelf Cu

theorem add_at (b off j : Nat) : (⟨b, off, none⟩ : Addr).add j = ⟨b, off + j, none⟩ := by unfold Addr.add; split <;> simp_all
/-- v is a row of the bytes l, in a block at B or above, room behind them -/
def Mk (w : World) (B : Nat) (v : Value) (l : Bs) : Prop := ∃ g cap, v = .slice (some ⟨g, 0, none⟩) l.length cap ∧ B ≤ g ∧ g < w.heap.size ∧ l.length ≤ cap ∧
  (∀ j (h : j < l.length), w.cell? ⟨g, j, none⟩ = some (.int .u8 (l[j].toNat : Int))) ∧ (∀ j, j < cap → (w.cell? ⟨g, j, none⟩).isSome = true ∧ w.frozen? ⟨g, j, none⟩ = false)
theorem Mk.kept {w w' : World} {B : Nat} {v : Value} {l : Bs} {row : Option Nat} (h : Mk w B v l) (hg : w.grownBy w' row) (hne : v.ownBlock ≠ row) : Mk w' B v l := by
  obtain ⟨g, cap, rfl, h1, h2, h3, h4, h5⟩ := h
  have hb : w'.heap[g]? = w.heap[g]? := hg.block g h2 (fun e => hne (by rw [← e]; rfl))
  refine ⟨g, cap, rfl, h1, Nat.lt_of_lt_of_le h2 hg.size, h3, fun j hj => ?_, fun j hj => ?_⟩
  · rw [World.cell?_of_block (a := ⟨g, j, none⟩) hb]; exact h4 j hj
  · rw [World.cell?_of_block (a := ⟨g, j, none⟩) hb, World.frozen?_of_block (a := ⟨g, j, none⟩) hb]; exact h5 j hj
theorem Mk.alloc {w : World} {B : Nat} {v : Value} {l : Bs} (h : Mk w B v l) (o : Obj) : Mk (w.alloc o) B v l := by
  refine h.kept (World.grownBy_alloc w o none) ?_
  obtain ⟨g, cap, rfl, _⟩ := h
  simp [Value.ownBlock]
theorem Mk.drew {w : World} {B : Nat} {v : Value} {l : Bs} (h : Mk w B v l) : Mk w.drew B v l := by
  obtain ⟨g, cap, rfl, h1, h2, h3, h4, h5⟩ := h
  exact ⟨g, cap, rfl, h1, h2, h3, h4, h5⟩
theorem Mk.lt {w : World} {B : Nat} {v : Value} {l : Bs} (h : Mk w B v l) : ∀ k, v.ownBlock = some k → B ≤ k ∧ k < w.heap.size := by
  obtain ⟨g, cap, rfl, h1, h2, _⟩ := h
  intro k hk
  simp [Value.ownBlock] at hk
  subst hk
  exact ⟨h1, h2⟩
theorem Mk.isSl {w : World} {B : Nat} {v : Value} {l : Bs} (h : Mk w B v l) : ∃ g c, v = .slice (some ⟨g, 0, none⟩) l.length c := by
  obtain ⟨g, cap, rfl, _⟩ := h
  exact ⟨g, cap, rfl⟩
theorem Mk.back {w : World} {B : Nat} {v : Value} {l : Bs} (h : Mk w B v l) : (convert 49 9 v).run Try.prog w = .ok (.string (bt l)) w := by
  obtain ⟨g, cap, rfl, h1, h2, h3, h4, h5⟩ := h
  refine run_convert_bytes_back w 49 9 5 ⟨g, 0, none⟩ cap l Try.underlying49 Try.underlying5 Try.underlying9 ?_
  intro j hj
  rw [add_at, Nat.zero_add]
  exact h4 j hj
theorem Mk.of_own {w : World} {B n : Nat} {v : Value} {l : Bs} (h : w.ownsRow B 5 1 v n (Lib.byteCells l)) (hn : n = l.length) (h0 : v ≠ .slice none 0 0) : Mk w B v l := by
  subst hn
  rcases h.2 with ⟨rfl, _⟩ | ⟨g, cap, cur, rfl, hb, hg, hc1, hc2, hc3, ht⟩
  · exact absurd rfl h0
  · refine ⟨g, cap, rfl, hb, (Array.getElem?_eq_some_iff.1 hg).1, hc1, fun j hj => ?_, fun j hj => ?_⟩
    · have := h.cellAt j (by rw [Nat.mul_one]; exact hj)
      rw [this]
      simp [Lib.byteCells, List.getElem?_eq_getElem hj]
    · refine ⟨?_, ?_⟩
      · rw [Lib.cell_of_heap hg, Array.getElem?_eq_getElem (by rw [hc3]; omega)]; rfl
      · simp [World.frozen?, hg]
theorem Mk.conv (x : ByteArray) (W : World) : ∃ (c : Nat) (o : Obj), (convert 9 49 (.string x)).run Try.prog W = .ok (.slice (some ⟨W.heap.size, 0, none⟩) x.size c) (W.alloc o).drew ∧ Mk (W.alloc o).drew W.heap.size (.slice (some ⟨W.heap.size, 0, none⟩) x.size c) (bs x) := by
  refine ⟨_, _, run_bytes_of_string W 9 49 5 x Try.underlying9 Try.underlying49 Try.underlying5, ?_⟩
  have hge : x.size ≤ grownCap W x.size 0 5 := grownCap_ge W x.size 0 _
  have hsz : (bytesRow x (grownCap W x.size 0 5)).size = grownCap W x.size 0 5 := by
    unfold bytesRow
    rw [Array.size_append, Array.size_map, Array.size_replicate]
    show x.size + _ = _
    omega
  refine ⟨W.heap.size, _, rfl, Nat.le_refl _, by simp, hge, fun j hj => ?_, fun j hj => ?_⟩
  · show (W.alloc _).cell? _ = _
    rw [Lib.cell_of_heap (heap_alloc_new W _)]
    unfold bytesRow
    have hj' : j < x.data.size := by simpa [bs] using hj
    rw [Array.getElem?_append_left (by simpa using hj')]
    simp [bs]
    exact ⟨_, Array.getElem?_eq_getElem hj', rfl⟩
  · refine ⟨?_, ?_⟩
    · show ((W.alloc _).cell? _).isSome = true
      rw [Lib.cell_of_heap (heap_alloc_new W _), Array.getElem?_eq_getElem (by rw [hsz]; exact hj)]; rfl
    · show (W.alloc _).frozen? _ = false
      simp only [World.frozen?, heap_alloc_new]
      rw [hsz]
      simp; omega
theorem grown_setCells (b : Nat) : ∀ (vs : List Value) (o : Nat) (w : World), w.grownBy (w.setCells b o vs) (some b)
  | [], _, w => ⟨rfl, rfl, rfl, Nat.le_refl _, fun _ _ _ => rfl⟩
  | v :: r, o, w => (Lib.grownBy_setCell w b o v).trans (grown_setCells b r (o + 1) _)
theorem run_append_mk (ty : TypeId) {w : World} {B : Nat} {v : Value} {l : Bs} (h : Mk w B v l) (ad : Addr) (m c : Nat) (n : Bs) (hm : n.length = m) (hnews : ∀ j u, (Lib.byteCells n)[j]? = some u → w.cell? (ad.add j) = some u)
    (h63 : l.length + m ≤ 1073741824) (hB : B ≤ w.heap.size) :
    ∃ v' w', (Builtin.append_ #[49, 49] ty #[v, .slice (some ad) m c]).run Try.prog w = .ok v' w' ∧ Mk w' B v' (l ++ n) ∧ w.grownBy w' v.ownBlock := by
  obtain ⟨i0, hi, hz0, hz1, hz2⟩ := info_parts Try.infoByte
  obtain ⟨g, cap, rfl, h1, h2, h3, h4, h5⟩ := h
  have hl : (Lib.byteCells n).length = m * i0.size := by rw [hz1, Lib.byteCells_length, hm]; omega
  have hone : ∀ u ∈ Lib.byteCells n, u.oneCell' = true := by
    intro u hu
    obtain ⟨c, _, rfl⟩ := List.mem_map.1 hu
    rfl
  by_cases hr : l.length + m ≤ cap
  · have hsp : ∀ j, j < (Lib.byteCells n).length → (w.cell? ⟨g, 0 + l.length * i0.size + j, none⟩).isSome = true ∧ w.frozen? ⟨g, 0 + l.length * i0.size + j, none⟩ = false := by
      intro j hj
      rw [Lib.byteCells_length] at hj
      exact h5 _ (by rw [hz1]; omega)
    have hrun := run_append_room_cells (P := Try.prog) w 49 ty 5 i0 Try.underlying49 hi g 0 l.length cap ad m c (Lib.byteCells n) hl hnews hone hr (fun j hj => (hsp j hj).1) (fun j hj => (hsp j hj).2)
    refine ⟨_, _, hrun, ?_, grown_setCells g _ _ _⟩
    rw [hz1, Nat.mul_one, Nat.zero_add] at *
    have hl2 : (l ++ n).length = l.length + m := by rw [List.length_append, hm]
    refine ⟨g, cap, by rw [hl2], h1, Nat.lt_of_lt_of_le h2 (grown_setCells g _ _ _).size, by omega, fun j hj => ?_, fun j hj => ?_⟩
    · by_cases hjl : j < l.length
      · rw [World.cell?_setCells_out g _ _ w ⟨g, j, none⟩ (fun _ _ => .inl hjl), h4 j hjl, List.getElem_append_left hjl]
      · have hjn : j - l.length < n.length := by omega
        have := World.cell?_setCells_in g (Lib.byteCells n) l.length w (fun k hk => (hsp k hk).1) (j - l.length) (by rw [Lib.byteCells_length]; exact hjn)
        rw [show l.length + (j - l.length) = j from by omega] at this
        rw [this, List.getElem_append_right (by omega)]
        simp [Lib.byteCells]
    · rw [World.frozen?_setCells]
      exact ⟨World.isSome_setCells g _ _ w _ (h5 j hj).1, (h5 j hj).2⟩
  · have holds : ∀ j u, (Lib.byteCells l)[j]? = some u → w.cell? ((⟨g, 0, none⟩ : Addr).add j) = some u := by
      intro j u hj
      have hjl : j < l.length := by have := (List.getElem?_eq_some_iff.1 hj).1; rw [Lib.byteCells_length] at this; exact this
      rw [add_at, Nat.zero_add, h4 j hjl, ← hj]
      simp [Lib.byteCells, List.getElem?_eq_getElem hjl]
    have hlo : (Lib.byteCells l).length = l.length * i0.size := by rw [hz1, Lib.byteCells_length]; omega
    have hrun := run_append_grow (P := Try.prog) w 49 ty 5 i0 (.int .u8 0) Try.underlying49 hi hz0 ⟨g, 0, none⟩ l.length cap (Lib.byteCells l) hlo holds ad m c (Lib.byteCells n) hl hnews (by omega) (by omega) (growslice_fits (by omega) (by rw [hz2]; omega))
    refine ⟨_, _, hrun, ?_, ⟨rfl, rfl, rfl, by simp, fun k hk _ => (World.grownBy_alloc w.drew _ none).block k hk (by simp)⟩⟩
    have hl2 : (l ++ n).length = l.length + m := by rw [List.length_append, hm]
    have hge := grownCap_ge w (l.length + m) cap 5
    have hbc : Lib.byteCells l ++ Lib.byteCells n = Lib.byteCells (l ++ n) := by simp [Lib.byteCells]
    have hcat : ((Lib.byteCells l).toArray ++ (Lib.byteCells n).toArray) = (Lib.byteCells (l ++ n)).toArray := by rw [← hbc]; simp
    rw [hcat]
    obtain ⟨C, hC⟩ : ∃ C, C = (Lib.byteCells (l ++ n)).toArray ++ Builtin.zeroCells (Value.int IntKind.u8 0).cells (grownCap w (l.length + m) cap 5 - (l.length + m)) := ⟨_, rfl⟩
    have hCs : C.size = grownCap w (l.length + m) cap 5 := by
      rw [hC, Array.size_append, List.size_toArray, Lib.byteCells_length, hl2, size_zeroCells]
      have e1 : (Value.int IntKind.u8 0).cells.size = 1 := rfl
      first | (rw [e1]; omega) | omega
    have hCj : ∀ j (h : j < (l ++ n).length), C[j]? = some (.int .u8 ((l ++ n)[j].toNat : Int)) := by
      intro j hj
      rw [hC, Array.getElem?_append_left (by rw [List.size_toArray, Lib.byteCells_length]; exact hj), List.getElem?_toArray]
      simp only [Lib.byteCells, List.getElem?_map, List.getElem?_eq_getElem hj]
      rfl
    rw [← hC]
    have hh : (w.drew.alloc (.cells C 5)).heap[w.heap.size]? = some (.cells C 5 (0, 0)) := heap_alloc_new w.drew _
    refine ⟨w.heap.size, _, by rw [hl2], hB, by simp, by rw [hl2]; exact hge, fun j hj => ?_, fun j hj => ?_⟩
    · rw [Lib.cell_of_heap hh]; exact hCj j hj
    · refine ⟨?_, ?_⟩
      · rw [Lib.cell_of_heap hh, Array.getElem?_eq_getElem (by rw [hCs]; exact hj)]; rfl
      · simp only [World.frozen?]
        rw [hh]
        simp
theorem run_append_mk_none (ty : TypeId) {w : World} {B : Nat} {v : Value} {l : Bs} (h : Mk w B v l) : (Builtin.append_ #[49, 49] ty #[v, .slice none 0 0]).run Try.prog w = .ok v w := by
  obtain ⟨i0, hi, hz0, hz1, hz2⟩ := info_parts Try.infoByte
  obtain ⟨g, cap, rfl, h1, h2, h3, h4, h5⟩ := h
  simp [Builtin.append_, run_underlying Try.underlying49, sizeOf, typeInfo, hi, Builtin.lenOf, Builtin.firstCells, h3, storeCells]
theorem wpList_append_mk {w : World} {ops : Array Oper} {rest : List Oper} {o : Oper} {a : Act} {Q : Exit → Act → World → Prop} (hgd : o.guard = none) (s x : Operand)
    (ho : o.op = .call { callee := .builtin .append, args := #[s, x], argTypes := #[49, 49] })
    (B : Nat) (v : Value) (l : Bs) (hs : a.eval s = v) (hM : Mk w B v l) (ad : Addr) (m c : Nat) (n : Bs) (hx : a.eval x = .slice (some ad) m c) (hm : n.length = m) (hnews : ∀ j u, (Lib.byteCells n)[j]? = some u → w.cell? (ad.add j) = some u)
    (h63 : l.length + m ≤ 1073741824) (hB : B ≤ w.heap.size)
    (h : ∀ v' w', Mk w' B v' (l ++ n) → w.grownBy w' v.ownBlock → wpList Try.prog ops Q rest (a.put o.dst v') w') : wpList Try.prog ops Q (o :: rest) a w := by
  refine wpList_plain hgd fun K hK => ?_
  obtain ⟨v', w', hr, h2, h3⟩ := run_append_mk o.type hM ad m c n hm hnews h63 hB
  unfold Oper.wp
  simp [execOp, ho, resolve, invoke, builtin, hs, hx, hr, Result.andThen]
  exact hK _ _ (h v' w' h2 h3)
theorem wpList_append_mk_none {w : World} {ops : Array Oper} {rest : List Oper} {o : Oper} {a : Act} {Q : Exit → Act → World → Prop} (hgd : o.guard = none) (s x : Operand)
    (ho : o.op = .call { callee := .builtin .append, args := #[s, x], argTypes := #[49, 49] })
    (B : Nat) (v : Value) (l : Bs) (hs : a.eval s = v) (hM : Mk w B v l) (hx : a.eval x = .slice none 0 0)
    (h : wpList Try.prog ops Q rest (a.put o.dst v) w) : wpList Try.prog ops Q (o :: rest) a w := by
  refine wpList_plain hgd fun K hK => ?_
  have hr := run_append_mk_none o.type hM
  unfold Oper.wp
  simp [execOp, ho, resolve, invoke, builtin, hs, hx, hr, Result.andThen]
  exact hK _ _ h
/-- grown where the row's block, or a new one, lies at B or above -/
theorem Mk.below {w w' : World} {B : Nat} {v : Value} {l : Bs} (h : Mk w B v l) (hg : w.grownBy w' v.ownBlock) (hB : B ≤ w.heap.size) : Below B w w' :=
  ⟨hg.os, hg.tape, hg.output, hg.size, fun k hk => hg.block k (by omega) (fun e => by have := h.lt k e.symm; omega)⟩
theorem Mk.under {w w' : World} {B N : Nat} {v : Value} {l : Bs} (h : Mk w B v l) (hb : Below N w w') (hN : ∀ k, v.ownBlock = some k → k < N) : Mk w' B v l := by
  obtain ⟨g, cap, rfl, h1, h2, h3, h4, h5⟩ := h
  have hb' : w'.heap[g]? = w.heap[g]? := hb.block g (hN g rfl)
  refine ⟨g, cap, rfl, h1, Nat.lt_of_lt_of_le h2 hb.size, h3, fun j hj => ?_, fun j hj => ?_⟩
  · rw [World.cell?_of_block (a := ⟨g, j, none⟩) hb']; exact h4 j hj
  · rw [World.cell?_of_block (a := ⟨g, j, none⟩) hb', World.frozen?_of_block (a := ⟨g, j, none⟩) hb']; exact h5 j hj
theorem Mk.base {w : World} {B B' : Nat} {v : Value} {l : Bs} (h : Mk w B v l) (hb : B' ≤ B) : Mk w B' v l := by
  obtain ⟨g, cap, rfl, h1, h2, h3, h4, h5⟩ := h
  exact ⟨g, cap, rfl, by omega, h2, h3, h4, h5⟩
theorem Mk.at {w : World} {B g k n : Nat} {l : Bs} (h : Mk w B (sl g k n) l) (j : Nat) (hj : j < l.length) : w.cell? ⟨g, j, none⟩ = some (.int .u8 (l[j].toNat : Int)) ∧ w.frozen? ⟨g, j, none⟩ = false := by
  obtain ⟨g', cap, hv, h1, h2, h3, h4, h5⟩ := h
  injection hv with e1 e2 e3
  injection e1 with e1
  injection e1 with e1
  subst e1
  exact ⟨h4 j hj, (h5 j (by omega)).2⟩
theorem Mk.set {w : World} {B g k n : Nat} {l : Bs} (h : Mk w B (sl g k n) l) (j : Nat) (c : UInt8) (hj : j < l.length) : Mk (w.setCell ⟨g, j, none⟩ (.int .u8 (c.toNat : Int))) B (sl g k n) (l.set j c) := by
  obtain ⟨g', cap, hv, h1, h2, h3, h4, h5⟩ := h
  injection hv with e1 e2 e3
  injection e1 with e1
  injection e1 with e1
  subst e1 e2 e3
  refine ⟨g, n, by rw [List.length_set], h1, by simpa using h2, by rw [List.length_set]; exact h3, fun i hi => ?_, fun i hi => ⟨?_, ?_⟩⟩
  · rw [List.length_set] at hi
    by_cases e : i = j
    · subst e
      rw [List.getElem_set_self]
      exact World.cell?_setCell_same' _ _ _ (h5 i (by omega)).1
    · rw [List.getElem_set_ne (by omega), ← h4 i hi]
      exact World.cell?_setCell_other _ _ _ _ (fun x => e (by injection x with _ x2; omega))
  · by_cases e : i = j
    · subst e
      rw [World.cell?_setCell_same' _ _ _ (h5 i hi).1]; rfl
    · rw [World.cell?_setCell_other _ _ _ _ (fun x => e (by injection x with _ x2; omega))]; exact (h5 i hi).1
  · rw [World.frozen?_setCell]; exact (h5 i hi).2
theorem Mk.src {w : World} {B g k c : Nat} {l : Bs} (h : Mk w B (sl g k c) l) : l.length = k ∧ ∀ j u, (Lib.byteCells l)[j]? = some u → w.cell? ((⟨g, 0, none⟩ : Addr).add j) = some u := by
  obtain ⟨g', cap, hv, h1, h2, h3, h4, h5⟩ := h
  injection hv with e1 e2 e3
  injection e1 with e1
  injection e1 with e1
  subst e1 e2 e3
  refine ⟨rfl, fun j u hj => ?_⟩
  have hjl : j < l.length := by have := (List.getElem?_eq_some_iff.1 hj).1; rw [Lib.byteCells_length] at this; exact this
  rw [add_at, Nat.zero_add, h4 j hjl, ← hj]
  simp [Lib.byteCells, List.getElem?_eq_getElem hjl]
end Go.Proofs.Ytebnmjelelkcmaa.Bk
