/- What the document's Get answers. -/
import Derived.Test.YtbofidpoajdcmaaGreatDoorCdRGet
import Derived.Test.YtbofidpoajdcmaaGreatDoorCdSum
import Derived.BigRegion
import Derived.Deep.DeepCutAuto
import Derived.Deep.CutBlock
namespace Go.Proofs.YtbofidpoajdcmaaGreatDoor.Cd
open Go.RowKit Cu Tr

/-- what the document's Get answers -/
def RGetR (w : World) (l : Bs) (e : Ending) (w' : World) : Prop := Below w.heap.size w w' ∧
  match getP l with
  | some (c, r) => ∃ da dc, e = .returned (.tuple #[.agg (ca c (.slice da c.data.length dc)), .int .i64 ((l.length : Int) - (r.length : Int)), .int .i64 0]) ∧ By w' da c.data.length dc c.data ∧ ∀ ad, da = some ad → ∃ cur f, w'.heap[ad.block]? = some (.cells cur 5 f)
  | none => e = .returned (.tuple #[.agg (ca caz (.slice none 0 0)), .int .i64 0, .int .i64 5])
theorem twelve {P : Nat → Prop} (h0 : P 0) (h1 : P 1) (h2 : P 2) (h3 : P 3) (h4 : P 4) (h5 : P 5) (h6 : P 6) (h7 : P 7) (h8 : P 8) (h9 : P 9) (h10 : P 10) (h11 : P 11) : ∀ i, i < 12 → P i := fun i hi => by
  match i, hi with
  | 0, _ => exact h0
  | 1, _ => exact h1
  | 2, _ => exact h2
  | 3, _ => exact h3
  | 4, _ => exact h4
  | 5, _ => exact h5
  | 6, _ => exact h6
  | 7, _ => exact h7
  | 8, _ => exact h8
  | 9, _ => exact h9
  | 10, _ => exact h10
  | 11, _ => exact h11
theorem ca_lt {c : Ca} {d : Value} {j : Nat} {u : Value} (h : (ca c d)[j]? = some u) : j < 12 := by
  have := (Array.getElem?_eq_some_iff.1 h).1
  simpa using this
theorem f12_path (c : Ca) (d : Value) (z : ByteArray) : ∀ j u, (ca { c with path := z } d)[j]? = some u → (j = 1 ∧ u = (.string z)) ∨ (j ≠ 1 ∧ (ca c d)[j]? = some u) := fun j u h => by
  refine twelve (P := fun j => (ca { c with path := z } d)[j]? = some u → (j = 1 ∧ u = (.string z)) ∨ (j ≠ 1 ∧ (ca c d)[j]? = some u)) ?_ ?_ ?_ ?_ ?_ ?_ ?_ ?_ ?_ ?_ ?_ ?_ j (ca_lt h) h
  all_goals first | (intro q; exact .inr ⟨by decide, q⟩) | (intro q; exact .inl ⟨rfl, (Option.some.inj q).symm⟩)
theorem f12_other (c : Ca) (d : Value) (z : ByteArray) : ∀ j u, (ca { c with other := z } d)[j]? = some u → (j = 2 ∧ u = (.string z)) ∨ (j ≠ 2 ∧ (ca c d)[j]? = some u) := fun j u h => by
  refine twelve (P := fun j => (ca { c with other := z } d)[j]? = some u → (j = 2 ∧ u = (.string z)) ∨ (j ≠ 2 ∧ (ca c d)[j]? = some u)) ?_ ?_ ?_ ?_ ?_ ?_ ?_ ?_ ?_ ?_ ?_ ?_ j (ca_lt h) h
  all_goals first | (intro q; exact .inr ⟨by decide, q⟩) | (intro q; exact .inl ⟨rfl, (Option.some.inj q).symm⟩)
theorem f12_mode (c : Ca) (d : Value) (z : Int) : ∀ j u, (ca { c with mode := z } d)[j]? = some u → (j = 3 ∧ u = (.int .i64 z)) ∨ (j ≠ 3 ∧ (ca c d)[j]? = some u) := fun j u h => by
  refine twelve (P := fun j => (ca { c with mode := z } d)[j]? = some u → (j = 3 ∧ u = (.int .i64 z)) ∨ (j ≠ 3 ∧ (ca c d)[j]? = some u)) ?_ ?_ ?_ ?_ ?_ ?_ ?_ ?_ ?_ ?_ ?_ ?_ j (ca_lt h) h
  all_goals first | (intro q; exact .inr ⟨by decide, q⟩) | (intro q; exact .inl ⟨rfl, (Option.some.inj q).symm⟩)
theorem f12_user (c : Ca) (d : Value) (z : Int) : ∀ j u, (ca { c with user := z } d)[j]? = some u → (j = 4 ∧ u = (.int .i64 z)) ∨ (j ≠ 4 ∧ (ca c d)[j]? = some u) := fun j u h => by
  refine twelve (P := fun j => (ca { c with user := z } d)[j]? = some u → (j = 4 ∧ u = (.int .i64 z)) ∨ (j ≠ 4 ∧ (ca c d)[j]? = some u)) ?_ ?_ ?_ ?_ ?_ ?_ ?_ ?_ ?_ ?_ ?_ ?_ j (ca_lt h) h
  all_goals first | (intro q; exact .inr ⟨by decide, q⟩) | (intro q; exact .inl ⟨rfl, (Option.some.inj q).symm⟩)
theorem f12_group (c : Ca) (d : Value) (z : Int) : ∀ j u, (ca { c with group := z } d)[j]? = some u → (j = 5 ∧ u = (.int .i64 z)) ∨ (j ≠ 5 ∧ (ca c d)[j]? = some u) := fun j u h => by
  refine twelve (P := fun j => (ca { c with group := z } d)[j]? = some u → (j = 5 ∧ u = (.int .i64 z)) ∨ (j ≠ 5 ∧ (ca c d)[j]? = some u)) ?_ ?_ ?_ ?_ ?_ ?_ ?_ ?_ ?_ ?_ ?_ ?_ j (ca_lt h) h
  all_goals first | (intro q; exact .inr ⟨by decide, q⟩) | (intro q; exact .inl ⟨rfl, (Option.some.inj q).symm⟩)
theorem f12_time (c : Ca) (d : Value) (z : Int) : ∀ j u, (ca { c with time := z } d)[j]? = some u → (j = 6 ∧ u = (.int .i64 z)) ∨ (j ≠ 6 ∧ (ca c d)[j]? = some u) := fun j u h => by
  refine twelve (P := fun j => (ca { c with time := z } d)[j]? = some u → (j = 6 ∧ u = (.int .i64 z)) ∨ (j ≠ 6 ∧ (ca c d)[j]? = some u)) ?_ ?_ ?_ ?_ ?_ ?_ ?_ ?_ ?_ ?_ ?_ ?_ j (ca_lt h) h
  all_goals first | (intro q; exact .inr ⟨by decide, q⟩) | (intro q; exact .inl ⟨rfl, (Option.some.inj q).symm⟩)
theorem f12_eu (c : Ca) (d : Value) (z : Int) : ∀ j u, (ca { c with eu := z } d)[j]? = some u → (j = 8 ∧ u = (.int .i64 z)) ∨ (j ≠ 8 ∧ (ca c d)[j]? = some u) := fun j u h => by
  refine twelve (P := fun j => (ca { c with eu := z } d)[j]? = some u → (j = 8 ∧ u = (.int .i64 z)) ∨ (j ≠ 8 ∧ (ca c d)[j]? = some u)) ?_ ?_ ?_ ?_ ?_ ?_ ?_ ?_ ?_ ?_ ?_ ?_ j (ca_lt h) h
  all_goals first | (intro q; exact .inr ⟨by decide, q⟩) | (intro q; exact .inl ⟨rfl, (Option.some.inj q).symm⟩)
theorem f12_eg (c : Ca) (d : Value) (z : Int) : ∀ j u, (ca { c with eg := z } d)[j]? = some u → (j = 9 ∧ u = (.int .i64 z)) ∨ (j ≠ 9 ∧ (ca c d)[j]? = some u) := fun j u h => by
  refine twelve (P := fun j => (ca { c with eg := z } d)[j]? = some u → (j = 9 ∧ u = (.int .i64 z)) ∨ (j ≠ 9 ∧ (ca c d)[j]? = some u)) ?_ ?_ ?_ ?_ ?_ ?_ ?_ ?_ ?_ ?_ ?_ ?_ j (ca_lt h) h
  all_goals first | (intro q; exact .inr ⟨by decide, q⟩) | (intro q; exact .inl ⟨rfl, (Option.some.inj q).symm⟩)
theorem f12_em (c : Ca) (d : Value) (z : Int) : ∀ j u, (ca { c with em := z } d)[j]? = some u → (j = 10 ∧ u = (.int .i64 z)) ∨ (j ≠ 10 ∧ (ca c d)[j]? = some u) := fun j u h => by
  refine twelve (P := fun j => (ca { c with em := z } d)[j]? = some u → (j = 10 ∧ u = (.int .i64 z)) ∨ (j ≠ 10 ∧ (ca c d)[j]? = some u)) ?_ ?_ ?_ ?_ ?_ ?_ ?_ ?_ ?_ ?_ ?_ ?_ j (ca_lt h) h
  all_goals first | (intro q; exact .inr ⟨by decide, q⟩) | (intro q; exact .inl ⟨rfl, (Option.some.inj q).symm⟩)
theorem f12_ed (c : Ca) (d : Value) (z : Int) : ∀ j u, (ca { c with ed := z } d)[j]? = some u → (j = 11 ∧ u = (.int .i64 z)) ∨ (j ≠ 11 ∧ (ca c d)[j]? = some u) := fun j u h => by
  refine twelve (P := fun j => (ca { c with ed := z } d)[j]? = some u → (j = 11 ∧ u = (.int .i64 z)) ∨ (j ≠ 11 ∧ (ca c d)[j]? = some u)) ?_ ?_ ?_ ?_ ?_ ?_ ?_ ?_ ?_ ?_ ?_ ?_ j (ca_lt h) h
  all_goals first | (intro q; exact .inr ⟨by decide, q⟩) | (intro q; exact .inl ⟨rfl, (Option.some.inj q).symm⟩)
/-- behind a text -/
theorem Jg.txt {w0 w w1 : World} {cb rb : Nat} {a : Option Addr} {n cap : Nat} {l : Bs} {c : Ca} {da : Option Addr} {dc : Nat} {st : Option Bs} {e : Ending} (i : Nat) (g g' : Rest) (up : Ca → ByteArray → Ca) (h : Jg w0 cb rb a n cap l g w c da dc st) (hT : Txt9 w rb a n cap l (st.bind txtP) e w1) (hi : i < 12)
    (hg : ∀ c r, g c r = (txtP r).bind fun p => g' (up c (ba p.1)) p.2) (hd : ∀ c z, (up c z).data = c.data) (h12 : ∀ (c : Ca) (d : Value) (z : ByteArray) j u, (ca (up c z) d)[j]? = some u → (j = i ∧ u = .string z) ∨ (j ≠ i ∧ (ca c d)[j]? = some u)) :
    ∃ (s : ByteArray) (st' : Option Bs) (u : Value), e = .returned (.string s) ∧ w1.cell? ⟨cb, i, none⟩ = some u ∧ w1.frozen? ⟨cb, i, none⟩ = false ∧ cb < w1.heap.size ∧ Jg w0 cb rb a n cap l g' (w1.setCell ⟨cb, i, none⟩ (.string s)) (up c s) da dc st' := by
  obtain ⟨hF, s, he, hm⟩ := hT
  obtain ⟨st', hR, hq⟩ := nxt (f := txtP) (g := g) (g' := g') (c := c) up ba (fun r => hg c r) h.eq s (fun q => Rr w1 rb a n cap l q) (fun ho => by rw [ho] at hm; exact hm) (fun y r ho => by rw [ho] at hm; exact hm)
  obtain ⟨⟨u, hu⟩, q2, q3, q4⟩ := h.put hF hR i (.string s) (hd c s) (h12 c _ s) hi hq
  exact ⟨s, st', u, he, hu, q2, q3, q4⟩
/-- behind a number -/
theorem Jg.num {w0 w w1 : World} {cb rb : Nat} {a : Option Addr} {n cap : Nat} {l : Bs} {c : Ca} {da : Option Addr} {dc : Nat} {st : Option Bs} {e : Ending} (i : Nat) (g g' : Rest) (up : Ca → Int → Ca) (h : Jg w0 cb rb a n cap l g w c da dc st) (hT : Int9 w rb a n cap l (st.bind intP) e w1) (hi : i < 12)
    (hg : ∀ c r, g c r = (intP r).bind fun p => g' (up c p.1) p.2) (hd : ∀ c z, (up c z).data = c.data) (h12 : ∀ (c : Ca) (d : Value) (z : Int) j u, (ca (up c z) d)[j]? = some u → (j = i ∧ u = .int .i64 z) ∨ (j ≠ i ∧ (ca c d)[j]? = some u)) :
    ∃ (z : Int) (st' : Option Bs) (u : Value), e = .returned (.int .i64 z) ∧ w1.cell? ⟨cb, i, none⟩ = some u ∧ w1.frozen? ⟨cb, i, none⟩ = false ∧ cb < w1.heap.size ∧ Jg w0 cb rb a n cap l g' (w1.setCell ⟨cb, i, none⟩ (.int .i64 z)) (up c z) da dc st' := by
  obtain ⟨hF, s, he, hm⟩ := hT
  obtain ⟨st', hR, hq⟩ := nxt (f := intP) (g := g) (g' := g') (c := c) up id (fun r => hg c r) h.eq s (fun q => Rr w1 rb a n cap l q) (fun ho => by rw [ho] at hm; exact hm) (fun y r ho => by rw [ho] at hm; exact hm)
  obtain ⟨⟨u, hu⟩, q2, q3, q4⟩ := h.put hF hR i (.int .i64 s) (hd c s) (h12 c _ s) hi hq
  exact ⟨s, st', u, he, hu, q2, q3, q4⟩
theorem f12_data (c : Ca) (d d' : Value) (x : Bs) : ∀ j u, (ca { c with data := x } d')[j]? = some u → (j = 7 ∧ u = d') ∨ (j ≠ 7 ∧ (ca c d)[j]? = some u) := fun j u h => by
  refine twelve (P := fun j => (ca { c with data := x } d')[j]? = some u → (j = 7 ∧ u = d') ∨ (j ≠ 7 ∧ (ca c d)[j]? = some u)) ?_ ?_ ?_ ?_ ?_ ?_ ?_ ?_ ?_ ?_ ?_ ?_ j (ca_lt h) h
  all_goals first | (intro q; exact .inr ⟨by decide, q⟩) | (intro q; exact .inl ⟨rfl, (Option.some.inj q).symm⟩)
/-- behind the data, which were laid into w2 -/
theorem Jg.dat {w0 w w1 w2 : World} {cb rb : Nat} {a : Option Addr} {n cap : Nat} {l : Bs} {c : Ca} {da : Option Addr} {dc : Nat} {st st' : Option Bs} {s : ByteArray} {k : Nat} (h : Jg w0 cb rb a n cap l d8 w c da dc st) (hF : Fr (S9 rb) w w1) (hR : Rr w1 rb a n cap l st') (hq : getP l = st'.bind (d9 { c with data := bs s })) (hb : Below w1.heap.size w1 w2) (hB : By w2 (some ⟨w1.heap.size, 0, none⟩) s.size k (bs s)) (hty : ∃ cur f, w2.heap[w1.heap.size]? = some (.cells cur 5 f)) :
    (∃ u, w2.cell? ⟨cb, 7, none⟩ = some u) ∧ w2.frozen? ⟨cb, 7, none⟩ = false ∧ cb < w2.heap.size ∧ Jg w0 cb rb a n cap l d9 (w2.setCell ⟨cb, 7, none⟩ (.slice (some ⟨w1.heap.size, 0, none⟩) s.size k)) { c with data := bs s } (some ⟨w1.heap.size, 0, none⟩) k st' := by
  obtain ⟨q1, q2, q3⟩ := h.ne
  have hlt1 : cb < w1.heap.size := Nat.lt_of_lt_of_le h.cs.lt hF.size
  have hcb : ∀ j, w2.cell? ⟨cb, j, none⟩ = w.cell? ⟨cb, j, none⟩ := fun j => (hb.cell hlt1).trans (hF.cell _ h.cs.lt (fun e => by
    simp only [List.mem_cons, List.not_mem_nil, or_false] at e
    rcases e with e | e <;> (injection e with e _ _; omega)))
  have hlt : cb < w2.heap.size := Nat.lt_of_lt_of_le hlt1 hb.size
  have hfz : ∀ j, w2.frozen? ⟨cb, j, none⟩ = false := fun j => (World.frozen?_of_block (hb.block _ hlt1)).trans ((hF.frozen _ h.cs.lt).trans (h.cs.fz j))
  have F2 := Fr.set w2 ⟨cb, 7, none⟩ (.slice (some ⟨w1.heap.size, 0, none⟩) s.size k)
  have hold : w2.cell? ⟨cb, 7, none⟩ = some (.slice da c.data.length dc) := (hcb 7).trans (h.cs.cells 7 _ rfl)
  have hbw : Below w0.heap.size w w1 := hF.below (by have := h.rr.lt; omega) (fun p hp => by rw [S9_block p hp]; omega)
  have hR2 : Rr w2 rb a n cap l st' := hR.off (hb.mono (by have := hR.lt; omega))
  have hsl : (bs s).length = s.size := bs_len s
  refine ⟨⟨_, hold⟩, hfz 7, hlt, ((h.below.trans hbw).trans (hb.mono (by omega))).setCell (p := ⟨cb, 7, none⟩) q2 _, ?_, ⟨fun j u hj => ?_, fun j => (F2.frozen _ hlt).trans (hfz j), Nat.lt_of_lt_of_le hlt F2.size⟩, ?_, ?_, ?_, h.ne, hq⟩
  · obtain ⟨i, bad, c1, c2, hk, hb9⟩ := hR2.ex
    have hne : ∀ j, (⟨rb, j, none⟩ : Addr) ∉ [(⟨cb, 7, none⟩ : Addr)] := fun j e => by injection (List.mem_singleton.1 e) with e _ _; omega
    exact ⟨(F2.cell _ hR2.lt (hne 0)).trans hR2.c0, by_fr hR2.by' F2 (fun h0 ad e p hp => by rw [List.mem_singleton.1 hp]; have := hR2.lo h0 ad e; show cb ≠ ad.block; omega), hR2.lo, ⟨i, bad, (F2.cell _ hR2.lt (hne 1)).trans c1, (F2.cell _ hR2.lt (hne 2)).trans c2, hk, hb9⟩, fun j => (F2.frozen _ hR2.lt).trans (hR2.fz j), Nat.lt_of_lt_of_le hR2.lt F2.size, hR2.len⟩
  · simp only [hsl] at hj
    rcases f12_data c (.slice da c.data.length dc) (.slice (some ⟨w1.heap.size, 0, none⟩) s.size k) (bs s) j u hj with ⟨rfl, rfl⟩ | ⟨hji, hu⟩
    · exact World.cell?_setCell_same _ _ _ hold
    · exact (F2.cell _ hlt (by intro e; injection (List.mem_singleton.1 e) with _ e _; exact hji e)).trans ((hcb j).trans (h.cs.cells j u hu))
  · show By _ _ (bs s).length k (bs s)
    rw [hsl]
    exact by_fr hB F2 (fun h0 ad e p hp => by rw [List.mem_singleton.1 hp]; injection e with e; subst e; show cb ≠ w1.heap.size; omega)
  · intro ad e
    injection e with e
    subst e
    have := hR.lt
    exact ⟨by show w1.heap.size ≠ rb; omega, by show w1.heap.size ≠ cb; omega, by show w0.heap.size ≤ w1.heap.size; omega⟩
  · intro ad e
    injection e with e
    subst e
    obtain ⟨cur, f, hc⟩ := hty
    exact ⟨cur, f, (heap_setCell_other _ _ _ _ (by show w1.heap.size ≠ cb; omega)).trans hc⟩
theorem cv_to9 (x : ByteArray) (W : World) : ∃ (c : Nat) (o : Obj), (convert 9 23 (.string x)).run Tryz.prog W = .ok (.slice (some ⟨W.heap.size, 0, none⟩) x.size c) (W.alloc o).drew ∧ By (W.alloc o).drew (some ⟨W.heap.size, 0, none⟩) x.size c (bs x) ∧ ∃ cur f, (W.alloc o).drew.heap[W.heap.size]? = some (.cells cur 5 f) := by
  have hr := run_bytes_of_string (P := Tryz.prog) W 9 23 5 x Tryz.underlying9 Tryz.underlying23 Tryz.underlying5
  refine ⟨_, _, hr, ⟨rfl, grownCap_ge _ _ _ _, (by intro h; cases h), .inr ⟨_, 0, rfl, by simp, ?_⟩⟩, _, _, heap_alloc_new W _⟩
  intro i hi
  rw [Nat.zero_add, World.cell?_drew, Lib.cell_of_heap (heap_alloc_new W _)]
  unfold bytesRow
  rw [Array.getElem?_append_left (by simpa using hi)]
  have hi' : i < x.data.size := hi
  rw [Array.getElem?_map, Array.getElem?_eq_getElem hi', show (bs x).getD i 0 = x.data[i] by simp [List.getD, Array.getElem?_eq_getElem hi']]
  rfl
theorem frz9 {w : World} {b : Nat} {c : Array Value} {e : TypeId} (h : w.heap[b]? = some (.cells c e (0, 0))) (i : Nat) : w.frozen? ⟨b, i, none⟩ = false := by simp [World.frozen?, h]
theorem start_Jg (a : Option Addr) (n cap : Nat) (l : Bs) (w0 w1 : World) (st' : Option Bs) (x : Nat) (hx : x < 256) (hF : Fr (S9 w0.heap.size) (w0.alloc (.cells #[.slice a n cap, .int .i64 0, .bool false] 89)) w1) (hR : Rr w1 w0.heap.size a n cap l st') (hq : getP l = st'.bind (d2 { caz with kind := UInt8.ofNat x })) :
    Jg w0 w1.heap.size w0.heap.size a n cap l d2 (w1.alloc (.cells #[.int .u8 (x : Int), .string ⟨#[]⟩, .string ⟨#[]⟩, .int .i64 0, .int .i64 0, .int .i64 0, .int .i64 0, .slice none 0 0, .int .i64 0, .int .i64 0, .int .i64 0, .int .i64 0] 27)) { caz with kind := UInt8.ofNat x } none 0 st' := by
  have b1 : Below w0.heap.size w0 (w0.alloc (.cells #[.slice a n cap, .int .i64 0, .bool false] 89)) := below_new _ _
  have b2 : Below w0.heap.size (w0.alloc (.cells #[.slice a n cap, .int .i64 0, .bool false] 89)) w1 := hF.below (by simp) (fun p hp => by rw [S9_block p hp]; exact Nat.le_refl _)
  have b3 := below_new w1 (.cells #[.int .u8 (x : Int), .string ⟨#[]⟩, .string ⟨#[]⟩, .int .i64 0, .int .i64 0, .int .i64 0, .int .i64 0, .slice none 0 0, .int .i64 0, .int .i64 0, .int .i64 0, .int .i64 0] 27)
  have e3 := heap_alloc_new w1 (.cells #[.int .u8 (x : Int), .string ⟨#[]⟩, .string ⟨#[]⟩, .int .i64 0, .int .i64 0, .int .i64 0, .int .i64 0, .slice none 0 0, .int .i64 0, .int .i64 0, .int .i64 0, .int .i64 0] 27)
  have hs1 := hF.size
  rw [World.size_alloc] at hs1
  have hv : ((UInt8.ofNat x).toNat : Int) = (x : Int) := by rw [UInt8.toNat_ofNat']; omega
  refine ⟨(b1.trans b2).trans (b3.mono (by omega)), hR.off (b3.mono (by omega)), ⟨fun i v h => ?_, fun i => frz9 e3 i, by simp⟩, ⟨rfl, Nat.le_refl _, fun _ => ⟨rfl, rfl⟩, .inl rfl⟩, (fun ad e => by cases e), (fun ad e => by cases e), ⟨by omega, by omega, Nat.le_refl _⟩, hq⟩
  rw [cell_of_row _ _ _ _ _ _ e3, ← h]
  refine twelve (P := fun i => (#[.int .u8 (x : Int), .string ⟨#[]⟩, .string ⟨#[]⟩, .int .i64 0, .int .i64 0, .int .i64 0, .int .i64 0, .slice none 0 0, .int .i64 0, .int .i64 0, .int .i64 0, .int .i64 0] : Array Value)[i]? = (ca { caz with kind := UInt8.ofNat x } (.slice none 0 0))[i]?) ?_ ?_ ?_ ?_ ?_ ?_ ?_ ?_ ?_ ?_ ?_ ?_ i (ca_lt h)
  all_goals first | rfl | (show some (Value.int .u8 (x : Int)) = some (Value.int .u8 ((UInt8.ofNat x).toNat : Int)); rw [hv])
theorem start_Rr (a : Option Addr) (n cap : Nat) (l : Bs) (w w0 : World) (hB : By w a n cap l) (hb : Below w.heap.size w w0) (hs : w.heap.size < w0.heap.size) (hn : n ≤ 4611686018427387904) : Rr (w0.alloc (.cells #[.slice a n cap, .int .i64 0, .bool false] 89)) w0.heap.size a n cap l (some l) := by
  have e := heap_alloc_new w0 (.cells #[.slice a n cap, .int .i64 0, .bool false] 89)
  refine ⟨by rw [cell_of_row _ _ _ _ _ _ e]; rfl, (hB.below hb).below (below_new _ _), fun h0 ad q => by have := By.in hB h0 ad q; omega, ⟨0, false, by rw [cell_of_row _ _ _ _ _ _ e]; rfl, by rw [cell_of_row _ _ _ _ _ _ e]; rfl, Nat.zero_le _, rfl, rfl⟩, fun i => frz9 e i, by simp, hn⟩
set_option maxHeartbeats 8000000 in
set_option maxRecDepth 100000 in
theorem rget_any (a : Option Addr) (n cap : Nat) (l : Bs) (w : World) (hB : By w a n cap l) (hn : n ≤ 4611686018427387904) : Calls Tryz.prog 18 #[.slice a n cap] w (RGetR w l) := by
  obtain ⟨w0, hw0⟩ : ∃ w0, w0 = w.alloc (.cells zA 27) := ⟨_, rfl⟩
  have s0 : w0.heap.size = w.heap.size + 1 := by rw [hw0]; simp
  have b0 : Below w.heap.size w w0 := by rw [hw0]; exact below_new w _
  have z0 : w0.heap[w.heap.size]? = some (.cells zA 27 (0, 0)) := by rw [hw0]; exact heap_alloc_new w _
  have O := hide (one9_any w0.heap.size a n cap l (some l) _ (start_Rr a n cap l w w0 hB b0 (by omega) hn))
  unfold One9 at O
  have hlen : Hid (l.length = n) := hB.len
  have HB0 := hide b0
  have HZ0 := hide z0
  have HW0 := hide hw0
  have HS0 := hide s0
  have HGD := hide (getP_d l)
  rw [s0] at O
  subst hw0
  clear hB b0 z0
  go_enter Tryz.func18, Tryz.ntmps18
  go_wp2_with fail
  refine (unhide O).mono ?_
  rintro e w1 ⟨hF, x, hx, rfl, hm⟩
  obtain ⟨st1, hR1, hq1⟩ := nxt (f := numN 1) (g := d1) (g' := d2) (c := caz) (o := getP l) (st := some l) (fun c (x : Nat) => { c with kind := UInt8.ofNat x }) id (fun r => rfl) (unhide HGD) x (fun q => Rr w1 (w.heap.size + 1) a n cap l q) (fun ho => by rw [ho] at hm; exact hm) (fun y r ho => by rw [ho] at hm; exact hm)
  obtain ⟨wz, hwz⟩ : ∃ wz, wz = w.alloc (.cells zA 27) := ⟨_, rfl⟩
  have hsz : wz.heap.size = w.heap.size + 1 := by rw [hwz]; simp
  have J1 := start_Jg a n cap l wz w1 st1 x hx (by rw [hsz, hwz]; exact hF) (by rw [hsz]; exact hR1) hq1
  rw [hsz] at J1
  have HJ1 := hide J1
  have HBZ := hide (show Below w.heap.size w wz by rw [hwz]; exact below_new w _)
  have HZZ := hide (show wz.heap[w.heap.size]? = some (.cells zA 27 (0, 0)) by rw [hwz]; exact heap_alloc_new w _)
  have HSZ := hide hsz
  have hlw := J1.cs.lt
  clear O hF hm hR1 hq1 J1 hwz hsz HB0 HZ0 HW0 HS0 HGD s0
  go_wp2_with fail
  obtain ⟨W1, hW1⟩ : ∃ W, W = (w1.alloc (.cells #[.int .u8 (x : Int), .string ⟨#[]⟩, .string ⟨#[]⟩, .int .i64 0, .int .i64 0, .int .i64 0, .int .i64 0, .slice none 0 0, .int .i64 0, .int .i64 0, .int .i64 0, .int .i64 0] 27)) := ⟨_, rfl⟩
  rw [← hW1] at HJ1 hlw
  rw [← hW1]
  obtain ⟨cb, hcb⟩ : ∃ cb, cb = w1.heap.size := ⟨_, rfl⟩
  rw [← hcb] at HJ1 hlw
  rw [← hcb]
  obtain ⟨c1, hc1⟩ : ∃ c : Ca, c = { caz with kind := UInt8.ofNat x } := ⟨_, rfl⟩
  obtain ⟨da1, dc1, hJd⟩ : ∃ (da : Option Addr) (dc : Nat), Hid (Jg wz cb (w.heap.size + 1) a n cap l d2 W1 c1 da dc st1) := ⟨none, 0, by rw [hc1]; exact HJ1⟩
  clear HJ1 hW1 hcb hc1 hx
  refine (txt9_any (w.heap.size + 1) a n cap l st1 W1 (unhide hJd).rr).mono ?_
  rintro e v1 hT
  obtain ⟨z, st2, u, rfl, hu, hf, hl, hJ⟩ := (unhide hJd).txt 1 d2 d3 (fun c z => { c with path := z }) hT (by omega) (fun _ _ => rfl) (fun _ _ => rfl) f12_path
  obtain ⟨W2, hN⟩ : ∃ W, W = v1.setCell ⟨cb, 1, none⟩ (.string z) := ⟨_, rfl⟩
  rw [← hN] at hJ
  have hJ' := hide hJ
  have HN := hide hN
  clear hT hJ hN
  go_wp2_with fail
  rw [← unhide HN]
  clear hu hf hl HN
  obtain ⟨c2, da2, dc2, hJ2⟩ : ∃ (c : Ca) (da : Option Addr) (dc : Nat), Hid (Jg wz cb (w.heap.size + 1) a n cap l d3 W2 c da dc st2) := ⟨_, _, _, hJ'⟩
  clear hJ'
  refine (txt9_any (w.heap.size + 1) a n cap l st2 W2 (unhide hJ2).rr).mono ?_
  rintro e v2 hT
  obtain ⟨z, st3, u, rfl, hu, hf, hl, hJ⟩ := (unhide hJ2).txt 2 d3 d4 (fun c z => { c with other := z }) hT (by omega) (fun _ _ => rfl) (fun _ _ => rfl) f12_other
  obtain ⟨W3, hN⟩ : ∃ W, W = v2.setCell ⟨cb, 2, none⟩ (.string z) := ⟨_, rfl⟩
  rw [← hN] at hJ
  have hJ' := hide hJ
  have HN := hide hN
  clear hT hJ hN
  go_wp2_with fail
  rw [← unhide HN]
  clear hu hf hl HN
  obtain ⟨c3, da3, dc3, hJ3⟩ : ∃ (c : Ca) (da : Option Addr) (dc : Nat), Hid (Jg wz cb (w.heap.size + 1) a n cap l d4 W3 c da dc st3) := ⟨_, _, _, hJ'⟩
  clear hJ'
  refine (num9_any (w.heap.size + 1) a n cap l st3 W3 (unhide hJ3).rr).mono ?_
  rintro e v3 hT
  obtain ⟨z, st4, u, rfl, hu, hf, hl, hJ⟩ := (unhide hJ3).num 3 d4 d5 (fun c z => { c with mode := z }) hT (by omega) (fun _ _ => rfl) (fun _ _ => rfl) f12_mode
  obtain ⟨W4, hN⟩ : ∃ W, W = v3.setCell ⟨cb, 3, none⟩ (.int .i64 z) := ⟨_, rfl⟩
  rw [← hN] at hJ
  have hJ' := hide hJ
  have HN := hide hN
  clear hT hJ hN
  go_wp2_with fail
  rw [← unhide HN]
  clear hu hf hl HN
  obtain ⟨c4, da4, dc4, hJ4⟩ : ∃ (c : Ca) (da : Option Addr) (dc : Nat), Hid (Jg wz cb (w.heap.size + 1) a n cap l d5 W4 c da dc st4) := ⟨_, _, _, hJ'⟩
  clear hJ'
  refine (num9_any (w.heap.size + 1) a n cap l st4 W4 (unhide hJ4).rr).mono ?_
  rintro e v4 hT
  obtain ⟨z, st5, u, rfl, hu, hf, hl, hJ⟩ := (unhide hJ4).num 4 d5 d6 (fun c z => { c with user := z }) hT (by omega) (fun _ _ => rfl) (fun _ _ => rfl) f12_user
  obtain ⟨W5, hN⟩ : ∃ W, W = v4.setCell ⟨cb, 4, none⟩ (.int .i64 z) := ⟨_, rfl⟩
  rw [← hN] at hJ
  have hJ' := hide hJ
  have HN := hide hN
  clear hT hJ hN
  go_wp2_with fail
  rw [← unhide HN]
  clear hu hf hl HN
  obtain ⟨c5, da5, dc5, hJ5⟩ : ∃ (c : Ca) (da : Option Addr) (dc : Nat), Hid (Jg wz cb (w.heap.size + 1) a n cap l d6 W5 c da dc st5) := ⟨_, _, _, hJ'⟩
  clear hJ'
  refine (num9_any (w.heap.size + 1) a n cap l st5 W5 (unhide hJ5).rr).mono ?_
  rintro e v5 hT
  obtain ⟨z, st6, u, rfl, hu, hf, hl, hJ⟩ := (unhide hJ5).num 5 d6 d7 (fun c z => { c with group := z }) hT (by omega) (fun _ _ => rfl) (fun _ _ => rfl) f12_group
  obtain ⟨W6, hN⟩ : ∃ W, W = v5.setCell ⟨cb, 5, none⟩ (.int .i64 z) := ⟨_, rfl⟩
  rw [← hN] at hJ
  have hJ' := hide hJ
  have HN := hide hN
  clear hT hJ hN
  go_wp2_with fail
  rw [← unhide HN]
  clear hu hf hl HN
  obtain ⟨c6, da6, dc6, hJ6⟩ : ∃ (c : Ca) (da : Option Addr) (dc : Nat), Hid (Jg wz cb (w.heap.size + 1) a n cap l d7 W6 c da dc st6) := ⟨_, _, _, hJ'⟩
  clear hJ'
  refine (num9_any (w.heap.size + 1) a n cap l st6 W6 (unhide hJ6).rr).mono ?_
  rintro e v6 hT
  obtain ⟨z, st7, u, rfl, hu, hf, hl, hJ⟩ := (unhide hJ6).num 6 d7 d8 (fun c z => { c with time := z }) hT (by omega) (fun _ _ => rfl) (fun _ _ => rfl) f12_time
  obtain ⟨W7, hN⟩ : ∃ W, W = v6.setCell ⟨cb, 6, none⟩ (.int .i64 z) := ⟨_, rfl⟩
  rw [← hN] at hJ
  have hJ' := hide hJ
  have HN := hide hN
  clear hT hJ hN
  go_wp2_with fail
  rw [← unhide HN]
  clear hu hf hl HN
  obtain ⟨c7, da7, dc7, hJ7⟩ : ∃ (c : Ca) (da : Option Addr) (dc : Nat), Hid (Jg wz cb (w.heap.size + 1) a n cap l d8 W7 c da dc st7) := ⟨_, _, _, hJ'⟩
  clear hJ'
  refine (txt9_any (w.heap.size + 1) a n cap l st7 W7 (unhide hJ7).rr).mono ?_
  rintro e v7 ⟨hF, s, rfl, hm⟩
  obtain ⟨st8, hR, hq⟩ := nxt (f := txtP) (g := d8) (g' := d9) (c := c7) (fun c (s : ByteArray) => { c with data := bs s }) ba (fun r => rfl) (unhide hJ7).eq s (fun q => Rr v7 (w.heap.size + 1) a n cap l q) (fun ho => by rw [ho] at hm; exact hm) (fun y r ho => by rw [ho] at hm; exact hm)
  obtain ⟨k9, ob, hcv, hBy, hob⟩ := cv_to9 s v7
  obtain ⟨⟨u, hu⟩, hf, hl, hJ⟩ := (unhide hJ7).dat hF hR hq (show Below v7.heap.size v7 (v7.alloc ob).drew from below_drewN ((Below.refl _ _).alloc (Nat.le_refl _) ob) 1) hBy hob
  obtain ⟨W8, hN⟩ : ∃ W, W = ((v7.alloc ob).setCell ⟨cb, 7, none⟩ (.slice (some ⟨v7.heap.size, 0, none⟩) s.size k9)).drew := ⟨_, rfl⟩
  have hJ' : Hid (Jg wz cb (w.heap.size + 1) a n cap l d9 W8 { c7 with data := bs s } (some ⟨v7.heap.size, 0, none⟩) k9 st8) := by rw [hN]; exact hJ
  have HN := hide hN
  clear hF hm hR hq hBy hJ hN hob
  go_wp2_with fail
  rw [← unhide HN]
  clear hu hf hl HN
  obtain ⟨c8, da8, dc8, hJ8⟩ : ∃ (c : Ca) (da : Option Addr) (dc : Nat), Hid (Jg wz cb (w.heap.size + 1) a n cap l d9 W8 c da dc st8) := ⟨_, _, _, hJ'⟩
  clear hJ'
  refine (num9_any (w.heap.size + 1) a n cap l st8 W8 (unhide hJ8).rr).mono ?_
  rintro e v8 hT
  obtain ⟨z, st9, u, rfl, hu, hf, hl, hJ⟩ := (unhide hJ8).num 8 d9 d10 (fun c z => { c with eu := z }) hT (by omega) (fun _ _ => rfl) (fun _ _ => rfl) f12_eu
  obtain ⟨W9, hN⟩ : ∃ W, W = v8.setCell ⟨cb, 8, none⟩ (.int .i64 z) := ⟨_, rfl⟩
  rw [← hN] at hJ
  have hJ' := hide hJ
  have HN := hide hN
  clear hT hJ hN
  go_wp2_with fail
  rw [← unhide HN]
  clear hu hf hl HN
  obtain ⟨c9, da9, dc9, hJ9⟩ : ∃ (c : Ca) (da : Option Addr) (dc : Nat), Hid (Jg wz cb (w.heap.size + 1) a n cap l d10 W9 c da dc st9) := ⟨_, _, _, hJ'⟩
  clear hJ'
  refine (num9_any (w.heap.size + 1) a n cap l st9 W9 (unhide hJ9).rr).mono ?_
  rintro e v9 hT
  obtain ⟨z, st10, u, rfl, hu, hf, hl, hJ⟩ := (unhide hJ9).num 9 d10 d11 (fun c z => { c with eg := z }) hT (by omega) (fun _ _ => rfl) (fun _ _ => rfl) f12_eg
  obtain ⟨W10, hN⟩ : ∃ W, W = v9.setCell ⟨cb, 9, none⟩ (.int .i64 z) := ⟨_, rfl⟩
  rw [← hN] at hJ
  have hJ' := hide hJ
  have HN := hide hN
  clear hT hJ hN
  go_wp2_with fail
  rw [← unhide HN]
  clear hu hf hl HN
  obtain ⟨c10, da10, dc10, hJ10⟩ : ∃ (c : Ca) (da : Option Addr) (dc : Nat), Hid (Jg wz cb (w.heap.size + 1) a n cap l d11 W10 c da dc st10) := ⟨_, _, _, hJ'⟩
  clear hJ'
  refine (num9_any (w.heap.size + 1) a n cap l st10 W10 (unhide hJ10).rr).mono ?_
  rintro e v10 hT
  obtain ⟨z, st11, u, rfl, hu, hf, hl, hJ⟩ := (unhide hJ10).num 10 d11 d12 (fun c z => { c with em := z }) hT (by omega) (fun _ _ => rfl) (fun _ _ => rfl) f12_em
  obtain ⟨W11, hN⟩ : ∃ W, W = v10.setCell ⟨cb, 10, none⟩ (.int .i64 z) := ⟨_, rfl⟩
  rw [← hN] at hJ
  have hJ' := hide hJ
  have HN := hide hN
  clear hT hJ hN
  go_wp2_with fail
  rw [← unhide HN]
  clear hu hf hl HN
  obtain ⟨c11, da11, dc11, hJ11⟩ : ∃ (c : Ca) (da : Option Addr) (dc : Nat), Hid (Jg wz cb (w.heap.size + 1) a n cap l d12 W11 c da dc st11) := ⟨_, _, _, hJ'⟩
  clear hJ'
  refine (num9_any (w.heap.size + 1) a n cap l st11 W11 (unhide hJ11).rr).mono ?_
  rintro e v11 hT
  obtain ⟨z, st12, u, rfl, hu, hf, hl, hJ⟩ := (unhide hJ11).num 11 d12 d13 (fun c z => { c with ed := z }) hT (by omega) (fun _ _ => rfl) (fun _ _ => rfl) f12_ed
  obtain ⟨W12, hN⟩ : ∃ W, W = v11.setCell ⟨cb, 11, none⟩ (.int .i64 z) := ⟨_, rfl⟩
  rw [← hN] at hJ
  have hJ' := hide hJ
  have HN := hide hN
  clear hT hJ hN
  go_upto_region 14 with fail
  rw [← unhide HN]
  clear hu hf hl HN
  obtain ⟨c12, da12, dc12, hJ12⟩ : ∃ (c : Ca) (da : Option Addr) (dc : Nat), Hid (Jg wz cb (w.heap.size + 1) a n cap l d13 W12 c da dc st12) := ⟨_, _, _, hJ'⟩
  clear hJ'
  have hJ := unhide hJ12
  have hz12 := (hJ.below.block _ (by rw [unhide HSZ]; exact Nat.lt_succ_self _)).trans (unhide HZZ)
  have hb12 := hide ((unhide HBZ).trans (hJ.below.mono (by rw [unhide HSZ]; exact Nat.le_succ _)))
  obtain ⟨i, bad, r1, r2, hi, hst⟩ := hJ.rr.ex
  have rlt := hJ.rr.lt
  have hzl : w.heap.size < W12.heap.size := (Array.getElem?_eq_some_iff.1 hz12).1
  cases st12 with
  | none =>
    simp only at hst
    subst hst
    have HQ : Hid (getP l = none) := hJ.eq
    have hst := hide (run_store_arr (P := Tryz.prog) (c' := zA) hz12 infoCall rfl (by simp [Value.oneCell']))
    have e9 : (W12.setRow w.heap.size zA).heap[w.heap.size]? = some (.cells zA 27 (0, 0)) := setRow_heap _ _ _ _ _ _ hz12
    have b9 := hide (below_setRow (B := w.heap.size) (unhide hb12) (Nat.le_refl _) zA)
    clear hJ r1 hi hz12 hb12 hJ12
    go_upto_region 15 with fail
    generalize W12.setRow w.heap.size zA = w9 at *
    have q := fun i => cell_of_row w9 w.heap.size i _ _ _ e9
    have q0 := q 0
    have q1 := q 1
    have q2 := q 2
    have q3 := q 3
    have q4 := q 4
    have q5 := q 5
    have q6 := q 6
    have q7 := q 7
    have q8 := q 8
    have q9 := q 9
    have q10 := q 10
    have q11 := q 11
    clear e9 q
    go_wp2_with (refine wpList_store_arr _ rfl _ _ 27 rfl _ rfl _ rfl _ (by exact unhide hst) ?_)
    refine bodyPost_ret (v := .tuple #[.agg (ca caz (.slice none 0 0)), .int .i64 0, .int .i64 5]) ?_ rfl ⟨unhide b9, ?_⟩
    · simp [results, Tryz.results18, go_sem, q0, q1, q2, q3, q4, q5, q6, q7, q8, q9, q10, q11]
      exact ⟨rfl, rfl, rfl, rfl, rfl, rfl, rfl, rfl, rfl, rfl, rfl⟩
    · rw [unhide HQ]
  | some r =>
    simp only at hst
    obtain ⟨rfl, hr⟩ := hst
    have HQ : Hid (getP l = some (c12, r)) := hJ.eq
    have HRL : Hid (((l.length : Int) - (r.length : Int)) = (i : Int)) := hide (by rw [hr, List.length_drop, unhide hlen]; omega)
    have HBY := hide hJ.by'
    have k := fun i v h => hJ.cs.cells i v h
    have k0 : W12.cell? ⟨cb, 0, none⟩ = some (.int .u8 (c12.kind.toNat : Int)) := k 0 _ rfl
    have k1 : W12.cell? ⟨cb, 1, none⟩ = some (.string c12.path) := k 1 _ rfl
    have k2 : W12.cell? ⟨cb, 2, none⟩ = some (.string c12.other) := k 2 _ rfl
    have k3 : W12.cell? ⟨cb, 3, none⟩ = some (.int .i64 c12.mode) := k 3 _ rfl
    have k4 : W12.cell? ⟨cb, 4, none⟩ = some (.int .i64 c12.user) := k 4 _ rfl
    have k5 : W12.cell? ⟨cb, 5, none⟩ = some (.int .i64 c12.group) := k 5 _ rfl
    have k6 : W12.cell? ⟨cb, 6, none⟩ = some (.int .i64 c12.time) := k 6 _ rfl
    have k7 : W12.cell? ⟨cb, 7, none⟩ = some (.slice da12 c12.data.length dc12) := k 7 _ rfl
    have k8 : W12.cell? ⟨cb, 8, none⟩ = some (.int .i64 c12.eu) := k 8 _ rfl
    have k9 : W12.cell? ⟨cb, 9, none⟩ = some (.int .i64 c12.eg) := k 9 _ rfl
    have k10 : W12.cell? ⟨cb, 10, none⟩ = some (.int .i64 c12.em) := k 10 _ rfl
    have k11 : W12.cell? ⟨cb, 11, none⟩ = some (.int .i64 c12.ed) := k 11 _ rfl
    have q := fun i => cell_of_row W12 w.heap.size i _ _ _ hz12
    have q0 := q 0
    have q1 := q 1
    have q2 := q 2
    have q3 := q 3
    have q4 := q 4
    have q5 := q 5
    have q6 := q 6
    have q7 := q 7
    have q8 := q 8
    have q9 := q 9
    have q10 := q 10
    have q11 := q 11
    have F9 := setC_fr W12 w.heap.size c12 (.slice da12 c12.data.length dc12)
    have C9 := setC_cells W12 w.heap.size c12 (.slice da12 c12.data.length dc12) (fun i hi => ⟨zA[i]'hi, (q i).trans (Array.getElem?_eq_getElem hi)⟩)
    have hS12 : ∀ p ∈ S12 w.heap.size, p.block = w.heap.size := fun p hp => by
      simp only [S12, List.mem_cons, List.not_mem_nil, or_false] at hp
      rcases hp with rfl | rfl | rfl | rfl | rfl | rfl | rfl | rfl | rfl | rfl | rfl | rfl <;> rfl
    have hcs := hJ.cs
    have hzc : cb ≠ w.heap.size := by have := hJ.ne; have := unhide HSZ; omega
    have b9 : Below w.heap.size w (setC W12 w.heap.size c12 (.slice da12 c12.data.length dc12)).drew := below_drew9 ((unhide hb12).trans (F9.below (Nat.le_of_lt hzl) (fun p hp => Nat.le_of_eq (hS12 p hp).symm)))
    have hBz : By W12 da12 c12.data.length dc12 c12.data := hJ.by'
    have HFZ : Hid (0 < c12.data.length → ∀ ad, da12 = some ad → ad.block ≠ w.heap.size) := fun h0 ad e q => by have := (hJ.far ad e).2.2; rw [unhide HSZ] at this; omega
    have hY9 : By (setC W12 w.heap.size c12 (.slice da12 c12.data.length dc12)).drew da12 c12.data.length dc12 c12.data := by_fr hBz (F9.drew 1) (fun h0 ad e p hp => by rw [hS12 p hp]; exact Ne.symm (unhide HFZ h0 ad e))
    have hT9 : ∀ ad, da12 = some ad → ∃ cur f, (setC W12 w.heap.size c12 (.slice da12 c12.data.length dc12)).drew.heap[ad.block]? = some (.cells cur 5 f) := fun ad e => by
      obtain ⟨cur, f, hc⟩ := hJ.ty ad e
      have hx := (hJ.far ad e).2.2
      rw [unhide HSZ] at hx
      exact ⟨cur, f, ((F9.drew 1).block _ (Array.getElem?_eq_some_iff.1 hc).1 (fun p hp => by rw [hS12 p hp]; omega)).trans hc⟩
    have HT9 := hide hT9
    have HC9 := hide C9
    have HB9 := hide b9
    have HY9 := hide hY9
    have fz : ∀ i, W12.frozen? ⟨w.heap.size, i, none⟩ = false := fun i => frz9 hz12 i
    have f0 := fz 0
    have f1 := fz 1
    have f2 := fz 2
    have f3 := fz 3
    have f4 := fz 4
    have f5 := fz 5
    have f6 := fz 6
    have f7 := fz 7
    have f8 := fz 8
    have f9 := fz 9
    have f10 := fz 10
    have f11 := fz 11
    have hcl := hJ.cs.lt
    clear hJ hi hz12 hb12 hJ12 F9 C9 b9 hY9 hT9 hBz HFZ fz q k hcs hr
    go_wp2_with fail
    go_region
    change Exit.then _ _ Exit.normal _ (World.drew (setC W12 w.heap.size c12 (.slice da12 c12.data.length dc12)))
    generalize setC W12 w.heap.size c12 (.slice da12 c12.data.length dc12) = w9 at *
    have p0 := unhide HC9 0 _ rfl
    have p1 := unhide HC9 1 _ rfl
    have p2 := unhide HC9 2 _ rfl
    have p3 := unhide HC9 3 _ rfl
    have p4 := unhide HC9 4 _ rfl
    have p5 := unhide HC9 5 _ rfl
    have p6 := unhide HC9 6 _ rfl
    have p7 := unhide HC9 7 _ rfl
    have p8 := unhide HC9 8 _ rfl
    have p9 := unhide HC9 9 _ rfl
    have p10 := unhide HC9 10 _ rfl
    have p11 := unhide HC9 11 _ rfl
    clear HC9 q0 q1 q2 q3 q4 q5 q6 q7 q8 q9 q10 q11 f0 f1 f2 f3 f4 f5 f6 f7 f8 f9 f10 f11 k0 k1 k2 k3 k4 k5 k6 k7 k8 k9 k10 k11
    go_wp2_with fail
    refine bodyPost_ret (v := .tuple #[.agg (ca c12 (.slice da12 c12.data.length dc12)), .int .i64 (i : Int), .int .i64 0]) ?_ rfl ⟨unhide HB9, ?_⟩
    · simp [results, Tryz.results18, go_sem, p0, p1, p2, p3, p4, p5, p6, p7, p8, p9, p10, p11]
    · rw [unhide HQ]
      exact ⟨da12, dc12, by rw [unhide HRL], unhide HY9, unhide HT9⟩
end Go.Proofs.YtbofidpoajdcmaaGreatDoor.Cd
