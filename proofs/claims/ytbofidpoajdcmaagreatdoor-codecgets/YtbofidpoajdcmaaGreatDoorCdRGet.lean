/- The document's Get. -/
import Derived.Test.YtbofidpoajdcmaaGreatDoorCdRd2
import Derived.Test.YtbofidpoajdcmaaGreatDoorCdTell3
namespace Go.Proofs.YtbofidpoajdcmaaGreatDoor.Cd
open Go.RowKit Cu Tr

def d13 : Rest := fun c r => some (c, r)
def d12 : Rest := fun c r => (intP r).bind fun p => d13 { c with ed := p.1 } p.2
def d11 : Rest := fun c r => (intP r).bind fun p => d12 { c with em := p.1 } p.2
def d10 : Rest := fun c r => (intP r).bind fun p => d11 { c with eg := p.1 } p.2
def d9 : Rest := fun c r => (intP r).bind fun p => d10 { c with eu := p.1 } p.2
def d8 : Rest := fun c r => (txtP r).bind fun p => d9 { c with data := bs (ba p.1) } p.2
def d7 : Rest := fun c r => (intP r).bind fun p => d8 { c with time := p.1 } p.2
def d6 : Rest := fun c r => (intP r).bind fun p => d7 { c with group := p.1 } p.2
def d5 : Rest := fun c r => (intP r).bind fun p => d6 { c with user := p.1 } p.2
def d4 : Rest := fun c r => (intP r).bind fun p => d5 { c with mode := p.1 } p.2
def d3 : Rest := fun c r => (txtP r).bind fun p => d4 { c with other := ba p.1 } p.2
def d2 : Rest := fun c r => (txtP r).bind fun p => d3 { c with path := ba p.1 } p.2
def d1 : Rest := fun c r => (numN 1 r).bind fun p => d2 { c with kind := UInt8.ofNat p.1 } p.2
theorem ints4 {α : Type} (r : Bs) (G : List Int × Bs → Option α) : (intsP 4 r).bind G = (intP r).bind fun p => (intP p.2).bind fun q => (intP q.2).bind fun s => (intP s.2).bind fun t => G ([p.1, q.1, s.1, t.1], t.2) := by
  simp only [intsP]
  cases intP r with
  | none => rfl
  | some p =>
    simp only [Option.bind_some]
    cases intP p.2 with
    | none => rfl
    | some q =>
      simp only [Option.bind_some]
      cases intP q.2 with
      | none => rfl
      | some s =>
        simp only [Option.bind_some]
        cases intP s.2 with
        | none => rfl
        | some t => rfl
theorem getP_d (l : Bs) : getP l = d1 caz l := by
  simp only [getP, g1, g2, g3, g4, g5, ints4, d1, d2, d3, d4, d5, d6, d7, d8, d9, d10, d11, d12]
  rfl
theorem nxt {α β : Type} {st : Option Bs} {f : Bs → Option (α × Bs)} {g g' : Rest} {c : Ca} {o : Option (Ca × Bs)} (up : Ca → β → Ca) (conv : α → β) (hg : ∀ r, g c r = (f r).bind fun p => g' (up c (conv p.1)) p.2) (h : o = st.bind (g c)) (z : β) (R : Option Bs → Prop)
    (hm0 : st.bind f = none → R none) (hm1 : ∀ y r, st.bind f = some (y, r) → z = conv y ∧ R (some r)) : ∃ st', R st' ∧ o = st'.bind (g' (up c z)) := by
  cases st with
  | none => exact ⟨none, hm0 rfl, h⟩
  | some l =>
    simp only [Option.bind_some] at h hm0 hm1
    rw [hg] at h
    cases hf : f l with
    | none => rw [hf] at h; exact ⟨none, hm0 hf, h⟩
    | some p =>
      rw [hf] at h
      obtain ⟨rfl, hR⟩ := hm1 p.1 p.2 hf
      exact ⟨some p.2, hR, h⟩
/-- the cells of a call in a box -/
structure C12 (w : World) (cb : Nat) (c : Ca) (d : Value) : Prop where
  cells : ∀ i v, (ca c d)[i]? = some v → w.cell? ⟨cb, i, none⟩ = some v
  fz : ∀ i, w.frozen? ⟨cb, i, none⟩ = false
  lt : cb < w.heap.size
/-- so far as the document reads a call -/
structure Jg (w0 : World) (cb rb : Nat) (a : Option Addr) (n cap : Nat) (l : Bs) (g : Rest) (w : World) (c : Ca) (da : Option Addr) (dc : Nat) (st : Option Bs) : Prop where
  below : Below w0.heap.size w0 w
  rr : Rr w rb a n cap l st
  cs : C12 w cb c (.slice da c.data.length dc)
  by' : By w da c.data.length dc c.data
  far : ∀ ad, da = some ad → ad.block ≠ rb ∧ ad.block ≠ cb ∧ w0.heap.size ≤ ad.block
  ty : ∀ ad, da = some ad → ∃ cur f, w.heap[ad.block]? = some (.cells cur 5 f)
  ne : rb < cb ∧ w0.heap.size ≤ cb ∧ w0.heap.size ≤ rb
  eq : getP l = st.bind (g c)
theorem by_fr {S : List Addr} {w w' : World} {a : Option Addr} {n cap : Nat} {l : Bs} (h : By w a n cap l) (hf : Fr S w w') (hs : 0 < n → ∀ ad, a = some ad → ∀ p ∈ S, p.block ≠ ad.block) : By w' a n cap l := by
  refine ⟨h.len, h.le, h.nil, ?_⟩
  rcases h.cells with h | ⟨b, off, e, hlt, hc⟩
  · exact .inl h
  · by_cases h0 : n = 0
    · exact .inl h0
    exact .inr ⟨b, off, e, Nat.lt_of_lt_of_le hlt hf.size, fun i hi => (World.cell?_of_block (hf.block b hlt (hs (by omega) _ e))).trans (hc i hi)⟩
/-- a field more -/
theorem Jg.put {w0 w w1 : World} {cb rb : Nat} {a : Option Addr} {n cap : Nat} {l : Bs} {g g' : Rest} {c c' : Ca} {da : Option Addr} {dc : Nat} {st st' : Option Bs} (h : Jg w0 cb rb a n cap l g w c da dc st) (hF : Fr (S9 rb) w w1) (hR : Rr w1 rb a n cap l st') (i : Nat) (v : Value) (hd : c'.data = c.data)
    (h12 : ∀ j u, (ca c' (.slice da c.data.length dc))[j]? = some u → (j = i ∧ u = v) ∨ (j ≠ i ∧ (ca c (.slice da c.data.length dc))[j]? = some u)) (hi : i < 12) (heq : getP l = st'.bind (g' c')) :
    (∃ u, w1.cell? ⟨cb, i, none⟩ = some u) ∧ w1.frozen? ⟨cb, i, none⟩ = false ∧ cb < w1.heap.size ∧ Jg w0 cb rb a n cap l g' (w1.setCell ⟨cb, i, none⟩ v) c' da dc st' := by
  obtain ⟨q1, q2, q3⟩ := h.ne
  have hcb : ∀ j, w1.cell? ⟨cb, j, none⟩ = w.cell? ⟨cb, j, none⟩ := fun j => hF.cell _ h.cs.lt (fun e => by simp only [List.mem_cons, List.not_mem_nil, or_false] at e; rcases e with e | e <;> (injection e with e _ _; omega))
  have hlt : cb < w1.heap.size := Nat.lt_of_lt_of_le h.cs.lt hF.size
  have hfz : ∀ j, w1.frozen? ⟨cb, j, none⟩ = false := fun j => (hF.frozen _ h.cs.lt).trans (h.cs.fz j)
  have F2 := Fr.set w1 ⟨cb, i, none⟩ v
  have hold : w1.cell? ⟨cb, i, none⟩ = some ((ca c (.slice da c.data.length dc))[i]'hi) := (hcb i).trans (h.cs.cells i _ (Array.getElem?_eq_getElem hi))
  have hb : Below w0.heap.size w w1 := hF.below (by have := h.rr.lt; omega) (fun p hp => by rw [S9_block p hp]; omega)
  refine ⟨⟨_, hold⟩, hfz i, hlt, (h.below.trans hb).setCell (p := ⟨cb, i, none⟩) q2 v, ?_, ⟨fun j u hj => ?_, fun j => (F2.frozen _ hlt).trans (hfz j), Nat.lt_of_lt_of_le hlt F2.size⟩, ?_, ?_, ?_, h.ne, heq⟩
  · obtain ⟨k, bad, c1, c2, hk, hb⟩ := hR.ex
    have hne : ∀ j, (⟨rb, j, none⟩ : Addr) ∉ [(⟨cb, i, none⟩ : Addr)] := fun j e => by injection (List.mem_singleton.1 e) with e _ _; omega
    exact ⟨(F2.cell _ hR.lt (hne 0)).trans hR.c0, by_fr hR.by' F2 (fun h0 ad e p hp => by rw [List.mem_singleton.1 hp]; have := hR.lo h0 ad e; show cb ≠ ad.block; omega), hR.lo, ⟨k, bad, (F2.cell _ hR.lt (hne 1)).trans c1, (F2.cell _ hR.lt (hne 2)).trans c2, hk, hb⟩, fun j => (F2.frozen _ hR.lt).trans (hR.fz j), Nat.lt_of_lt_of_le hR.lt F2.size, hR.len⟩
  · rw [hd] at hj
    rcases h12 j u hj with ⟨rfl, rfl⟩ | ⟨hji, hu⟩
    · exact World.cell?_setCell_same _ _ _ hold
    · exact (F2.cell _ hlt (by intro e; injection (List.mem_singleton.1 e) with _ e _; exact hji e)).trans ((hcb j).trans (h.cs.cells j u hu))
  · rw [hd]
    exact by_fr (by_fr h.by' hF (fun h0 ad e p hp => by rw [S9_block p hp]; exact Ne.symm (h.far ad e).1)) F2 (fun h0 ad e p hp => by rw [List.mem_singleton.1 hp]; exact Ne.symm (h.far ad e).2.1)
  · exact h.far
  · intro ad e
    obtain ⟨cur, f, hc⟩ := h.ty ad e
    obtain ⟨x1, x2, _⟩ := h.far ad e
    exact ⟨cur, f, (heap_setCell_other _ _ _ _ x2).trans ((hF.block _ (Array.getElem?_eq_some_iff.1 hc).1 (fun p hp => by rw [S9_block p hp]; exact Ne.symm x1)).trans hc)⟩
end Go.Proofs.YtbofidpoajdcmaaGreatDoor.Cd
