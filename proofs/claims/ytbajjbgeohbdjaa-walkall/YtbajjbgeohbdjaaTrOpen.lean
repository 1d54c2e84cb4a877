/- A tree that came in, opened. -/
import Derived.Test.YtbajjbgeohbdjaaTrGreat
import Derived.ProofKit
import Derived.OpenShut
import Derived.SizedLaws
import Derived.Deep.Slices
import Derived.Deep.SlicePairs
import Derived.Lib.SmallJoins
namespace Go.Proofs.Ytbajjbgeohbdjaa.Tr
open Go.ChangeShapes Go.WideShapes Go.ChangeAt Go.RowKit Go.Deep Go.Proofs.Ytbajjbgeohbdjaa.Cu

theorem cellsN : Try.prog.cellsOf 42 = 10 := by kernel_rfl
theorem cellsE : Try.prog.cellsOf 71 = 2 := by kernel_rfl
theorem cellsB : Try.prog.cellsOf 5 = 1 := by kernel_rfl
theorem cellsI : Try.prog.cellsOf 3 = 1 := by kernel_rfl
theorem cellsS : Try.prog.cellsOf 9 = 1 := by kernel_rfl
theorem cellsK : Try.prog.cellsOf 38 = 1 := by kernel_rfl
theorem cellsDB : Try.prog.cellsOf 39 = 1 := by kernel_rfl
theorem cellsLE : Try.prog.cellsOf 40 = 1 := by kernel_rfl
theorem bytesN : Try.prog.bytesOf 42 = 120 := by kernel_rfl
theorem bytesE : Try.prog.bytesOf 71 = 24 := by kernel_rfl
theorem bytesB : Try.prog.bytesOf 5 = 1 := by kernel_rfl
theorem u8_back (n : Int) (h : (Lit.int .u8 n).wf = true) : ∃ c : UInt8, n = (c.toNat : Int) := by
  have h2 : 0 ≤ n ∧ n < 256 := by
    simp [Lit.wf] at h
    have h1 : IntKind.u8.min = 0 := by decide
    have h2 : IntKind.u8.max = 255 := by decide
    rw [h1, h2] at h
    omega
  refine ⟨UInt8.ofNat n.toNat, ?_⟩
  simp
  omega
theorem open_bytes {H : Type} {enc : TypeId × Value → H} {W : World} {base fuel : Nat} {spare : Nat → Bool} {held : Bool} {cs : List Value} {x : DataW H × List MemPlace}
    (hf : DataW.trod enc Try.prog W base spare held fuel 39 cs = some x) (hz : ∀ n ∈ x.1.weights Try.prog 39, n ≤ reachBytes) :
    ∃ a len cap, cs = [.slice a len cap] ∧ ∃ l : Bs, By W a len cap l ∧ len ≤ reachBytes := by
  rcases open_slice Try.underlying39 hf with ⟨hcs, _⟩ | ⟨a', len, cap, m, n, D, Pl, hcs, _, hl, hm, hmm, hx, hc⟩
  · exact ⟨none, 0, 0, hcs, [], ⟨rfl, Nat.le_refl _, fun _ => ⟨rfl, rfl⟩, .inl rfl⟩, by simp [reachBytes]⟩
  · refine ⟨some a', len, cap, hcs, ?_⟩
    have hlm : len ≤ m := by rw [hmm]; split <;> omega
    have each : ∀ i, i < m → ∃ c : UInt8, W.cell? (a'.add i) = some (.int .u8 c.toNat) := by
      intro i hi
      obtain ⟨cs', h1, h2⟩ := hc i hi
      rw [cellsB] at h1
      obtain ⟨_, hlen, hcell⟩ := World.cells?_some h1
      match cs', hlen with
      | [u], _ =>
        obtain ⟨z, e0, _, w1⟩ := DataW.trod_int Try.underlying5 h2
        obtain ⟨c, rfl⟩ := u8_back z w1
        simp at e0
        subst e0
        refine ⟨c, ?_⟩
        have e := hcell 0 (by omega)
        rw [add_add] at e
        simpa using e
    haveI : Inhabited UInt8 := ⟨0⟩
    obtain ⟨q, hq⟩ := choose_lt each
    have hg : ∀ i, i < len → ((List.range len).map q).getD i 0 = q i := fun i hi => by simp [List.getD, hi]
    refine ⟨(List.range len).map q, ⟨by simp, hl, (by intro h; cases h), ?_⟩, ?_⟩
    · by_cases h0 : len = 0
      · exact .inl h0
      · right
        obtain ⟨b, off, spot⟩ := a'
        have hc0 := hq 0 (by omega)
        have hspot : spot = none := by simpa [Addr.add] using World.cell?_spot hc0
        subst hspot
        refine ⟨b, off, rfl, ?_, fun i hi => ?_⟩
        · simpa [Addr.add] using World.block_lt_of_cell? W _ hc0
        · have := hq i (by omega)
          rw [show (⟨b, off, none⟩ : Addr).add i = ⟨b, off + i, none⟩ by unfold Addr.add; split <;> simp_all] at this
          rw [hg i hi]; exact this
    · have hz' := hz
      rw [hx] at hz'
      have := hz' ((len + (m - len)) * Try.prog.bytesOf 5) (by simp [DataW.weights, Try.underlying39])
      rw [bytesB] at this
      omega
theorem weightsAll_mem {H : Type} {P : Program} {e : TypeId} {d : DataW H} {n : Nat} : ∀ {l : List (DataW H)}, d ∈ l → n ∈ d.weights P e → n ∈ DataW.weightsAll P e l
  | [], h, _ => by simp at h
  | x :: l, h, hn => by
    simp only [DataW.weightsAll, List.mem_append]
    rcases List.mem_cons.1 h with rfl | h
    · exact .inl hn
    · exact .inr (weightsAll_mem h hn)
theorem addN (b off j : Nat) : (⟨b, off, none⟩ : Addr).add j = ⟨b, off + j, none⟩ := by unfold Addr.add; split <;> simp_all
theorem open_entries {H : Type} {enc : TypeId × Value → H} {W : World} {base fuel : Nat} {spare : Nat → Bool} {held : Bool} {cs : List Value} {x : DataW H × List MemPlace}
    (hf : DataW.trod enc Try.prog W base spare held fuel 40 cs = some x) (hz : ∀ n ∈ x.1.weights Try.prog 40, n ≤ reachBytes) :
    ∃ a len cap, cs = [.slice a len cap] ∧ ∃ l : List En, Eg W a len cap l ∧ len ≤ reachBytes ∧ ∀ i, i < len → (en l i).name.size ≤ reachBytes := by
  rcases open_slice_pairs Try.underlying40 Try.underlying71 cellsE rfl rfl cellsS cellsI hf with ⟨hcs, _⟩ | ⟨a', len, cap, m, n, V0, V1, D0, D1, P0, P1, hcs, _, hl, hm, hmm, hx, hc⟩
  · exact ⟨none, 0, 0, hcs, [], ⟨rfl, Nat.le_refl _, fun _ => ⟨rfl, rfl⟩, .inl rfl⟩, by simp [reachBytes], fun i hi => by omega⟩
  · refine ⟨some a', len, cap, hcs, ?_⟩
    have hlm : len ≤ m := by rw [hmm]; split <;> omega
    have each : ∀ i, i < m → ∃ q : En, V0 i = .string q.name ∧ V1 i = .int .i64 q.node ∧ D0 i = .lit (.string q.name.data.toList) := by
      intro i hi
      obtain ⟨_, _, h0, h1⟩ := hc i hi
      obtain ⟨k, e0, _, _⟩ := DataW.trod_int Try.underlying3 h1
      obtain ⟨s, e1, e2, _⟩ := DataW.trod_string Try.underlying9 h0
      simp at e0 e1 e2
      exact ⟨⟨s, k⟩, e1, e0, e2.1⟩
    haveI : Inhabited En := ⟨ez⟩
    obtain ⟨q, hq⟩ := choose_lt each
    have hz' := hz
    rw [hx] at hz'
    have hg : ∀ i, i < len → en ((List.range len).map q) i = q i := fun i hi => by simp [en, List.getD, hi]
    refine ⟨(List.range len).map q, ⟨by simp, hl, (by intro h; cases h), ?_⟩, ?_, ?_⟩
    · by_cases h0 : len = 0
      · exact .inl h0
      · right
        obtain ⟨b, off, spot⟩ := a'
        have hc0 := (hc 0 (by omega)).1
        have hspot : spot = none := by simpa [Addr.add] using World.cell?_spot hc0
        subst hspot
        refine ⟨b, off, rfl, ?_, fun i hi => ?_⟩
        · simpa [Addr.add] using World.block_lt_of_cell? W _ hc0
        · obtain ⟨g0, g1, _, _⟩ := hc i (by omega)
          obtain ⟨e0, e1, _⟩ := hq i (by omega)
          rw [e0] at g0
          rw [e1] at g1
          rw [addN] at g0 g1
          rw [hg i hi]
          exact ⟨g0, g1⟩
    · have := hz' ((len + (m - len)) * Try.prog.bytesOf 71) (by simp [DataW.weights, Try.underlying40])
      rw [bytesE] at this
      omega
    · intro i hi
      obtain ⟨_, _, e2⟩ := hq i (by omega)
      rw [hg i hi]
      have := hz' (q i).name.data.toList.length (by
        simp only [DataW.weights, Try.underlying40]
        refine List.mem_cons_of_mem _ (List.mem_append_left _ (weightsAll_mem (d := .agg [D0 i, D1 i]) (List.mem_map.2 ⟨i, List.mem_range.2 hi, rfl⟩) ?_))
        simp [DataW.weights, Try.underlying71, DataW.weightsEach, e2])
      simpa using this
theorem reach_le : reachBytes ≤ 281474976710656 := by decide
/-- ten cells that read as a node -/
theorem open_node {H : Type} {enc : TypeId × Value → H} {W : World} {base fuel : Nat} {spare : Nat → Bool} {held : Bool} {cs : List Value} {x : DataW H × List MemPlace} (hl : cs.length = 10)
    (hf : DataW.trod enc Try.prog W base spare held fuel 42 cs = some x) (hz : ∀ n ∈ x.1.weights Try.prog 42, n ≤ reachBytes) :
    ∃ (n : Nd) (da : Option Addr) (dc : Nat) (la : Option Addr) (lc : Nat), cs = nc n (.slice da n.data.length dc) (.slice la n.list.length lc) ∧ By W da n.data.length dc n.data ∧ Eg W la n.list.length lc n.list ∧ Rb n := by
  match cs, hl with
  | [c0, c1, c2, c3, c4, c5, c6, c7, c8, c9], _ =>
    obtain ⟨xs, n, _, hx, hl, hlen, hfl⟩ := DataW.trod_struct Try.underlying42 hf
    match xs, hlen with
    | [y0, y1, y2, y3, y4, y5, y6, y7, y8, y9], _ =>
      have h0 := hfl 0 _ rfl
      have h1 := hfl 1 _ rfl
      have h2 := hfl 2 _ rfl
      have h3 := hfl 3 _ rfl
      have h4 := hfl 4 _ rfl
      have h5 := hfl 5 _ rfl
      have h6 := hfl 6 _ rfl
      have h7 := hfl 7 _ rfl
      have h8 := hfl 8 _ rfl
      have h9 := hfl 9 _ rfl
      have hz6 : ∀ n ∈ y6.1.weights Try.prog 39, n ≤ reachBytes := fun k hk => hz k (by
        rw [hx]; simp only [DataW.weights, Try.underlying42, DataW.weightsEach, List.map_cons, List.mem_append]; simp [hk])
      have hz7 : ∀ n ∈ y7.1.weights Try.prog 9, n ≤ reachBytes := fun k hk => hz k (by
        rw [hx]; simp only [DataW.weights, Try.underlying42, DataW.weightsEach, List.map_cons, List.mem_append]; simp [hk])
      have hz8 : ∀ n ∈ y8.1.weights Try.prog 40, n ≤ reachBytes := fun k hk => hz k (by
        rw [hx]; simp only [DataW.weights, Try.underlying42, DataW.weightsEach, List.map_cons, List.mem_append]; simp [hk])
      obtain ⟨a0, e0, _, w0⟩ := DataW.trod_int Try.underlying38 h0
      obtain ⟨a1, e1, _, _⟩ := DataW.trod_int Try.underlying3 h1
      obtain ⟨a2, e2, _, _⟩ := DataW.trod_int Try.underlying3 h2
      obtain ⟨a3, e3, _, _⟩ := DataW.trod_int Try.underlying3 h3
      obtain ⟨a4, e4, _, _⟩ := DataW.trod_int Try.underlying3 h4
      obtain ⟨a5, e5, _, _⟩ := DataW.trod_int Try.underlying3 h5
      obtain ⟨da, dl, dc, e6, db, hby, hdl⟩ := open_bytes (x := y6) h6 hz6
      obtain ⟨tg, e7, t7, _⟩ := DataW.trod_string Try.underlying9 h7
      obtain ⟨la, ll, lc, e8, es, heg, hll, hnm⟩ := open_entries (x := y8) h8 hz8
      obtain ⟨a9, e9, _, _⟩ := DataW.trod_int Try.underlying3 h9
      obtain ⟨kd, rfl⟩ := u8_back a0 w0
      simp [cellsI, cellsK, cellsS, cellsDB, cellsLE] at e0 e1 e2 e3 e4 e5 e6 e7 e8 e9
      subst e0 e1 e2 e3 e4 e5 e6 e7 e8 e9
      obtain rfl := hby.len
      obtain rfl := heg.len
      refine ⟨⟨kd, a1, a2, a3, a4, a5, db, tg, es, a9⟩, da, dc, la, lc, rfl, hby, heg, ⟨?_, Nat.le_trans hdl reach_le, Nat.le_trans hll reach_le, fun i hi => Nat.le_trans (hnm i hi) reach_le⟩⟩
      have := hz7 tg.data.toList.length (by rw [t7]; simp [DataW.weights])
      exact Nat.le_trans this reach_le
theorem open_nodes {H : Type} {enc : TypeId × Value → H} {W : World} {base fuel : Nat} {spare : Nat → Bool} {held : Bool} {cs : List Value} {x : DataW H × List MemPlace}
    (hf : DataW.trod enc Try.prog W base spare held fuel 22 cs = some x) (hz : ∀ n ∈ x.1.weights Try.prog 22, n ≤ reachBytes) :
    ∃ a len cap, cs = [.slice a len cap] ∧ ∃ ns : List Nd, Ng W a len cap ns ∧ len ≤ 281474976710656 ∧ ∀ i, i < len → Rb (nd ns i) := by
  rcases open_slice Try.underlying22 hf with ⟨hcs, _⟩ | ⟨a', len, cap, m, n, D, Pl, hcs, _, hl, hm, hmm, hx, hc⟩
  · exact ⟨none, 0, 0, hcs, [], ⟨rfl, Nat.le_refl _, fun _ => ⟨rfl, rfl⟩, .inl rfl⟩, by omega, fun i hi => by omega⟩
  · refine ⟨some a', len, cap, hcs, ?_⟩
    have hlm : len ≤ m := by rw [hmm]; split <;> omega
    have hz' := hz
    rw [hx] at hz'
    have each : ∀ i, i < len → ∃ q : Nd × Option Addr × Nat × Option Addr × Nat, (∀ j u, (nc q.1 (.slice q.2.1 q.1.data.length q.2.2.1) (.slice q.2.2.2.1 q.1.list.length q.2.2.2.2))[j]? = some u → W.cell? (a'.add (i * 10 + j)) = some u) ∧ By W q.2.1 q.1.data.length q.2.2.1 q.1.data ∧ Eg W q.2.2.2.1 q.1.list.length q.2.2.2.2 q.1.list ∧ Rb q.1 := by
      intro i hi
      obtain ⟨cs', h1, h2⟩ := hc i (by omega)
      rw [cellsN] at h1
      obtain ⟨_, hlen, hcell⟩ := World.cells?_some h1
      obtain ⟨q, da, dc, la, lc, rfl, hb, he, hr⟩ := open_node hlen h2 (fun k hk => hz' k (by
        simp only [DataW.weights, Try.underlying22]
        exact List.mem_cons_of_mem _ (List.mem_append_left _ (weightsAll_mem (d := D i) (List.mem_map.2 ⟨i, List.mem_range.2 hi, rfl⟩) hk))))
      refine ⟨(q, da, dc, la, lc), fun j u hj => ?_, hb, he, hr⟩
      have hj10 : j < 10 := (List.getElem?_eq_some_iff.1 hj).1
      have e := hcell j (by omega)
      rw [add_add] at e
      rw [e]; exact hj
    haveI : Inhabited (Nd × Option Addr × Nat × Option Addr × Nat) := ⟨(nz, none, 0, none, 0)⟩
    obtain ⟨q, hq⟩ := choose_lt each
    have hg : ∀ i, i < len → nd ((List.range len).map fun i => (q i).1) i = (q i).1 := fun i hi => by simp [nd, List.getD, hi]
    refine ⟨(List.range len).map fun i => (q i).1, ⟨by simp, hl, (by intro h; cases h), ?_⟩, ?_, fun i hi => by rw [hg i hi]; exact (hq i hi).2.2.2⟩
    · by_cases h0 : len = 0
      · exact .inl h0
      · right
        obtain ⟨b, off, spot⟩ := a'
        have hc0 := (hq 0 (by omega)).1 0 _ rfl
        have hspot : spot = none := by simpa [Addr.add] using World.cell?_spot hc0
        subst hspot
        refine ⟨b, off, rfl, ?_, fun i hi => ?_⟩
        · simpa [Addr.add] using World.block_lt_of_cell? W _ hc0
        · obtain ⟨g1, g2, g3, _⟩ := hq i hi
          rw [hg i hi]
          refine ⟨(q i).2.1, (q i).2.2.1, (q i).2.2.2.1, (q i).2.2.2.2, .at fun j u hj => ?_, g2, g3⟩
          have := g1 j u hj
          rw [addN] at this
          rw [Nat.add_assoc]; exact this
    · have := hz' ((len + (m - len)) * Try.prog.bytesOf 42) (by simp [DataW.weights, Try.underlying22])
      rw [bytesN] at this
      have := reach_le
      omega
set_option maxRecDepth 100000 in
theorem open_tree {H : Type} {enc : TypeId × Value → H} {W : World} {base : Nat} {spare : Nat → Bool} {held : Bool} {r : Reach} {b0 : Nat} {v : Value} {d : DataW H} {p : List MemPlace}
    (hval : Value.okWide Try.prog W r b0 24 v) (h : DataW.Trod enc Try.prog W base spare held 24 v d p) (hz : ∀ n ∈ d.weights Try.prog 24, n ≤ reachBytes) :
    ∃ (a : Option Addr) (n cap : Nat) (now : Int) (ns : List Nd), v = .agg #[.slice a n cap, .int .i64 now] ∧ Ng W a n cap ns ∧ n ≤ 281474976710656 ∧ (∀ i, i < n → Rb (nd ns i)) := by
  obtain ⟨cs, rfl, hsz⟩ := okWide_struct Try.underlying24 hval
  obtain ⟨fuel, hf⟩ := h
  simp only [Value.cells] at hf
  obtain ⟨xs, n, _, hx, hl, hlen, hfl⟩ := DataW.trod_struct Try.underlying24 hf
  have hs2 : cs.toList.length = 2 := by rw [hl]; kernel_rfl
  obtain ⟨c0, c1, hcs⟩ : ∃ c0 c1, cs.toList = [c0, c1] := by
    match e : cs.toList, hs2 with
    | [c0, c1], _ => exact ⟨c0, c1, rfl⟩
  rw [hcs] at hfl
  match xs, hlen with
  | [y0, y1], _ =>
    have h0 := hfl 0 _ rfl
    have h1 := hfl 1 _ rfl
    obtain ⟨a, len, cap, e0, ns, hng, hn, hrb⟩ := open_nodes (x := y0) h0 (fun k hk => hz k (by
      injection hx with hx1 hx2
      rw [hx1]; simp only [DataW.weights, Try.underlying24, DataW.weightsEach, List.map_cons, List.mem_append]; simp [hk]))
    obtain ⟨a1, e1, _, _⟩ := DataW.trod_int Try.underlying3 h1
    have cN : Try.prog.cellsOf 22 = 1 := by kernel_rfl
    simp [cellsI, cN] at e0 e1
    subst e0 e1
    refine ⟨a, len, cap, a1, ns, ?_, hng, hn, hrb⟩
    congr 1
    apply Array.toList_inj.1
    exact hcs
end Go.Proofs.Ytbajjbgeohbdjaa.Tr
