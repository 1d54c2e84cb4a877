/- A tree that came in, opened: its numbers are such as an int can be. -/
import Derived.Test.YtbofidpoajdcmabCdSize
import Derived.ProofKit
import Derived.OpenShut
import Derived.SizedLaws
import Derived.Deep.Slices
import Derived.Deep.SlicePairs
import Derived.Lib.SmallJoins
namespace Go.Proofs.Ytbofidpoajdcmab.Cd
open Go.ChangeShapes Go.WideShapes Go.ChangeAt Go.RowKit Go.Deep Go.Proofs.Ytbofidpoajdcmab.Cu Go.Proofs.Ytbofidpoajdcmab.Tr

theorem i64_in9 {n : Int} (h : (Lit.int .i64 n).wf = true) : inR n := by
  simp [Lit.wf] at h
  have h1 : IntKind.i64.min = -9223372036854775808 := by decide
  have h2 : IntKind.i64.max = 9223372036854775807 := by decide
  rw [h1] at h
  unfold inR
  omega
theorem cellsN9 : Try.prog.cellsOf 70 = 10 := by kernel_rfl
theorem cellsE9 : Try.prog.cellsOf 88 = 2 := by kernel_rfl
theorem cellsB9 : Try.prog.cellsOf 5 = 1 := by kernel_rfl
theorem cellsI9 : Try.prog.cellsOf 3 = 1 := by kernel_rfl
theorem cellsS9 : Try.prog.cellsOf 9 = 1 := by kernel_rfl
theorem cellsK9 : Try.prog.cellsOf 67 = 1 := by kernel_rfl
theorem cellsDB9 : Try.prog.cellsOf 25 = 1 := by kernel_rfl
theorem cellsLE9 : Try.prog.cellsOf 68 = 1 := by kernel_rfl
theorem bytesN9 : Try.prog.bytesOf 70 = 120 := by kernel_rfl
theorem bytesE9 : Try.prog.bytesOf 88 = 24 := by kernel_rfl
theorem bytesB9 : Try.prog.bytesOf 5 = 1 := by kernel_rfl
theorem u8_back9 (n : Int) (h : (Lit.int .u8 n).wf = true) : ∃ c : UInt8, n = (c.toNat : Int) := by
  have h2 : 0 ≤ n ∧ n < 256 := by
    simp [Lit.wf] at h
    have h1 : IntKind.u8.min = 0 := by decide
    have h2 : IntKind.u8.max = 255 := by decide
    rw [h1, h2] at h
    omega
  refine ⟨UInt8.ofNat n.toNat, ?_⟩
  simp
  omega
theorem open_bytes9 {H : Type} {enc : TypeId × Value → H} {W : World} {base fuel : Nat} {spare : Nat → Bool} {held : Bool} {cs : List Value} {x : DataW H × List MemPlace}
    (hf : DataW.trod enc Try.prog W base spare held fuel 25 cs = some x) (hz : ∀ n ∈ x.1.weights Try.prog 25, n ≤ reachBytes) :
    ∃ a len cap, cs = [.slice a len cap] ∧ ∃ l : Bs, By W a len cap l ∧ len ≤ reachBytes := by
  rcases open_slice Try.underlying25 hf with ⟨hcs, _⟩ | ⟨a', len, cap, m, n, D, Pl, hcs, _, hl, hm, hmm, hx, hc⟩
  · exact ⟨none, 0, 0, hcs, [], ⟨rfl, Nat.le_refl _, fun _ => ⟨rfl, rfl⟩, .inl rfl⟩, by simp [reachBytes]⟩
  · refine ⟨some a', len, cap, hcs, ?_⟩
    have hlm : len ≤ m := by rw [hmm]; split <;> omega
    have each : ∀ i, i < m → ∃ c : UInt8, W.cell? (a'.add i) = some (.int .u8 c.toNat) := by
      intro i hi
      obtain ⟨cs', h1, h2⟩ := hc i hi
      rw [cellsB9] at h1
      obtain ⟨_, hlen, hcell⟩ := World.cells?_some h1
      match cs', hlen with
      | [u], _ =>
        obtain ⟨z, e0, _, w1⟩ := DataW.trod_int Try.underlying5 h2
        obtain ⟨c, rfl⟩ := u8_back9 z w1
        simp at e0
        subst e0
        refine ⟨c, ?_⟩
        have e := hcell 0 (by omega)
        rw [add_add] at e
        simpa using e
    haveI : Inhabited UInt8 := ⟨0⟩
    obtain ⟨q, hq⟩ := choose_lt each
    have hg : ∀ i, i < len → ((List.range len).map q).getD i 0 = q i := fun i hi => by simp [List.getD, hi]
    refine ⟨(List.range len).map q, ⟨by simp, hl, (by intro h; cases h), ?_⟩, ?_⟩
    · by_cases h0 : len = 0
      · exact .inl h0
      · right
        obtain ⟨b, off, spot⟩ := a'
        have hc0 := hq 0 (by omega)
        have hspot : spot = none := by simpa [Addr.add] using World.cell?_spot hc0
        subst hspot
        refine ⟨b, off, rfl, ?_, fun i hi => ?_⟩
        · simpa [Addr.add] using World.block_lt_of_cell? W _ hc0
        · have := hq i (by omega)
          rw [show (⟨b, off, none⟩ : Addr).add i = ⟨b, off + i, none⟩ by unfold Addr.add; split <;> simp_all] at this
          rw [hg i hi]; exact this
    · have hz' := hz
      rw [hx] at hz'
      have := hz' ((len + (m - len)) * Try.prog.bytesOf 5) (by simp [DataW.weights, Try.underlying25])
      rw [bytesB9] at this
      omega
theorem weightsAll_mem9 {H : Type} {P : Program} {e : TypeId} {d : DataW H} {n : Nat} : ∀ {l : List (DataW H)}, d ∈ l → n ∈ d.weights P e → n ∈ DataW.weightsAll P e l
  | [], h, _ => by simp at h
  | x :: l, h, hn => by
    simp only [DataW.weightsAll, List.mem_append]
    rcases List.mem_cons.1 h with rfl | h
    · exact .inl hn
    · exact .inr (weightsAll_mem9 h hn)
theorem addN9 (b off j : Nat) : (⟨b, off, none⟩ : Addr).add j = ⟨b, off + j, none⟩ := by unfold Addr.add; split <;> simp_all
theorem open_entries9 {H : Type} {enc : TypeId × Value → H} {W : World} {base fuel : Nat} {spare : Nat → Bool} {held : Bool} {cs : List Value} {x : DataW H × List MemPlace}
    (hf : DataW.trod enc Try.prog W base spare held fuel 68 cs = some x) (hz : ∀ n ∈ x.1.weights Try.prog 68, n ≤ reachBytes) :
    ∃ a len cap, cs = [.slice a len cap] ∧ ∃ l : List En, Eg W a len cap l ∧ len ≤ reachBytes ∧ (∀ i, i < len → (en l i).name.size ≤ reachBytes) ∧ ∀ e ∈ l, WfE e := by
  rcases open_slice_pairs Try.underlying68 Try.underlying88 cellsE9 rfl rfl cellsS9 cellsI9 hf with ⟨hcs, _⟩ | ⟨a', len, cap, m, n, V0, V1, D0, D1, P0, P1, hcs, _, hl, hm, hmm, hx, hc⟩
  · exact ⟨none, 0, 0, hcs, [], ⟨rfl, Nat.le_refl _, fun _ => ⟨rfl, rfl⟩, .inl rfl⟩, by simp [reachBytes], fun i hi => by omega, fun e he => by simp at he⟩
  · refine ⟨some a', len, cap, hcs, ?_⟩
    have hlm : len ≤ m := by rw [hmm]; split <;> omega
    have each : ∀ i, i < m → ∃ q : En, V0 i = .string q.name ∧ V1 i = .int .i64 q.node ∧ D0 i = .lit (.string q.name.data.toList) ∧ WfE q := by
      intro i hi
      obtain ⟨_, _, h0, h1⟩ := hc i hi
      obtain ⟨k, e0, _, wk⟩ := DataW.trod_int Try.underlying3 h1
      obtain ⟨s, e1, e2, _⟩ := DataW.trod_string Try.underlying9 h0
      simp at e0 e1 e2
      exact ⟨⟨s, k⟩, e1, e0, e2.1, i64_in9 wk⟩
    haveI : Inhabited En := ⟨ez⟩
    obtain ⟨q, hq⟩ := choose_lt each
    have hz' := hz
    rw [hx] at hz'
    have hg : ∀ i, i < len → en ((List.range len).map q) i = q i := fun i hi => by simp [en, List.getD, hi]
    refine ⟨(List.range len).map q, ⟨by simp, hl, (by intro h; cases h), ?_⟩, ?_, ?_, fun e he => ?_⟩
    · by_cases h0 : len = 0
      · exact .inl h0
      · right
        obtain ⟨b, off, spot⟩ := a'
        have hc0 := (hc 0 (by omega)).1
        have hspot : spot = none := by simpa [Addr.add] using World.cell?_spot hc0
        subst hspot
        refine ⟨b, off, rfl, ?_, fun i hi => ?_⟩
        · simpa [Addr.add] using World.block_lt_of_cell? W _ hc0
        · obtain ⟨g0, g1, _, _⟩ := hc i (by omega)
          obtain ⟨e0, e1, _, _⟩ := hq i (by omega)
          rw [e0] at g0
          rw [e1] at g1
          rw [addN9] at g0 g1
          rw [hg i hi]
          exact ⟨g0, g1⟩
    · have := hz' ((len + (m - len)) * Try.prog.bytesOf 88) (by simp [DataW.weights, Try.underlying68])
      rw [bytesE9] at this
      omega
    · intro i hi
      obtain ⟨_, _, e2, _⟩ := hq i (by omega)
      rw [hg i hi]
      have := hz' (q i).name.data.toList.length (by
        simp only [DataW.weights, Try.underlying68]
        refine List.mem_cons_of_mem _ (List.mem_append_left _ (weightsAll_mem9 (d := .agg [D0 i, D1 i]) (List.mem_map.2 ⟨i, List.mem_range.2 hi, rfl⟩) ?_))
        simp [DataW.weights, Try.underlying88, DataW.weightsEach, e2])
      simpa using this
    · obtain ⟨i, hi, rfl⟩ := List.mem_map.1 he
      exact (hq i (by have := List.mem_range.1 hi; omega)).2.2.2
theorem reach_le9 : reachBytes ≤ 281474976710656 := by decide
/-- ten cells that read as a node -/
theorem open_node9 {H : Type} {enc : TypeId × Value → H} {W : World} {base fuel : Nat} {spare : Nat → Bool} {held : Bool} {cs : List Value} {x : DataW H × List MemPlace} (hl : cs.length = 10)
    (hf : DataW.trod enc Try.prog W base spare held fuel 70 cs = some x) (hz : ∀ n ∈ x.1.weights Try.prog 70, n ≤ reachBytes) :
    ∃ (n : Nd) (da : Option Addr) (dc : Nat) (la : Option Addr) (lc : Nat), cs = nc n (.slice da n.data.length dc) (.slice la n.list.length lc) ∧ By W da n.data.length dc n.data ∧ Eg W la n.list.length lc n.list ∧ Rb9 n ∧ WfN n := by
  match cs, hl with
  | [c0, c1, c2, c3, c4, c5, c6, c7, c8, c9], _ =>
    obtain ⟨xs, n, _, hx, hl, hlen, hfl⟩ := DataW.trod_struct Try.underlying70 hf
    match xs, hlen with
    | [y0, y1, y2, y3, y4, y5, y6, y7, y8, y9], _ =>
      have h0 := hfl 0 _ rfl
      have h1 := hfl 1 _ rfl
      have h2 := hfl 2 _ rfl
      have h3 := hfl 3 _ rfl
      have h4 := hfl 4 _ rfl
      have h5 := hfl 5 _ rfl
      have h6 := hfl 6 _ rfl
      have h7 := hfl 7 _ rfl
      have h8 := hfl 8 _ rfl
      have h9 := hfl 9 _ rfl
      have hz6 : ∀ n ∈ y6.1.weights Try.prog 25, n ≤ reachBytes := fun k hk => hz k (by
        rw [hx]; simp only [DataW.weights, Try.underlying70, DataW.weightsEach, List.map_cons, List.mem_append]; simp [hk])
      have hz7 : ∀ n ∈ y7.1.weights Try.prog 9, n ≤ reachBytes := fun k hk => hz k (by
        rw [hx]; simp only [DataW.weights, Try.underlying70, DataW.weightsEach, List.map_cons, List.mem_append]; simp [hk])
      have hz8 : ∀ n ∈ y8.1.weights Try.prog 68, n ≤ reachBytes := fun k hk => hz k (by
        rw [hx]; simp only [DataW.weights, Try.underlying70, DataW.weightsEach, List.map_cons, List.mem_append]; simp [hk])
      obtain ⟨a0, e0, _, w0⟩ := DataW.trod_int Try.underlying67 h0
      obtain ⟨a1, e1, _, w1⟩ := DataW.trod_int Try.underlying3 h1
      obtain ⟨a2, e2, _, w2⟩ := DataW.trod_int Try.underlying3 h2
      obtain ⟨a3, e3, _, w3⟩ := DataW.trod_int Try.underlying3 h3
      obtain ⟨a4, e4, _, w4⟩ := DataW.trod_int Try.underlying3 h4
      obtain ⟨a5, e5, _, w5⟩ := DataW.trod_int Try.underlying3 h5
      obtain ⟨da, dl, dc, e6, db, hby, hdl⟩ := open_bytes9 (x := y6) h6 hz6
      obtain ⟨tg, e7, t7, _⟩ := DataW.trod_string Try.underlying9 h7
      obtain ⟨la, ll, lc, e8, es, heg, hll, hnm, hwe⟩ := open_entries9 (x := y8) h8 hz8
      obtain ⟨a9, e9, _, w9⟩ := DataW.trod_int Try.underlying3 h9
      obtain ⟨kd, rfl⟩ := u8_back9 a0 w0
      simp [cellsI9, cellsK9, cellsS9, cellsDB9, cellsLE9] at e0 e1 e2 e3 e4 e5 e6 e7 e8 e9
      subst e0 e1 e2 e3 e4 e5 e6 e7 e8 e9
      obtain rfl := hby.len
      obtain rfl := heg.len
      refine ⟨⟨kd, a1, a2, a3, a4, a5, db, tg, es, a9⟩, da, dc, la, lc, rfl, hby, heg, ⟨?_, Nat.le_trans hdl reach_le9, Nat.le_trans hll reach_le9, fun i hi => Nat.le_trans (hnm i hi) reach_le9⟩, ⟨fun z hz => ?_, hwe⟩⟩
      rotate_left
      · simp only [List.mem_cons, List.not_mem_nil, or_false] at hz
        rcases hz with rfl | rfl | rfl | rfl | rfl | rfl
        · exact i64_in9 w1
        · exact i64_in9 w2
        · exact i64_in9 w3
        · exact i64_in9 w4
        · exact i64_in9 w5
        · exact i64_in9 w9
      have := hz7 tg.data.toList.length (by rw [t7]; simp [DataW.weights])
      exact Nat.le_trans this reach_le9
theorem open_nodes9 {H : Type} {enc : TypeId × Value → H} {W : World} {base fuel : Nat} {spare : Nat → Bool} {held : Bool} {cs : List Value} {x : DataW H × List MemPlace}
    (hf : DataW.trod enc Try.prog W base spare held fuel 22 cs = some x) (hz : ∀ n ∈ x.1.weights Try.prog 22, n ≤ reachBytes) :
    ∃ a len cap, cs = [.slice a len cap] ∧ ∃ ns : List Nd, Ng W a len cap ns ∧ len ≤ 281474976710656 ∧ ∀ i, i < len → Rb9 (nd ns i) ∧ WfN (nd ns i) := by
  rcases open_slice Try.underlying22 hf with ⟨hcs, _⟩ | ⟨a', len, cap, m, n, D, Pl, hcs, _, hl, hm, hmm, hx, hc⟩
  · exact ⟨none, 0, 0, hcs, [], ⟨rfl, Nat.le_refl _, fun _ => ⟨rfl, rfl⟩, .inl rfl⟩, by omega, fun i hi => by omega⟩
  · refine ⟨some a', len, cap, hcs, ?_⟩
    have hlm : len ≤ m := by rw [hmm]; split <;> omega
    have hz' := hz
    rw [hx] at hz'
    have each : ∀ i, i < len → ∃ q : Nd × Option Addr × Nat × Option Addr × Nat, (∀ j u, (nc q.1 (.slice q.2.1 q.1.data.length q.2.2.1) (.slice q.2.2.2.1 q.1.list.length q.2.2.2.2))[j]? = some u → W.cell? (a'.add (i * 10 + j)) = some u) ∧ By W q.2.1 q.1.data.length q.2.2.1 q.1.data ∧ Eg W q.2.2.2.1 q.1.list.length q.2.2.2.2 q.1.list ∧ Rb9 q.1 ∧ WfN q.1 := by
      intro i hi
      obtain ⟨cs', h1, h2⟩ := hc i (by omega)
      rw [cellsN9] at h1
      obtain ⟨_, hlen, hcell⟩ := World.cells?_some h1
      obtain ⟨q, da, dc, la, lc, rfl, hb, he, hr⟩ := open_node9 hlen h2 (fun k hk => hz' k (by
        simp only [DataW.weights, Try.underlying22]
        exact List.mem_cons_of_mem _ (List.mem_append_left _ (weightsAll_mem9 (d := D i) (List.mem_map.2 ⟨i, List.mem_range.2 hi, rfl⟩) hk))))
      refine ⟨(q, da, dc, la, lc), fun j u hj => ?_, hb, he, hr⟩
      have hj10 : j < 10 := (List.getElem?_eq_some_iff.1 hj).1
      have e := hcell j (by omega)
      rw [add_add] at e
      rw [e]; exact hj
    haveI : Inhabited (Nd × Option Addr × Nat × Option Addr × Nat) := ⟨(nz, none, 0, none, 0)⟩
    obtain ⟨q, hq⟩ := choose_lt each
    have hg : ∀ i, i < len → nd ((List.range len).map fun i => (q i).1) i = (q i).1 := fun i hi => by simp [nd, List.getD, hi]
    refine ⟨(List.range len).map fun i => (q i).1, ⟨by simp, hl, (by intro h; cases h), ?_⟩, ?_, fun i hi => by rw [hg i hi]; exact (hq i hi).2.2.2⟩
    · by_cases h0 : len = 0
      · exact .inl h0
      · right
        obtain ⟨b, off, spot⟩ := a'
        have hc0 := (hq 0 (by omega)).1 0 _ rfl
        have hspot : spot = none := by simpa [Addr.add] using World.cell?_spot hc0
        subst hspot
        refine ⟨b, off, rfl, ?_, fun i hi => ?_⟩
        · simpa [Addr.add] using World.block_lt_of_cell? W _ hc0
        · obtain ⟨g1, g2, g3, _⟩ := hq i hi
          rw [hg i hi]
          refine ⟨(q i).2.1, (q i).2.2.1, (q i).2.2.2.1, (q i).2.2.2.2, .at fun j u hj => ?_, g2, g3⟩
          have := g1 j u hj
          rw [addN9] at this
          rw [Nat.add_assoc]; exact this
    · have := hz' ((len + (m - len)) * Try.prog.bytesOf 70) (by simp [DataW.weights, Try.underlying22])
      rw [bytesN9] at this
      have := reach_le9
      omega
set_option maxRecDepth 100000 in
theorem open_tree9 {H : Type} {enc : TypeId × Value → H} {W : World} {base : Nat} {spare : Nat → Bool} {held : Bool} {r : Reach} {b0 : Nat} {v : Value} {d : DataW H} {p : List MemPlace}
    (hval : Value.okWide Try.prog W r b0 24 v) (h : DataW.Trod enc Try.prog W base spare held 24 v d p) (hz : ∀ n ∈ d.weights Try.prog 24, n ≤ reachBytes) :
    ∃ (a : Option Addr) (n cap : Nat) (now : Int) (ns : List Nd), v = .agg #[.slice a n cap, .int .i64 now] ∧ Ng W a n cap ns ∧ n ≤ 281474976710656 ∧ (∀ i, i < n → Rb9 (nd ns i) ∧ WfN (nd ns i)) ∧ inR now := by
  obtain ⟨cs, rfl, hsz⟩ := okWide_struct Try.underlying24 hval
  obtain ⟨fuel, hf⟩ := h
  simp only [Value.cells] at hf
  obtain ⟨xs, n, _, hx, hl, hlen, hfl⟩ := DataW.trod_struct Try.underlying24 hf
  have hs2 : cs.toList.length = 2 := by rw [hl]; kernel_rfl
  obtain ⟨c0, c1, hcs⟩ : ∃ c0 c1, cs.toList = [c0, c1] := by
    match e : cs.toList, hs2 with
    | [c0, c1], _ => exact ⟨c0, c1, rfl⟩
  rw [hcs] at hfl
  match xs, hlen with
  | [y0, y1], _ =>
    have h0 := hfl 0 _ rfl
    have h1 := hfl 1 _ rfl
    obtain ⟨a, len, cap, e0, ns, hng, hn, hrb⟩ := open_nodes9 (x := y0) h0 (fun k hk => hz k (by
      injection hx with hx1 hx2
      rw [hx1]; simp only [DataW.weights, Try.underlying24, DataW.weightsEach, List.map_cons, List.mem_append]; simp [hk]))
    obtain ⟨a1, e1, _, w1⟩ := DataW.trod_int Try.underlying3 h1
    have cN : Try.prog.cellsOf 22 = 1 := by kernel_rfl
    simp [cellsI9, cN] at e0 e1
    subst e0 e1
    refine ⟨a, len, cap, a1, ns, ?_, hng, hn, hrb, i64_in9 w1⟩
    congr 1
    apply Array.toList_inj.1
    exact hcs
end Go.Proofs.Ytbofidpoajdcmab.Cd
