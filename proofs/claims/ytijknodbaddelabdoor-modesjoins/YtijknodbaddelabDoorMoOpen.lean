/- Changes, a change and a mode with its mask, that came in, opened. -/
import Derived.Test.YtijknodbaddelabDoorMoList
import Derived.ProofKit
import Derived.OpenShut
import Derived.SizedLaws
import Derived.Deep.Slices
import Derived.Deep.SlicePairs
import Derived.Lib.SmallJoins
namespace Go.Proofs.YtijknodbaddelabDoor.Mo
open Go.ChangeShapes Go.WideShapes Go.ChangeAt Go.RowKit Go.Deep

theorem cellsC : Tryd.prog.cellsOf 30 = 5 := by kernel_rfl
theorem cellsB : Tryd.prog.cellsOf 4 = 1 := by kernel_rfl
theorem cellsI : Tryd.prog.cellsOf 3 = 1 := by kernel_rfl
theorem cellsU : Tryd.prog.cellsOf 5 = 1 := by kernel_rfl
theorem bytesC : Tryd.prog.bytesOf 30 = 32 := by kernel_rfl
theorem u8_back (n : Int) (h : (Lit.int .u8 n).wf = true) : ∃ c : UInt8, n = (c.toNat : Int) := by
  have h2 : 0 ≤ n ∧ n < 256 := by
    simp [Lit.wf] at h
    have h1 : IntKind.u8.min = 0 := by decide
    have h2 : IntKind.u8.max = 255 := by decide
    rw [h1, h2] at h
    omega
  refine ⟨UInt8.ofNat n.toNat, ?_⟩
  simp
  omega
/-- five cells that read as a change -/
theorem open_cells {H : Type} {enc : TypeId × Value → H} {W : World} {base fuel : Nat} {spare : Nat → Bool} {held : Bool} {cs : List Value} {x : DataW H × List MemPlace} (hl : cs.length = 5)
    (hf : DataW.trod enc Tryd.prog W base spare held fuel 30 cs = some x) : ∃ c : Ch, cs = cc c := by
  match cs, hl with
  | [c0, c1, c2, c3, c4], _ =>
    obtain ⟨xs, n, _, _, hl, hlen, hfl⟩ := DataW.trod_struct Tryd.underlying30 hf
    match xs, hlen with
    | [y0, y1, y2, y3, y4], _ =>
      have h0 := hfl 0 _ rfl
      have h1 := hfl 1 _ rfl
      have h2 := hfl 2 _ rfl
      have h3 := hfl 3 _ rfl
      have h4 := hfl 4 _ rfl
      obtain ⟨a0, e0, _, _⟩ := DataW.trod_int Tryd.underlying3 h0
      obtain ⟨a1, e1, _, w1⟩ := DataW.trod_int Tryd.underlying5 h1
      obtain ⟨a2, e2, _, _⟩ := DataW.trod_int Tryd.underlying3 h2
      obtain ⟨a3, e3, _, w3⟩ := DataW.trod_int Tryd.underlying5 h3
      obtain ⟨a4, e4, _⟩ := DataW.trod_bool Tryd.underlying4 h4
      obtain ⟨op, rfl⟩ := u8_back a1 w1
      obtain ⟨cp, rfl⟩ := u8_back a3 w3
      simp [cellsB, cellsI, cellsU] at e0 e1 e2 e3 e4
      subst e0 e1 e2 e3 e4
      exact ⟨⟨a0, op, a2, cp, a4⟩, rfl⟩
theorem open_change {H : Type} {enc : TypeId × Value → H} {W : World} {base : Nat} {spare : Nat → Bool} {held : Bool} {r : Reach} {b0 : Nat} {v : Value} {d : DataW H} {p : List MemPlace}
    (hval : Value.okWide Tryd.prog W r b0 30 v) (h : DataW.Trod enc Tryd.prog W base spare held 30 v d p) : ∃ c : Ch, v = .agg (cc c).toArray := by
  obtain ⟨cs, rfl, hsz⟩ := okWide_struct Tryd.underlying30 hval
  rw [cellsC] at hsz
  obtain ⟨fuel, hf⟩ := h
  simp only [Value.cells] at hf
  obtain ⟨c, hc⟩ := open_cells (by simpa using hsz) hf
  exact ⟨c, by rw [← hc]⟩
theorem open_at {H : Type} {enc : TypeId × Value → H} {W : World} {base : Nat} {spare : Nat → Bool} {held : Bool} {r : Reach} {b0 : Nat} {v : Value} {d : DataW H} {p : List MemPlace}
    (hval : Value.okWide Tryd.prog W r b0 24 v) (h : DataW.Trod enc Tryd.prog W base spare held 24 v d p) :
    ∃ (mode mask : Int) (dir : Bool), v = .agg #[.int .i64 mode, .int .i64 mask, .bool dir] := by
  obtain ⟨v0, v1, v2, y0, y1, y2, n, rfl, rfl, rfl, h0, h1, h2⟩ := Go.Joins.open_agg3 Tryd.underlying24 (by kernel_rfl) (by kernel_rfl) hval h
  obtain ⟨a, e0, _, _⟩ := DataW.trod_int Tryd.underlying3 h0
  obtain ⟨k, e1, _, _⟩ := DataW.trod_int Tryd.underlying3 h1
  obtain ⟨b, e2, _⟩ := DataW.trod_bool Tryd.underlying4 h2
  simp at e0 e1 e2
  subst e0 e1 e2
  exact ⟨a, k, b, rfl⟩
theorem open_changes {H : Type} {enc : TypeId × Value → H} {W : World} {base fuel : Nat} {spare : Nat → Bool} {held : Bool} {a : Option Addr} {len cap : Nat} {x : DataW H × List MemPlace}
    (hf : DataW.trod enc Tryd.prog W base spare held fuel 22 (Value.slice a len cap).cells.toList = some x) (hz : ∀ n ∈ x.1.weights Tryd.prog 22, n ≤ reachBytes) :
    ∃ cs : List Ch, Cg W a len cap cs ∧ len * 32 ≤ reachBytes := by
  rcases open_slice Tryd.underlying22 hf with ⟨hcs, _⟩ | ⟨a', len', cap', m, n, D, Pl, hcs, _, hl, hm, hmm, hx, hc⟩
  · simp [Value.cells] at hcs
    obtain ⟨rfl, rfl, rfl⟩ := hcs
    exact ⟨[], cg_nil W, by simp [reachBytes]⟩
  · simp [Value.cells] at hcs
    obtain ⟨rfl, rfl, rfl⟩ := hcs
    have hlm : len ≤ m := by rw [hmm]; split <;> omega
    have each : ∀ i, i < m → ∃ c : Ch, ∀ j, j < 5 → W.cell? (a'.add (i * 5 + j)) = (cc c)[j]? := by
      intro i hi
      obtain ⟨cs', h1, h2⟩ := hc i hi
      rw [cellsC] at h1
      obtain ⟨_, hlen, hcell⟩ := World.cells?_some h1
      obtain ⟨c, rfl⟩ := open_cells hlen h2
      refine ⟨c, fun j hj => ?_⟩
      have e := hcell j (by omega)
      rw [add_add] at e
      exact e
    haveI : Inhabited Ch := ⟨cz⟩
    obtain ⟨q, hq⟩ := choose_lt each
    have hg : ∀ i, i < len → ((List.range len).map q).getD i cz = q i := fun i hi => by simp [List.getD, hi]
    refine ⟨(List.range len).map q, ⟨by simp, hl, (by intro h; cases h), ?_⟩, ?_⟩
    · by_cases h0 : len = 0
      · exact .inl h0
      · right
        obtain ⟨b, off, spot⟩ := a'
        have hc0 := hq 0 (by omega) 0 (by omega)
        have hspot : spot = none := by simpa [Addr.add] using World.cell?_spot hc0
        subst hspot
        refine ⟨b, off, rfl, ?_, fun i hi => .at fun j u hj => ?_⟩
        · simpa [Addr.add] using World.block_lt_of_cell? W _ hc0
        · have hj5 : j < 5 := by rw [← cc_length]; exact (List.getElem?_eq_some_iff.1 hj).1
          have := hq i (by omega) j hj5
          rw [add_none] at this
          rw [hg i hi] at hj
          rw [Nat.add_assoc, this]; exact hj
    · have hz' := hz
      rw [hx] at hz'
      have := hz' ((len + (m - len)) * Tryd.prog.bytesOf 30) (by
        simp [DataW.weights, Tryd.underlying22])
      rw [bytesC] at this
      omega
end Go.Proofs.YtijknodbaddelabDoor.Mo
