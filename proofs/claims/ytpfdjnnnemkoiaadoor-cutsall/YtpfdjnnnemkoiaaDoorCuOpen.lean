/- A list of ranges that came in, opened. -/
import Derived.Test.YtpfdjnnnemkoiaaDoorCuList
import Derived.ProofKit
import Derived.OpenShut
import Derived.SizedLaws
import Derived.Deep.SlicePairs
import Derived.MakeChecks
namespace Go.Proofs.YtpfdjnnnemkoiaaDoor.Ls
open Go.ChangeShapes Go.WideShapes Go.ChangeAt Go.RowKit Go.Deep

theorem Tryd.cellsRange : Tryd.prog.cellsOf 48 = 2 := by kernel_rfl
theorem Tryd.cellsInt : Tryd.prog.cellsOf 3 = 1 := by kernel_rfl
theorem Tryd.bytesRange : Tryd.prog.bytesOf 48 = 16 := by kernel_rfl

theorem open_ranges {H : Type} {enc : TypeId × Value → H} {W : World} {base fuel : Nat} {spare : Nat → Bool} {held : Bool} {a : Option Addr} {len cap : Nat} {x : DataW H × List MemPlace}
    (hf : DataW.trod enc Tryd.prog W base spare held fuel 49 (Value.slice a len cap).cells.toList = some x) (hz : ∀ n ∈ x.1.weights Tryd.prog 49, n ≤ reachBytes) :
    ∃ rs : List R, Rg W a len cap rs ∧ len * 16 ≤ reachBytes ∧ ∀ r ∈ rs, (-9223372036854775808 ≤ r.1 ∧ r.1 ≤ 9223372036854775807) ∧ -9223372036854775808 ≤ r.2 ∧ r.2 ≤ 9223372036854775807 := by
  rcases open_slice_pairs Tryd.underlying49 Tryd.underlying48 Tryd.cellsRange rfl rfl Tryd.cellsInt Tryd.cellsInt hf with ⟨hcs, _⟩ | ⟨a', len', cap', m, n, V0, V1, D0, D1, P0, P1, hcs, _, hl, hm, hmm, hx, hc⟩
  · simp [Value.cells] at hcs
    obtain ⟨rfl, rfl, rfl⟩ := hcs
    exact ⟨[], rg_nil W, by simp [reachBytes], by intro r hr; simp at hr⟩
  · simp [Value.cells] at hcs
    obtain ⟨rfl, rfl, rfl⟩ := hcs
    have hlm : len ≤ m := by rw [hmm]; split <;> omega
    have each : ∀ i, i < m → ∃ q : Int × Int, V0 i = .int .i64 q.1 ∧ V1 i = .int .i64 q.2 ∧ (Lit.int .i64 q.1).wf = true ∧ (Lit.int .i64 q.2).wf = true := by
      intro i hi
      obtain ⟨_, _, h0, h1⟩ := hc i hi
      obtain ⟨k, e0, _, wk⟩ := DataW.trod_int Tryd.underlying3 h0
      obtain ⟨j, e1, _, wj⟩ := DataW.trod_int Tryd.underlying3 h1
      simp at e0 e1
      exact ⟨(k, j), e0, e1, wk, wj⟩
    obtain ⟨q, hq⟩ := choose_lt each
    have hz' := hz
    rw [hx] at hz'
    have hg : ∀ i, i < len → ((List.range len).map q).getD i rz = q i := fun i hi => by simp [List.getD, hi]
    refine ⟨(List.range len).map q, ⟨by simp, hl, (by intro h; cases h), ?_⟩, ?_, ?_⟩
    · by_cases h0 : len = 0
      · exact .inl h0
      · right
        obtain ⟨b, off, spot⟩ := a'
        have hc0 := (hc 0 (by omega)).1
        have hspot : spot = none := by simpa [Addr.add] using World.cell?_spot hc0
        subst hspot
        refine ⟨b, off, rfl, ?_, fun i hi => ?_⟩
        · simpa [Addr.add] using World.block_lt_of_cell? W _ hc0
        · obtain ⟨g0, g1, _, _⟩ := hc i (by omega)
          obtain ⟨e0, e1, _, _⟩ := hq i (by omega)
          rw [e0] at g0
          rw [e1] at g1
          rw [add_none] at g0 g1
          rw [hg i hi]
          exact ⟨g0, g1⟩
    · have := hz' ((len + (m - len)) * Tryd.prog.bytesOf 48) (by
        simp [DataW.weights, Tryd.underlying49])
      rw [Tryd.bytesRange] at this
      omega
    · intro r hr
      obtain ⟨i, hi, rfl⟩ := List.mem_map.1 hr
      obtain ⟨_, _, w1, w2⟩ := hq i (by have := List.mem_range.1 hi; omega)
      exact ⟨bounds_i64 w1, bounds_i64 w2⟩

end Go.Proofs.YtpfdjnnnemkoiaaDoor.Ls
