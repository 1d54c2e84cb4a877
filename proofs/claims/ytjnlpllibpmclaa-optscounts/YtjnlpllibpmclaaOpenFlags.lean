/- A list of flags that came in, opened: it is empty, or its letters and texts lie at its address; and how long its texts may be. -/
import Derived.Test.YtjnlpllibpmclaaFlags
import Derived.ProofKit
import Derived.OpenShut
import Derived.SizedLaws
import Derived.Deep.SlicePairs
namespace Go.Proofs.Ytjnlpllibpmclaa.Flags
open Go.ChangeShapes Go.WideShapes Go.ChangeAt Go.RowKit Go.Deep

theorem Try.cellsFlag : Try.prog.cellsOf 35 = 2 := by kernel_rfl
theorem Try.cellsU8 : Try.prog.cellsOf 5 = 1 := by kernel_rfl
theorem Try.cellsStr : Try.prog.cellsOf 9 = 1 := by kernel_rfl
theorem Try.bytesFlag : Try.prog.bytesOf 35 = 24 := by kernel_rfl

theorem add_none (b off j : Nat) : (⟨b, off, none⟩ : Addr).add j = ⟨b, off + j, none⟩ := by unfold Addr.add; split <;> simp_all

theorem weightsAll_mem {H : Type} {P : Program} {e : TypeId} {d : DataW H} {n : Nat} : ∀ {l : List (DataW H)}, d ∈ l → n ∈ d.weights P e → n ∈ DataW.weightsAll P e l
  | [], h, _ => by simp at h
  | x :: l, h, hn => by
    simp only [DataW.weightsAll, List.mem_append]
    rcases List.mem_cons.1 h with rfl | h
    · exact .inl hn
    · exact .inr (weightsAll_mem h hn)

theorem open_flags {H : Type} {enc : TypeId × Value → H} {W : World} {base fuel : Nat} {spare : Nat → Bool} {held : Bool} {a : Option Addr} {len cap : Nat} {x : DataW H × List MemPlace}
    (hf : DataW.trod enc Try.prog W base spare held fuel 26 (Value.slice a len cap).cells.toList = some x) (hz : ∀ n ∈ x.1.weights Try.prog 26, n ≤ reachBytes) :
    ∃ (L : Nat → Int) (A : Nat → ByteArray), Fl W a len L A ∧ (∀ i, i < len → (A i).size ≤ reachBytes) ∧ len * 24 ≤ reachBytes ∧ ∀ i, i < len → 0 ≤ L i ∧ L i < 256 := by
  rcases open_slice_pairs Try.underlying26 Try.underlying35 Try.cellsFlag rfl rfl Try.cellsU8 Try.cellsStr hf with ⟨hcs, _⟩ | ⟨a', len', cap', m, n, V0, V1, D0, D1, P0, P1, hcs, _, hl, hm, hmm, hx, hc⟩
  · simp [Value.cells] at hcs
    obtain ⟨rfl, rfl, rfl⟩ := hcs
    exact ⟨fun _ => 0, fun _ => ByteArray.empty, .inl rfl, by intro i hi; omega, by simp [reachBytes], by intro i hi; omega⟩
  · simp [Value.cells] at hcs
    obtain ⟨rfl, rfl, rfl⟩ := hcs
    have hlm : len ≤ m := by rw [hmm]; split <;> omega
    have each : ∀ i, i < m → ∃ q : Int × ByteArray, V0 i = .int .u8 q.1 ∧ V1 i = .string q.2 ∧ D1 i = .lit (.string q.2.data.toList) ∧ (Lit.int .u8 q.1).wf = true := by
      intro i hi
      obtain ⟨_, _, h0, h1⟩ := hc i hi
      obtain ⟨k, e0, _, wk⟩ := DataW.trod_int Try.underlying5 h0
      obtain ⟨s, e1, e2, _⟩ := DataW.trod_string Try.underlying9 h1
      simp at e0 e1 e2
      exact ⟨(k, s), e0, e1, e2.1, wk⟩
    obtain ⟨q, hq⟩ := choose_lt each
    have hz' := hz
    rw [hx] at hz'
    refine ⟨fun i => (q i).1, fun i => (q i).2, ?_, ?_, ?_, ?_⟩
    · by_cases h0 : len = 0
      · exact .inl h0
      · right
        obtain ⟨b, off, spot⟩ := a'
        have hc0 := (hc 0 (by omega)).1
        have hspot : spot = none := by simpa [Addr.add] using World.cell?_spot hc0
        subst hspot
        refine ⟨b, off, rfl, fun i hi => ?_, ?_⟩
        · obtain ⟨g0, g1, _, _⟩ := hc i (by omega)
          obtain ⟨e0, e1, _, _⟩ := hq i (by omega)
          rw [e0] at g0
          rw [e1] at g1
          rw [add_none] at g0 g1
          exact ⟨g0, g1⟩
        · simpa [Addr.add] using World.block_lt_of_cell? W _ hc0
    · intro i hi
      obtain ⟨_, _, e2, _⟩ := hq i (by omega)
      have := hz' (q i).2.data.toList.length (by
        simp only [DataW.weights, Try.underlying26]
        refine List.mem_cons_of_mem _ (List.mem_append_left _ (weightsAll_mem (d := .agg [D0 i, D1 i]) (List.mem_map.2 ⟨i, List.mem_range.2 hi, rfl⟩) ?_))
        simp [DataW.weights, Try.underlying35, DataW.weightsEach, e2])
      simpa using this
    · have := hz' ((len + (m - len)) * Try.prog.bytesOf 35) (by
        simp [DataW.weights, Try.underlying26])
      rw [Try.bytesFlag] at this
      omega
    · intro i hi
      obtain ⟨_, _, _, wk⟩ := hq i (by omega)
      have := bounds_u8 wk
      exact ⟨this.1, Int.lt_of_le_of_lt this.2 (by decide)⟩
end Go.Proofs.Ytjnlpllibpmclaa.Flags
